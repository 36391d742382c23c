/-
  A log's record, by the program: written, and read at a cursor.
-/
import Derived.Test.YtiganhkmnklhlaaDoorLogMath
import Derived.Test.YtiganhkmnklhlaaDoorBldE
import Derived.Test.YtiganhkmnklhlaaDoorCutS
namespace Go.Proofs.YtiganhkmnklhlaaDoor
open Go.RowKit
set_option linter.unusedVariables false
set_option linter.unusedSimpArgs false

/-- The tables lie there, whatever grows from B on. -/
def LaidAt (B : Nat) (w : World) : Prop := ∀ W, Below B w W → LaidE W ∧ LaidK W ∧ ∃ m, W.cell? ⟨0, 0, none⟩ = some (.int .i64 m)
theorem LaidAt.next {B : Nat} {w w' : World} (h : LaidAt B w) (hb : Below B w w') : LaidAt B w' := fun W k => h W (hb.trans k)
theorem LaidAt.up {B B' : Nat} {w : World} (h : LaidAt B w) (hb : B ≤ B') : LaidAt B' w := fun W k => h W (k.mono hb)
theorem LaidAt.here {B : Nat} {w : World} (h : LaidAt B w) : LaidE w ∧ LaidK w ∧ ∃ m, w.cell? ⟨0, 0, none⟩ = some (.int .i64 m) := h w (Below.refl _ _)

theorem text_is {k : Nat} {x s1 s2 : ByteArray} (h1 : Hid (s1 = ⟨(Lib.decDigits ((k : Int)).toNat).toArray⟩)) (h2 : Hid (s2 = ⟨(Lib.decDigits ((x.size : Int)).toNat).toArray⟩)) : s1 ++ ⟨#[58]⟩ ++ s2 ++ ⟨#[58]⟩ ++ x = (⟨(frB k x).toArray⟩ : ByteArray) := by
  rw [h1.out, h2.out, Int.toNat_natCast, Int.toNat_natCast]
  apply ByteArray.ext
  simp [frB]
theorem text_size (k : Nat) (x : ByteArray) (hk : k ≤ 9223372036854775807) (hx : x.size ≤ 9223372036854775807) : (⟨(frB k x).toArray⟩ : ByteArray).size ≤ x.size + 42 := by
  have := dec_len k hk; have := dec_len x.size hx
  show (frB k x).toArray.size ≤ _
  rw [List.size_toArray, frB]
  have e : x.data.toList.length = x.size := by simp
  simp only [List.length_append, List.length_cons, e]; omega
theorem dec7 {n : Nat} (h : n < 10000000) : (Lib.decDigits n).length ≤ 7 := dec_len' 6 n (by omega)
theorem text_size7 (k : Nat) (x : ByteArray) (hk : k < 10000000) (hx : x.size < 10000000) : (⟨(frB k x).toArray⟩ : ByteArray).size ≤ x.size + 16 := by
  have := dec7 hk; have := dec7 hx
  show (frB k x).toArray.size ≤ _
  rw [List.size_toArray, frB]
  have e : x.data.toList.length = x.size := by simp
  simp only [List.length_append, List.length_cons, e]; omega
theorem hash_size (l : List UInt8) : (⟨(hashS l).toArray⟩ : ByteArray).size = 64 := by
  show (hashS l).toArray.size = 64
  rw [List.size_toArray, hashS_len]
theorem cells_frame {bs : List Value} {k : Nat} {x T H : ByteArray} (hT : T = ⟨(frB k x).toArray⟩) (hH : H = ⟨(hashS T.data.toList).toArray⟩) : bs ++ Lib.strCells T ++ Lib.strCells (H.extract 0 12) ++ [.int .u8 59] = bs ++ Lib.byteCells (frame k x) := by
  have e1 : Lib.strCells T = Lib.byteCells (frB k x) := by rw [hT]; rfl
  have e2 : Lib.strCells (H.extract 0 12) = Lib.byteCells (sum12 (frB k x)) := by
    have : (H.extract 0 12).data.toList = sum12 (frB k x) := by
      rw [Lib.extract_data, hH, hT]; simp [sum12]
    unfold Lib.strCells Lib.byteCells
    rw [this]
  rw [e1, e2, frame, Lib.byteCells_append, Lib.byteCells_append]
  simp [Lib.byteCells, List.append_assoc]

def AddW (B b : Nat) (bs : List Value) (w : World) (e : Ending) (w' : World) : Prop := e = .returned (.tuple #[]) ∧ BldU B b bs w' ∧ Below B w w'

set_option maxRecDepth 100000 in
set_option maxHeartbeats 4000000 in
theorem addW (B b k : Nat) (bs : List Value) (x : ByteArray) (w : World) (h : Bld B b bs w) (hk : k ≤ 1048576) (hx : x.size ≤ 1048576) (hbs : bs.length ≤ 10000000) (hBw : B ≤ w.heap.size) (hL : LaidAt B w) :
    Calls Tryd.prog 23 #[.pointer (some ⟨b, 0, none⟩), .int .i64 k, .string x] w (AddW B b (bs ++ Lib.byteCells (frame k x)) w) := by
  have HL := Lib.hid hL
  have HB := Lib.hid h
  have HT := Lib.hid (text_size7 k x (by omega) (by omega))
  clear hL h
  go_enter Tryd.func23, Tryd.ntmps23
  go_wp2_with fail
  refine (itoaS k _ HL.out.here.1.1 (by omega) (by omega)).mono ?_
  rintro e w1 ⟨s1, rfl, hl1, he1, hb1, -⟩
  have hB1 := hb1.mono hBw
  go_wp2_with fail
  refine (itoaS x.size _ (HL.out.next hB1).here.1.1 (by omega) (by omega)).mono ?_
  rintro e w2 ⟨s2, rfl, hl2, he2, hb2, -⟩
  have hB2 := hB1.trans (hb2.mono (Nat.le_trans hBw hb1.size))
  have hle2 := Nat.le_trans hBw hB2.size
  have HT2 := Lib.hid (text_is he1 he2)
  go_wp2_with fail
  rw [HT2.out]
  generalize hTT : (⟨(frB k x).toArray⟩ : ByteArray) = T at *
  have HTT := Lib.hid hTT
  have HZ := HT.out
  clear hTT HT2
  refine (writeStr B b bs T _ ((HB.out.kept hb1).kept hb2) (by omega) hle2).mono ?_
  rintro e w3 ⟨rfl, h3, hb3⟩
  have hB3 := hB2.trans hb3
  have H3 := Lib.hid h3
  clear h3
  go_wp2_with fail
  have hle3 := Nat.le_trans hBw hB3.size
  have hs := hash_size T.data.toList
  have SUM : Hid (∀ W, Below w3.heap.size w3 W → Calls Tryd.prog 34 #[.string T] W fun e w' => e = .returned (.string ⟨(hashS T.data.toList).toArray⟩) ∧ Below W.heap.size W w') :=
    fun W k => implSum T W (by omega) (HL.out.next (hB3.trans (k.mono hle3))).here.2.1
  generalize hH : (⟨(hashS T.data.toList).toArray⟩ : ByteArray) = H at *
  have HH := Lib.hid hH
  clear hH
  have hx12 : (H.extract 0 12).size = 12 := by rw [ByteArray.size_extract]; omega
  have hq : bs.length + T.size + (H.extract 0 12).size ≤ 140737488355328 := by omega
  have HQ : Hid ((bs ++ Lib.strCells T).length + (H.extract 0 12).size ≤ 140737488355328) := by show _ ≤ _; rw [List.length_append, Lib.strCells_length]; exact hq
  go_region_with (first
    | (go_at_call 34; refine (SUM.out _ ?_).mono ?_; (first | exact Below.refl _ _ | exact (Below.refl _ _).drew); rintro e w4 ⟨rfl, hb4⟩)
    | (go_at_call 22; go_must (refine (writeStr B b (bs ++ Lib.strCells T) (H.extract 0 12) w4 ?_ ?_ ?_).mono ?_); go_must (exact H3.out.any.kept ((Below.refl _ w3).drew.trans hb4)); go_must (exact HQ.out); go_must (exact Nat.le_trans hle3 hb4.size); rintro e w5 ⟨rfl, h5, hb5⟩; have hB5 := hB3.trans ((((Below.refl _ w3).drew.trans hb4).mono hle3).trans hb5); have H5 := Lib.hid h5; clear h5))
  have HQ5 : Hid ((bs ++ Lib.strCells T ++ Lib.strCells (H.extract 0 12)).length + 1 ≤ 140737488355328) := by show _ ≤ _; rw [List.length_append, List.length_append, Lib.strCells_length, Lib.strCells_length]; omega
  go_wp2_with fail
  refine (writeByteB B b _ 59 _ H5.out.any HQ5.out (Nat.le_trans hBw hB5.size)).mono ?_
  rintro e w6 ⟨rfl, h6, hb6⟩
  have hB6 := hB5.trans hb6
  rw [cells_frame HTT.out.symm HH.out.symm] at h6
  have H6 := Lib.hid h6
  clear h6
  go_wp2
  go_end0
  exact ⟨rfl, H6.out, hB6⟩
end Go.Proofs.YtiganhkmnklhlaaDoor
