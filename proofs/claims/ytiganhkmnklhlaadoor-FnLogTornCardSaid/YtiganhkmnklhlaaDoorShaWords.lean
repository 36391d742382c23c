/-
  The constants and the words of a block, by the model.
-/
import Derived.Test.YtiganhkmnklhlaaDoorShaBlock
import Derived.Test.YtiganhkmnklhlaaDoorOwnV
import Derived.Deep.RegionLaw
import Derived.Deep.DeepMust
import Derived.OwnWalk
import Derived.Deep.OwnRows
import Derived.Deep.WholeRow
import Derived.Laws.MakeOwn
import Derived.Maps.AppendAt
namespace Go.Proofs.YtiganhkmnklhlaaDoor
open Go.RowKit
set_option linter.unusedVariables false
set_option linter.unusedSimpArgs false

theorem info_u32 : (Tryd.prog.info? 76).map (fun i => (i.zero, i.size, i.bytes)) = some (some (.int .u32 0), 1, 4) := by kernel_rfl
theorem w4_is (a b c d : Int) : w4 a b c d = bits .or .u32 (bits .or .u32 (bits .or .u32 (IntKind.u32.wrap (IntKind.u32.wrap a * 16777216)) (IntKind.u32.wrap (IntKind.u32.wrap b * 65536))) (IntKind.u32.wrap (IntKind.u32.wrap c * 256))) (IntKind.u32.wrap d) := rfl
def u32s (l : List Int) : List Value := l.map fun x => Value.int .u32 x
theorem u32s_app (a b : List Int) : u32s (a ++ b) = u32s a ++ u32s b := by simp [u32s]
theorem u32s_len (a : List Int) : (u32s a).length = a.length := by simp [u32s]
theorem u32s_at (l : List Int) (j : Nat) (h : j < l.length) : (u32s l)[j]? = some (.int .u32 (l.getD j 0)) := by
  simp [u32s, h]

set_option maxRecDepth 100000 in
set_option maxHeartbeats 4000000 in
theorem constsS (w : World) : Calls Tryd.prog 77 #[] w fun e w' => e = .returned (.slice (some ⟨w.heap.size, 0, none⟩) 64 64) ∧ w' = w.alloc (.cells kArr 76) := by
  go_enter Tryd.func77, Tryd.ntmps77
  go_wp2
  go_ret
  exact ⟨rfl, rfl⟩

/-- The cells of a block of bytes. -/
def BytesOf (w : World) (g o : Nat) (t : List UInt8) : Prop := ∀ i, i < 64 → w.cell? ⟨g, o + i, none⟩ = some (.int .u8 (byteAt t i))
theorem first16 (t : List UInt8) (k : Nat) (h : k < 16) : u32s ((List.range (k + 1)).map (w16 t)) = u32s ((List.range k).map (w16 t)) ++ [.int .u32 (w16 t k)] := by
  rw [List.range_succ, List.map_append, u32s_app]; rfl
theorem wordsL_next (t : List UInt8) (n : Nat) : u32s (wordsL t (n + 1)) = u32s (wordsL t n) ++ [.int .u32 (nextW (wordsL t n))] := by
  rw [wordsL, u32s_app]; rfl
def WordsPost (t : List UInt8) (w : World) (e : Ending) (w' : World) : Prop := ∃ a c, e = .returned (.slice a 64 c) ∧ OwnV w.heap.size w' (.slice a 64 c) (u32s (wordsL t 48)) ∧ Below w.heap.size w w'

theorem OwnV.form {B n : Nat} {w : World} {a : Option Addr} {c : Nat} {l : List Int} (h : OwnV B w (.slice a n c) (u32s l)) (h0 : 0 < (u32s l).length) :
    ∃ g o, a = some ⟨g, o, none⟩ ∧ g < w.heap.size ∧ ∀ j, j < (u32s l).length → w.cell? ⟨g, o + j, none⟩ = some (.int .u32 (l.getD j 0)) := by
  rcases h with ⟨-, h⟩ | ⟨g, o, cap, h1, h2, h3, h4, h5, h6⟩
  · rw [h] at h0; simp at h0
  · cases h1
    exact ⟨g, o, rfl, h3, fun j hj => (h5 j hj).trans (u32s_at l j (by rwa [u32s_len] at hj))⟩

set_option maxRecDepth 100000 in
set_option maxHeartbeats 100000000 in
theorem wordsS (g o cap : Nat) (t : List UInt8) (w : World) (hg : g < w.heap.size) (hc : BytesOf w g o t) :
    Calls Tryd.prog 76 #[.slice (some ⟨g, o, none⟩) 64 cap] w (WordsPost t w) := by
  obtain ⟨i0, hi, hz0, hz1, hz2⟩ := info_parts info_u32
  have hmk := run_make (P := Tryd.prog) w 93 76 i0 (.int .u32 0) Tryd.underlying93 hi hz0 .i64 .i64 0 64 (by omega) (by omega) (by rw [hz2]; omega) (by omega)
  have hmade : OwnV w.heap.size (w.alloc (.cells (madeCells #[.int .u32 0] 64) 76)) (.slice (some ⟨w.heap.size, 0, none⟩) 0 64) [] := by
    refine Or.inr ⟨w.heap.size, 0, 64, rfl, Nat.le_refl _, by simp, by simp, fun j hj => by simp at hj, fun j hj => ?_⟩
    have hr := World.rowIs_made w (.int .u32 0) 64 76
    rw [Nat.zero_add]
    exact ⟨by rw [hr.cell hj]; rfl, hr.frozen j⟩
  have HC := Lib.hid hc
  clear hc
  go_enter Tryd.func76, Tryd.ntmps76
  go_wp2_with fail
  go_loopw [3, 4] (fun v i wr => ∃ (k : Nat) (a : Option Addr) (c : Nat), v = .slice a k c ∧ i = .int .i64 k ∧ k ≤ 16 ∧ OwnV w.heap.size wr (.slice a k c) (u32s ((List.range k).map (w16 t))) ∧ Below w.heap.size w wr) (fun _ i _ => 16 - (intOf i).toNat)
  case atStart => exact ⟨0, _, _, rfl, rfl, by omega, hmade, (Below.refl _ _).alloc (Nat.le_refl _) _⟩
  case round =>
    clear hmade hmk
    obtain ⟨k, a, c, rfl, rfl, hk, ho, hb⟩ := hrel
    have HO := Lib.hid ho
    have hle : (u32s ((List.range k).map (w16 t))).length = k := by simp [u32s]
    clear ho
    rcases Nat.lt_or_ge k 16 with hlt | hge
    · obtain ⟨m, hm⟩ : ∃ m : Nat, m = 4 * k := ⟨_, rfl⟩
      obtain ⟨m1, hm1⟩ : ∃ m1 : Nat, m1 = 4 * k + 1 := ⟨_, rfl⟩
      obtain ⟨m2, hm2⟩ : ∃ m2 : Nat, m2 = 4 * k + 2 := ⟨_, rfl⟩
      obtain ⟨m3, hm3⟩ : ∃ m3 : Nat, m3 = 4 * k + 3 := ⟨_, rfl⟩
      have i0' : (m : Int) < 64 := by omega
      have i1 : (m1 : Int) < 64 := by omega
      have i2 : (m2 : Int) < 64 := by omega
      have i3 : (m3 : Int) < 64 := by omega
      have q0 : IntKind.i64.wrap (4 * (k : Int)) = (m : Int) := by rw [IntWalk.i64_in _ (by omega)]; omega
      have q1 : IntKind.i64.wrap ((m : Int) + 1) = (m1 : Int) := by rw [IntWalk.i64_in _ (by omega)]; omega
      have q2 : IntKind.i64.wrap ((m : Int) + 2) = (m2 : Int) := by rw [IntWalk.i64_in _ (by omega)]; omega
      have q3 : IntKind.i64.wrap ((m : Int) + 3) = (m3 : Int) := by rw [IntWalk.i64_in _ (by omega)]; omega
      have b0 : wr.cell? ⟨g, o + m, none⟩ = some (.int .u8 (byteAt t m)) := (hb.cell (p := ⟨g, o + m, none⟩) hg).trans (HC.out m (by omega))
      have b1 : wr.cell? ⟨g, o + m1, none⟩ = some (.int .u8 (byteAt t m1)) := (hb.cell (p := ⟨g, o + m1, none⟩) hg).trans (HC.out m1 (by omega))
      have b2 : wr.cell? ⟨g, o + m2, none⟩ = some (.int .u8 (byteAt t m2)) := (hb.cell (p := ⟨g, o + m2, none⟩) hg).trans (HC.out m2 (by omega))
      have b3 : wr.cell? ⟨g, o + m3, none⟩ = some (.int .u8 (byteAt t m3)) := (hb.cell (p := ⟨g, o + m3, none⟩) hg).trans (HC.out m3 (by omega))
      have hv : w16 t k = w4 (byteAt t m) (byteAt t m1) (byteAt t m2) (byteAt t m3) := by rw [hm, hm1, hm2, hm3]; rfl
      have Hv := Lib.hid hv
      clear hm hm1 hm2 hm3 hv
      have hgs : g < wr.heap.size := Nat.lt_of_lt_of_le hg hb.size
      go_wp2_with fail
      go_region_law (refine step_append_ownV (B := w.heap.size) (w := ?ew) (v := ?ev) (xs := (u32s ((List.range k).map (w16 t)))) ?ea ?es ?ex 93 ?eb 76 i0 (.int .u32 0) 4 ?ec ?ed ?ef ?eg ?eh ?ei ?ej ?e0 ?e1 ⟨wr.heap.size, 0, none⟩ 1 1 [Value.int .u32 (bits .or .u32 (bits .or .u32 (bits .or .u32 (IntKind.u32.wrap (IntKind.u32.wrap (byteAt t m) * 16777216)) (IntKind.u32.wrap (IntKind.u32.wrap (byteAt t m1) * 65536))) (IntKind.u32.wrap (IntKind.u32.wrap (byteAt t m2) * 256))) (IntKind.u32.wrap (byteAt t m3)))] ?ek ?el ?e2 ?e3 ?e4 ?e5 ?e6 (k + 1) ?e7 ?_; (case ea => rfl); (case eb => rfl); (case ej => rfl); (case e0 => go_must (exact HO.out.grown (Below.drew ((Below.refl _ _).alloc (Nat.le_refl _) _)))); (case ek => rfl); (case ec => exact Tryd.underlying93); (case ed => exact hi); (case ef => exact hz0); (case eg => exact hz1); (case eh => exact hz2); (case ei => rfl); (case el => rfl); (case e1 => go_must (have := hb.size; simp; omega)); (case e2 => go_must (exact World.news_of_block (heap_alloc_last _ _))); (case e3 => go_must (intro u hu; simp at hu; first | (subst hu; rfl) | (rcases hu with rfl | rfl <;> rfl) | (rcases hu with rfl | rfl | rfl | rfl <;> rfl))); (case e4 => go_must (omega)); (case e5 => go_must (unfold maxLen; omega)); (case e6 => go_must (omega)); (case e7 => go_must (omega)); intro a2 c2 w2 ho2 hb2)
      all_goals
        go_wp2
        go_roundw
        case rel => exact ⟨k + 1, a2, c2, rfl, by go_num, by omega, by rw [first16 t k hlt, Hv.out, w4_is]; exact ho2, ((hb.alloc hb.size _).drew).trans hb2⟩
        case measure => simp [intOf]; omega
    · have hk16 : k = 16 := by omega
      have HO2 : Hid (OwnV w.heap.size wr (.slice a k c) (u32s (wordsL t 0))) := by
        have h : u32s (wordsL t 0) = u32s ((List.range k).map (w16 t)) := by rw [hk16]; rfl
        rw [h]; exact HO
      have HK := Lib.hid hk16
      clear HO hle hk16
      go_wp2_with fail
      go_loopw [3, 5] (fun v i wr => ∃ (n : Nat) (a : Option Addr) (c : Nat), v = .slice a n c ∧ i = .int .i64 n ∧ 16 ≤ n ∧ n ≤ 64 ∧ OwnV w.heap.size wr (.slice a n c) (u32s (wordsL t (n - 16))) ∧ Below w.heap.size w wr) (fun _ i _ => 64 - (intOf i).toNat)
      case atStart => exact ⟨16, a, c, by rw [HK.out], rfl, by omega, by omega, by have h := HO2.out; rw [HK.out] at h; exact h, hb⟩
      case round =>
        clear HO2 hb HK hge hk
        obtain ⟨n, a, c, rfl, rfl, h16, h64, ho, hb⟩ := hrel
        have hle : (u32s (wordsL t (n - 16))).length = n := by rw [u32s_len, words_len]; omega
        rcases Nat.lt_or_ge n 64 with hlt | hge
        · obtain ⟨gg, oo, rfl, hgg, hcell⟩ := ho.form (by rw [hle]; omega)
          have HO := Lib.hid ho
          obtain ⟨j15, hj15⟩ : ∃ j : Nat, j = n - 15 := ⟨_, rfl⟩
          obtain ⟨j2, hj2⟩ : ∃ j : Nat, j = n - 2 := ⟨_, rfl⟩
          obtain ⟨j16, hj16⟩ : ∃ j : Nat, j = n - 16 := ⟨_, rfl⟩
          obtain ⟨j7, hj7⟩ : ∃ j : Nat, j = n - 7 := ⟨_, rfl⟩
          have q15 : IntKind.i64.wrap ((n : Int) - 15) = (j15 : Int) := by rw [IntWalk.i64_in _ (by omega)]; omega
          have q2 : IntKind.i64.wrap ((n : Int) - 2) = (j2 : Int) := by rw [IntWalk.i64_in _ (by omega)]; omega
          have q16 : IntKind.i64.wrap ((n : Int) - 16) = (j16 : Int) := by rw [IntWalk.i64_in _ (by omega)]; omega
          have q7 : IntKind.i64.wrap ((n : Int) - 7) = (j7 : Int) := by rw [IntWalk.i64_in _ (by omega)]; omega
          have i15 : (j15 : Int) < n := by omega
          have i2 : (j2 : Int) < n := by omega
          have i16 : (j16 : Int) < n := by omega
          have i7 : (j7 : Int) < n := by omega
          have c15 := hcell j15 (by omega)
          have c2 := hcell j2 (by omega)
          have c16 := hcell j16 (by omega)
          have c7 := hcell j7 (by omega)
          have hnx : nextW (wordsL t (n - 16)) = ((wordsL t (n - 16)).getD j16 0 + mixFar ((wordsL t (n - 16)).getD j15 0) + (wordsL t (n - 16)).getD j7 0 + mixNear ((wordsL t (n - 16)).getD j2 0)) % 4294967296 := by
            rw [nextW, words_len, hj15, hj2, hj16, hj7]
            rw [show 16 + (n - 16) - 16 = n - 16 from by omega, show 16 + (n - 16) - 15 = n - 15 from by omega, show 16 + (n - 16) - 7 = n - 7 from by omega, show 16 + (n - 16) - 2 = n - 2 from by omega]
          have hnext := wordsL_next t (n - 16)
          rw [hnx, show n - 16 + 1 = n + 1 - 16 from by omega] at hnext
          generalize (wordsL t (n - 16)).getD j15 0 = x15 at *
          generalize (wordsL t (n - 16)).getD j2 0 = x2 at *
          generalize (wordsL t (n - 16)).getD j16 0 = x16 at *
          generalize (wordsL t (n - 16)).getD j7 0 = x7 at *
          have HN := Lib.hid hnext
          have HL := Lib.hid hle
          clear hcell hj15 hj2 hj16 hj7 ho hle hnext hnx
          go_wp2_with fail
          refine (tn7 x15 _).mono ?_
          rintro e w1 ⟨rfl, hd1⟩
          have hb1 := drew_below (B := w.heap.size) hd1
          go_wp2_with fail
          refine (tn18 x15 _).mono ?_
          rintro e w2 ⟨rfl, hd2⟩
          have hb2 := hb1.trans (drew_below (B := w.heap.size) hd2)
          go_wp2_with fail
          refine (tn17 x2 _).mono ?_
          rintro e w3 ⟨rfl, hd3⟩
          have hb3 := hb2.trans (drew_below (B := w.heap.size) hd3)
          go_wp2_with fail
          refine (tn19 x2 _).mono ?_
          rintro e w4 ⟨rfl, hd4⟩
          have hb4 := hb3.trans (drew_below (B := w.heap.size) hd4)
          have hD : Below wr.heap.size wr w4 := (((drew_below hd1).trans (drew_below hd2)).trans (drew_below hd3)).trans (drew_below hd4)
          have d16 := (hD.cell (p := ⟨gg, oo + j16, none⟩) hgg).trans c16
          have d7 := (hD.cell (p := ⟨gg, oo + j7, none⟩) hgg).trans c7
          have HO4 := Lib.hid (HO.out.grown hD)
          go_wp2_with fail
          generalize hA : (bits .xor .u32 (bits .xor .u32 (rotr 128 33554432 x15) (rotr 262144 16384 x15)) (x15 / 8)) = A
          generalize hC : (bits .xor .u32 (bits .xor .u32 (rotr 131072 32768 x2) (rotr 524288 8192 x2)) (x2 / 1024)) = C
          have hval : IntKind.u32.wrap (IntKind.u32.wrap (IntKind.u32.wrap (x16 + A) + x7) + C) = (x16 + mixFar x15 + x7 + mixNear x2) % 4294967296 := by
            rw [show mixFar x15 = A from hA, show mixNear x2 = C from hC]
            show (((x16 + A) % 4294967296 + x7) % 4294967296 + C) % 4294967296 = _
            omega
          have HV := Lib.hid hval
          have hle := HL.out
          have hbq := hb.trans hb4
          have hgs : gg < w4.heap.size := Nat.lt_of_lt_of_le hgg hD.size
          clear hA hC hval hd1 hd2 hd3 hd4 hb1 hb2 hb3 c15 c2 c16 c7
          go_region_law (refine step_append_ownV (B := w.heap.size) (w := ?fw) (v := ?fv) (xs := (u32s (wordsL t (n - 16)))) ?fa ?fs ?fx 93 ?fb 76 i0 (.int .u32 0) 4 ?fc ?fd ?ff ?fg ?fh ?fi ?fj ?f0 ?f1 ⟨w4.heap.size, 0, none⟩ 1 1 [Value.int .u32 (IntKind.u32.wrap (IntKind.u32.wrap (IntKind.u32.wrap (x16 + A) + x7) + C))] ?fk ?fl ?f2 ?f3 ?f4 ?f5 ?f6 (n + 1) ?f7 ?_; (case fa => rfl); (case fb => rfl); (case fj => rfl); (case f0 => go_must (exact HO4.out.grown (Below.drew ((Below.refl _ _).alloc (Nat.le_refl _) _)))); (case fk => rfl); (case fc => exact Tryd.underlying93); (case fd => exact hi); (case ff => exact hz0); (case fg => exact hz1); (case fh => exact hz2); (case fi => rfl); (case fl => rfl); (case f1 => go_must (have := hbq.size; simp; omega)); (case f2 => go_must (exact World.news_of_block (heap_alloc_last _ _))); (case f3 => go_must (intro u hu; simp at hu; first | (subst hu; rfl) | (rcases hu with rfl | rfl <;> rfl) | (rcases hu with rfl | rfl | rfl | rfl <;> rfl))); (case f4 => go_must (omega)); (case f5 => go_must (unfold maxLen; omega)); (case f6 => go_must (omega)); (case f7 => go_must (omega)); intro a2 c2 w2 ho2 hb2)
          all_goals
            go_wp2
            go_roundw
            case rel => exact ⟨n + 1, a2, c2, rfl, by go_num, by omega, by omega, by rw [HN.out, ← HV.out]; exact ho2, ((hbq.alloc hbq.size _).drew).trans hb2⟩
            case measure => simp [intOf]; omega
        · obtain rfl : n = 64 := by omega
          have HO := Lib.hid ho
          clear ho hle
          go_wp2_with fail
          go_ret
          exact ⟨a, c, rfl, HO.out, hb⟩
end Go.Proofs.YtiganhkmnklhlaaDoor
