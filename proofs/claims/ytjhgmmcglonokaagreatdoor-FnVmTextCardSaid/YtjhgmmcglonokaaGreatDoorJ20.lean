/-
  Whether a rule fits: the program's answer, by a count in memory.
  How many numbers an op takes, and what is marked at a place: the model's side.
  What a program has at hand at each place: the mathematical answer.
  A program's text, and whether it is ok: plain facts; no law is proved here.
  Whether a place has just what its op needs: the program's answer.
-/
import Derived.Test.YtjhgmmcglonokaaGreatDoorJ19
import Derived.Test.YtjhgmmcglonokaaGreatDoorJ16
import Derived.Lib.QuietBelow
import Derived.Deep.Cut
import Derived.Test.YtjhgmmcglonokaaGreatDoorRuleMath
namespace Go.Proofs.YtjhgmmcglonokaaGreatDoor
open Go.RowKit
set_option linter.unusedVariables false
set_option linter.unusedSimpArgs false

mutual
theorem TrF.lt {N : Nat → Prop} {w : World} : ∀ (t : Tr) (f : Fld), TrF N w t f → TrF (fun b => N b ∧ b < w.heap.size) w t f
  | .node o n nm ks ms, f, h => by
    rw [TrF] at h ⊢
    obtain ⟨h1, h2, h3, h4, h7, h5, h6⟩ := h
    refine ⟨h1, h2, h3, h4, h7, ?_, ?_⟩
    · obtain ⟨g1, g2⟩ := h5
      refine ⟨g1, ?_⟩
      rcases g2 with g | ⟨b, off, k1, k2, k3, k4⟩
      · exact Or.inl g
      · exact Or.inr ⟨b, off, k1, ⟨k2, k3⟩, k3, k4⟩
    rcases h6 with h | ⟨b, off, k1, k2, k3, k4⟩
    · exact Or.inl h
    · exact Or.inr ⟨b, off, k1, ⟨k2, k3⟩, k3, RowF.lt b off ks 0 k4⟩
theorem RowF.lt {N : Nat → Prop} {w : World} (b off : Nat) : ∀ (ks : List Tr) (i : Nat), RowF N w b off ks i → RowF (fun b => N b ∧ b < w.heap.size) w b off ks i
  | [], i, h => by rw [RowF]; trivial
  | t :: r, i, h => by
    rw [RowF] at h ⊢
    obtain ⟨⟨f, h1, h2⟩, h3⟩ := h
    exact ⟨⟨f, h1, TrF.lt t f h2⟩, RowF.lt b off r (i + 1) h3⟩
end
theorem grown_any {w w' : World} {row : Option Nat} (h : Below w.heap.size w w') : w.grownBy w' row := ⟨h.os, h.tape, h.output, h.size, fun i hi _ => h.block i hi⟩
/-- A count in memory. -/
def Cnt (w : World) (cb : Nat) (p : Int) : Prop := cb < w.heap.size ∧ w.cell? ⟨cb, 0, none⟩ = some (.int .i64 p) ∧ w.frozen? ⟨cb, 0, none⟩ = false
theorem Cnt.kept {w w' : World} {cb : Nat} {p : Int} (h : Cnt w cb p) (hb : Below w.heap.size w w') : Cnt w' cb p := by
  have e := hb.block cb h.1
  exact ⟨Nat.lt_of_lt_of_le h.1 hb.size, (World.cell?_of_block (a := ⟨cb, 0, none⟩) e).trans h.2.1, (World.frozen?_of_block (a := ⟨cb, 0, none⟩) e).trans h.2.2⟩
theorem Cnt.set {w : World} {cb : Nat} {p q : Int} (h : Cnt w cb p) : Cnt (w.setCell ⟨cb, 0, none⟩ (.int .i64 q)) cb q := by
  obtain ⟨h1, h2, h3⟩ := h
  refine ⟨by simpa [World.setCell] using h1, ?_, ?_⟩
  · exact World.cell?_setCell_same (h := h2) ..
  · rw [World.frozen?_setCell]; exact h3
end Go.Proofs.YtjhgmmcglonokaaGreatDoor

namespace Go.Proofs.YtjhgmmcglonokaaGreatDoor
open Go.RowKit
set_option linter.unusedVariables false
set_option linter.unusedSimpArgs false

def takesV (o : Int) : Int × Int := if o = 1 ∨ o = 2 then (0, 1) else if o = 10 then (1, 1) else if o = 3 ∨ o = 4 ∨ o = 5 ∨ o = 7 ∨ o = 8 then (2, 1) else if o = 6 then (3, 1) else if o = 9 then (2, 0) else if o = 11 then (0, 0) else (-1, 0)
theorem takes_bad {o : Int} (h : ¬ (1 ≤ o ∧ o ≤ 11)) : takesV o = (-1, 0) := by
  unfold takesV
  repeat rw [if_neg (by omega)]
theorem ops11 {o : Int} (h : 1 ≤ o ∧ o ≤ 11) : o = 1 ∨ o = 2 ∨ o = 3 ∨ o = 4 ∨ o = 5 ∨ o = 6 ∨ o = 7 ∨ o = 8 ∨ o = 9 ∨ o = 10 ∨ o = 11 := by omega
set_option maxRecDepth 20000 in
set_option maxHeartbeats 8000000 in
theorem specTakes (o : Int) (w : World) : Calls Tryz.prog 83 #[.int .i64 o] w fun e w' => e = .returned (.tuple #[.int .i64 (takesV o).1, .int .i64 (takesV o).2]) ∧ w' = w := by
  by_cases hin : 1 ≤ o ∧ o ≤ 11
  · rcases ops11 hin with rfl | rfl | rfl | rfl | rfl | rfl | rfl | rfl | rfl | rfl | rfl
    all_goals
      clear hin
      go_enter Tryz.func83, Tryz.ntmps83
      go_wp2
      go_ret2
      exact ⟨rfl, rfl⟩
  · rw [takes_bad hin]
    have b1 : (o == 1) = false := by simp; omega
    have b2 : (o == 2) = false := by simp; omega
    have b3 : (o == 3) = false := by simp; omega
    have b4 : (o == 4) = false := by simp; omega
    have b5 : (o == 5) = false := by simp; omega
    have b6 : (o == 6) = false := by simp; omega
    have b7 : (o == 7) = false := by simp; omega
    have b8 : (o == 8) = false := by simp; omega
    have b9 : (o == 9) = false := by simp; omega
    have b10 : (o == 10) = false := by simp; omega
    have b11 : (o == 11) = false := by simp; omega
    clear hin
    go_enter Tryz.func83, Tryz.ntmps83
    go_wp2
    go_ret2
    exact ⟨rfl, rfl⟩
/-- What is at hand at a place: marked, or as it was marked before. -/
def markV (hs : List Int) (i : Nat) (n : Int) : List Int × Bool := if 0 ≤ hs.getD i 0 then (hs, hs.getD i 0 == n) else (hs.set i n, true)
theorem markV_len (hs : List Int) (i : Nat) (n : Int) : (markV hs i n).1.length = hs.length := by
  unfold markV
  split <;> simp
/-- The numbers at hand in memory of one's own. -/
def HighR (w : World) (base g m c : Nat) (hs : List Int) : Prop := m = hs.length ∧ w.ownsRow base 3 1 (.slice (some ⟨g, 0, none⟩) m c) m (hs.map (Value.int .i64))
theorem HighR.at {w : World} {base g m c : Nat} {hs : List Int} (h : HighR w base g m c hs) {i : Nat} (hi : i < m) : w.cell? ⟨g, i, none⟩ = some (.int .i64 (hs.getD i 0)) := by
  have hl : i < hs.length := by rw [← h.1]; exact hi
  rw [h.2.cellAt i (by omega)]
  simp [hl]
theorem HighR.set {w : World} {base g m c : Nat} {hs : List Int} (h : HighR w base g m c hs) (i : Nat) (n : Int) : HighR (w.setCell ⟨g, i, none⟩ (.int .i64 n)) base g m c (hs.set i n) := by
  refine ⟨by rw [List.length_set]; exact h.1, ?_⟩
  rw [List.map_set]
  exact (h.2.stored i _).1
def MarkP (hs : List Int) (i : Nat) (n : Int) (base g m c : Nat) (w : World) (e : Ending) (w' : World) : Prop := e = .returned (.bool (markV hs i n).2) ∧ HighR w' base g m c (markV hs i n).1 ∧ w.grownBy w' (some g)
set_option maxHeartbeats 8000000 in
theorem specMark (hs : List Int) (i : Nat) (n : Int) (base g m c : Nat) (w : World) (h : HighR w base g m c hs) (hi : i < m) :
    Calls Tryz.prog 85 #[.slice (some ⟨g, 0, none⟩) m c, .int .i64 i, .int .i64 n] w (MarkP hs i n base g m c w) := by
  have c0 := h.at hi
  have fz := h.2.frozenAt i
  have HSET := Lib.hid (h.set i n)
  have HG := Lib.hid (grown_set w ⟨g, i, none⟩ (.int .i64 n))
  have H := Lib.hid h
  have k0 : (0 : Int) ≤ i := by omega
  have k1 : (i : Int) < m := by omega
  unfold MarkP markV
  clear h
  generalize hs.getD i 0 = v at *
  rcases Int.lt_or_le v 0 with hv | hv
  · have z : decide (0 ≤ v) = false := decide_eq_false (by omega)
    rw [if_neg (by omega)]
    clear hv
    go_enter Tryz.func85, Tryz.ntmps85
    go_wp2
    go_ret
    exact ⟨rfl, HSET.out, HG.out⟩
  · have z : decide (0 ≤ v) = true := decide_eq_true hv
    rw [if_pos hv]
    clear hv
    go_enter Tryz.func85, Tryz.ntmps85
    go_wp2
    go_ret
    exact ⟨rfl, H.out, grown_any (Below.refl _ _)⟩
end Go.Proofs.YtjhgmmcglonokaaGreatDoor

namespace Go.Proofs.YtjhgmmcglonokaaGreatDoor
open Go.RowKit
set_option linter.unusedVariables false
set_option linter.unusedSimpArgs false

/-- The two marks that a place makes. -/
def marksV (i : Nat) (d : Pl) (n : Int) (hs : List Int) : List Int × Bool :=
  if d.op = 9 then (if (markV hs (i + 1) n).2 then markV (markV hs (i + 1) n).1 (i + 1 + d.num.toNat) n else markV hs (i + 1) n)
  else if d.op = 11 then markV hs (i + 1 + d.num.toNat) n
  else markV hs (i + 1) n
def leftV (i : Nat) (d : Pl) (hs : List Int) : Int := hs.getD i 0 - (takesV d.op).1 + (takesV d.op).2
def stepV (q i : Nat) (d : Pl) (hs : List Int) : Option (List Int) :=
  if (takesV d.op).1 < 0 ∨ ¬ HoldsV d.op d.num ((q : Int) - i - 1) d.nm d.ms then none
  else if hs.getD i 0 < 0 then some hs
  else if hs.getD i 0 < (takesV d.op).1 ∨ 12 < leftV i d hs then none
  else if (marksV i d (leftV i d hs) hs).2 then some (marksV i d (leftV i d hs) hs).1 else none
def runV (q : Nat) : Nat → List Pl → List Int → Option (List Int)
  | _, [], hs => some hs
  | i, d :: r, hs => (stepV q i d hs).bind (runV q (i + 1) r)
def firstV (q : Nat) : List Int := 0 :: List.replicate q (-1)
def heightsV (ds : List Pl) : Option (List Int) := (runV ds.length 0 ds (firstV ds.length)).bind fun hs => if hs.getD ds.length 0 = 1 then some hs else none
/-- Every number at hand is within bounds. -/
def InV (hs : List Int) : Prop := ∀ x ∈ hs, -1 ≤ x ∧ x ≤ 12
theorem inV_first (q : Nat) : InV (firstV q) := by
  intro x hx
  unfold firstV at hx
  rcases List.mem_cons.1 hx with rfl | hx
  · omega
  · have := List.eq_of_mem_replicate hx; omega
theorem inV_getD {hs : List Int} (h : InV hs) (i : Nat) : -1 ≤ hs.getD i 0 ∧ hs.getD i 0 ≤ 12 := by
  rcases Nat.lt_or_ge i hs.length with hi | hi
  · have : hs.getD i 0 = hs[i] := by simp [hi]
    rw [this]; exact h _ (List.getElem_mem _)
  · have : hs.getD i 0 = 0 := by simp [List.getD, List.getElem?_eq_none hi]
    rw [this]; omega
theorem inV_mark {hs : List Int} (h : InV hs) (i : Nat) {n : Int} (n0 : -1 ≤ n) (n1 : n ≤ 12) : InV (markV hs i n).1 := by
  unfold markV
  split
  · exact h
  · intro x hx
    rcases List.mem_or_eq_of_mem_set hx with h1 | rfl
    · exact h x h1
    · exact ⟨n0, n1⟩
theorem inV_marks {hs : List Int} (h : InV hs) (i : Nat) (d : Pl) {n : Int} (n0 : -1 ≤ n) (n1 : n ≤ 12) : InV (marksV i d n hs).1 := by
  unfold marksV
  split
  · split
    · exact inV_mark (inV_mark h _ n0 n1) _ n0 n1
    · exact inV_mark h _ n0 n1
  split
  · exact inV_mark h _ n0 n1
  · exact inV_mark h _ n0 n1
theorem takes_bd (o : Int) : -1 ≤ (takesV o).1 ∧ (takesV o).1 ≤ 3 ∧ 0 ≤ (takesV o).2 ∧ (takesV o).2 ≤ 1 := by
  unfold takesV
  repeat (split; · simp)
  simp
theorem marks_len (i : Nat) (d : Pl) (n : Int) (hs : List Int) : (marksV i d n hs).1.length = hs.length := by
  unfold marksV
  split
  · split
    · rw [markV_len, markV_len]
    · exact markV_len _ _ _
  split
  · exact markV_len _ _ _
  · exact markV_len _ _ _
theorem step_len {q i : Nat} {d : Pl} {hs hs' : List Int} (h : stepV q i d hs = some hs') : hs'.length = hs.length := by
  unfold stepV at h
  split at h
  · cases h
  split at h
  · cases h; rfl
  split at h
  · cases h
  split at h
  · cases h; exact marks_len _ _ _ _
  · cases h
theorem step_in {q i : Nat} {d : Pl} {hs hs' : List Int} (hi : InV hs) (h : stepV q i d hs = some hs') : InV hs' := by
  unfold stepV at h
  split at h
  · cases h
  split at h
  · cases h; exact hi
  split at h
  · cases h
  rename_i h1 h2 h3
  split at h
  · cases h
    have hb := takes_bd d.op
    have : ¬ hs.getD i 0 < (takesV d.op).1 ∧ ¬ 12 < leftV i d hs := ⟨fun x => h3 (.inl x), fun x => h3 (.inr x)⟩
    have hl : leftV i d hs = hs.getD i 0 - (takesV d.op).1 + (takesV d.op).2 := rfl
    exact inV_marks hi i d (by omega) (by omega)
  · cases h
theorem runV_drop {q k : Nat} {ds : List Pl} (h : k < ds.length) (hs : List Int) : runV q k (ds.drop k) hs = (stepV q k ds[k] hs).bind (runV q (k + 1) (ds.drop (k + 1))) := by
  rw [List.drop_eq_getElem_cons h, runV]
end Go.Proofs.YtjhgmmcglonokaaGreatDoor

namespace Go.Proofs.YtjhgmmcglonokaaGreatDoor
open Go.RowKit
set_option linter.unusedVariables false
set_option linter.unusedSimpArgs false

def wordV (o : Int) : List UInt8 := if o = 1 then [112, 117, 115, 104] else if o = 2 then [108, 111, 97, 100] else if o = 9 then [116, 101, 115, 116] else if o = 11 then [115, 107, 105, 112] else wordT o
theorem wordV_len (o : Int) : (wordV o).length ≤ 5 := by
  unfold wordV
  iterate 4 refine ite_len (by decide) ?_
  exact wordT_len o
def argV (d : Pl) : List UInt8 := if d.op = 1 ∨ d.op = 9 ∨ d.op = 11 then 32 :: (intB d.num).data.toList else if d.op = 2 then 32 :: d.nm.data.toList else if d.op = 10 then 32 :: marksT 32 d.ms else []
def lineV (d : Pl) : List UInt8 := wordV d.op ++ (argV d ++ [10])
def lineB (d : Pl) : ByteArray := ⟨(lineV d).toArray⟩
def textV (ds : List Pl) : List UInt8 := ds.flatMap lineV
def textVB (ds : List Pl) : ByteArray := ⟨(textV ds).toArray⟩
/-- What is written of a place is small. -/
def SmV (d : Pl) : Prop := (1 ≤ d.op ∧ d.op ≤ 11) ∧ (-1000000000 ≤ d.num ∧ d.num ≤ 1000000000) ∧ d.nm.size ≤ 8 ∧ (d.op = 10 → MOk (mF d.ms) (mP d.ms) d.ms.length) ∧ (d.op ≠ 10 → d.ms.length = 0)
theorem smV_of {d : Pl} {k : Int} (hk : k ≤ 1000000) (ho : 1 ≤ d.op ∧ d.op ≤ 11) (h : HoldsV d.op d.num k d.nm d.ms) : SmV d := by
  unfold HoldsV at h
  split at h
  · rename_i h9
    obtain ⟨a, b, c⟩ := h
    exact ⟨ho, ⟨by omega, by omega⟩, by omega, fun e => by omega, fun _ => c⟩
  rename_i h9
  unfold HoldsN at h
  split at h
  · rename_i h1
    obtain ⟨a, b, c⟩ := h
    exact ⟨ho, a, by omega, fun e => by omega, fun _ => c⟩
  split at h
  · rename_i h1 h2
    obtain ⟨a, b, c⟩ := h
    exact ⟨ho, by omega, nmB_size a, fun e => by omega, fun _ => c⟩
  split at h
  · rename_i h1 h2 h3
    obtain ⟨a, b, c⟩ := h
    exact ⟨ho, by omega, by omega, fun _ => c, fun e => absurd h3 e⟩
  · rename_i h1 h2 h3
    obtain ⟨a, b, c⟩ := h
    exact ⟨ho, by omega, by omega, fun e => absurd e h3, fun _ => c⟩
theorem argV_len {d : Pl} (h : SmV d) : (argV d).length ≤ 221 := by
  obtain ⟨h1, h2, h3, h4, h5⟩ := h
  unfold argV
  split
  · have := intB_size (x := d.num) (by omega) (by omega)
    have e : (intB d.num).data.toList.length = (intB d.num).size := by simp
    simp only [List.length_cons]; omega
  split
  · have e : d.nm.data.toList.length = d.nm.size := by simp
    simp only [List.length_cons]; omega
  split
  · have := marksT_len 32 (h4 ‹_›)
    simp only [List.length_cons]; omega
  · simp
theorem lineV_len {d : Pl} (h : SmV d) : (lineV d).length ≤ 240 := by
  have a := wordV_len d.op
  have b := argV_len h
  unfold lineV
  simp only [List.length_append, List.length_cons, List.length_nil]
  omega
theorem textV_len : ∀ {ds : List Pl}, (∀ d ∈ ds, SmV d) → (textV ds).length ≤ 240 * ds.length
  | [], h => by simp [textV]
  | d :: r, h => by
    have a := lineV_len (h d (by simp))
    have b := textV_len (ds := r) (fun x hx => h x (by simp [hx]))
    unfold textV at b ⊢
    simp only [List.flatMap_cons, List.length_append, List.length_cons]
    omega
theorem textV_snoc {ds : List Pl} {k : Nat} (h : k < ds.length) : textV (ds.take (k + 1)) = textV (ds.take k) ++ lineV ds[k] := by
  unfold textV
  rw [List.take_succ_eq_append_getElem h, List.flatMap_append, List.flatMap_cons, List.flatMap_nil, List.append_nil]
theorem joinS_succ (sep : UInt8) (l : List ByteArray) (x : ByteArray) : sep :: joinS sep (l ++ [x]) = (if l = [] then [] else sep :: joinS sep l) ++ sep :: x.data.toList := by
  by_cases h : l = []
  · subst h; rw [if_pos rfl, List.nil_append, joinS_one]; rfl
  · rw [if_neg h, joinS_snoc _ _ _ h]; rfl
/-- Marks, each with a byte ahead. -/
def aheadT (ms : List (Int × Int)) : List UInt8 := ms.flatMap fun m => 32 :: (markT m).data.toList
theorem aheadT_eq {ms : List (Int × Int)} (h : ms.length ≠ 0) : aheadT ms = 32 :: marksT 32 ms := by
  have key : ∀ (k : Nat), k ≤ ms.length → k ≠ 0 → aheadT (ms.take k) = 32 :: marksT 32 (ms.take k) := by
    intro k
    induction k with
    | zero => intro _ h; exact absurd rfl h
    | succ k ih =>
      intro hk _
      rw [List.take_succ_eq_append_getElem (by omega : k < ms.length)]
      unfold marksT
      rw [List.map_append, List.map_cons, List.map_nil, joinS_succ]
      unfold aheadT
      rw [List.flatMap_append]
      simp only [List.flatMap_cons, List.flatMap_nil, List.append_nil]
      by_cases h0 : k = 0
      · subst h0; simp
      · rw [if_neg (by intro e; have h2 := congrArg List.length e; rw [List.length_map, List.length_take, List.length_nil] at h2; omega)]
        have := ih (by omega) h0
        unfold aheadT marksT at this
        rw [this]
  have := key ms.length (Nat.le_refl _) h
  rwa [List.take_length] at this
theorem aheadT_snoc {ms : List (Int × Int)} {k : Nat} (h : k < ms.length) : aheadT (ms.take (k + 1)) = aheadT (ms.take k) ++ 32 :: (markT ms[k]).data.toList := by
  unfold aheadT
  rw [List.take_succ_eq_append_getElem h, List.flatMap_append, List.flatMap_cons, List.flatMap_nil, List.append_nil]
theorem aheadT_len {ms : List (Int × Int)} (h : MOk (mF ms) (mP ms) ms.length) (k : Nat) (hk : k ≤ ms.length) : (aheadT (ms.take k)).length ≤ 44 * k := by
  obtain ⟨h5, hm⟩ := mok_mem h
  induction k with
  | zero => simp [aheadT]
  | succ k ih =>
    rw [aheadT_snoc (by omega)]
    have := hm ms[k] (List.getElem_mem _)
    have b := markT_size (m := ms[k]) (by omega) (by omega) (by omega) (by omega)
    have e : (markT ms[k]).data.toList.length = (markT ms[k]).size := by simp
    have := ih (by omega)
    simp only [List.length_append, List.length_cons]
    omega
/-- What each place must be, where it stands. -/
def AllV (q i : Nat) : List Pl → Prop
  | [] => True
  | d :: r => ((1 ≤ d.op ∧ d.op ≤ 11) ∧ HoldsV d.op d.num ((q : Int) - i - 1) d.nm d.ms) ∧ AllV q (i + 1) r
theorem takes_nn {o : Int} : ¬ (takesV o).1 < 0 ↔ 1 ≤ o ∧ o ≤ 11 := by
  constructor
  · intro h
    by_cases hin : 1 ≤ o ∧ o ≤ 11
    · exact hin
    · rw [takes_bad hin] at h; exact absurd (by decide) h
  · intro h
    rcases ops11 h with rfl | rfl | rfl | rfl | rfl | rfl | rfl | rfl | rfl | rfl | rfl <;> decide
theorem allV_of_run {q : Nat} : ∀ {ds : List Pl} {i : Nat} {hs hs' : List Int}, runV q i ds hs = some hs' → AllV q i ds
  | [], _, _, _, _ => trivial
  | d :: r, i, hs, hs', h => by
    rw [runV] at h
    obtain ⟨h1, e1, e2⟩ := Option.bind_eq_some_iff.1 h
    refine ⟨?_, allV_of_run e2⟩
    unfold stepV at e1
    by_cases hc : (takesV d.op).1 < 0 ∨ ¬ HoldsV d.op d.num ((q : Int) - i - 1) d.nm d.ms
    · rw [if_pos hc] at e1; cases e1
    · exact ⟨takes_nn.1 (fun x => hc (Or.inl x)), Classical.byContradiction fun x => hc (Or.inr x)⟩
theorem allV_get {q : Nat} : ∀ {ds : List Pl} {i : Nat}, AllV q i ds → ∀ j, (hj : j < ds.length) → (1 ≤ ds[j].op ∧ ds[j].op ≤ 11) ∧ HoldsV ds[j].op ds[j].num ((q : Int) - ((i + j : Nat) : Int) - 1) ds[j].nm ds[j].ms
  | [], _, _, j, hj => by simp at hj
  | d :: r, i, h, 0, hj => by simpa using h.1
  | d :: r, i, h, j + 1, hj => by
    have := allV_get h.2 j (by simpa using hj)
    rw [show i + 1 + j = i + (j + 1) by omega] at this
    simpa using this
theorem allV_of {q : Nat} : ∀ {ds : List Pl} {i : Nat}, (∀ j, (hj : j < ds.length) → (1 ≤ ds[j].op ∧ ds[j].op ≤ 11) ∧ HoldsV ds[j].op ds[j].num ((q : Int) - ((i + j : Nat) : Int) - 1) ds[j].nm ds[j].ms) → AllV q i ds
  | [], _, _ => trivial
  | d :: r, i, h => by
    refine ⟨h 0 (by simp), allV_of fun j hj => ?_⟩
    have := h (j + 1) (by simpa using hj)
    rw [show i + (j + 1) = i + 1 + j by omega] at this
    simpa using this
theorem heightsV_all {ds : List Pl} {hs : List Int} (h : heightsV ds = some hs) : AllV ds.length 0 ds := by
  unfold heightsV at h
  obtain ⟨h1, e1, e2⟩ := Option.bind_eq_some_iff.1 h
  exact allV_of_run e1
theorem allV_sm {q : Nat} {ds : List Pl} (hq : q ≤ 1000000) (h : AllV q 0 ds) : ∀ d ∈ ds, SmV d := by
  intro d hd
  obtain ⟨j, hj, rfl⟩ := List.getElem_of_mem hd
  have := allV_get h j hj
  exact smV_of (by omega) this.1 this.2
/-- Whether a program is ok. -/
def OkV (ds : List Pl) : Prop := (1 ≤ ds.length ∧ ds.length ≤ 80) ∧ (heightsV ds).isSome = true ∧ (textV ds).length ≤ 1600
instance (ds : List Pl) : Decidable (OkV ds) := by unfold OkV; infer_instance
theorem okV_all {ds : List Pl} (h : OkV ds) : AllV ds.length 0 ds := by
  obtain ⟨hs, e⟩ := Option.isSome_iff_exists.1 h.2.1
  exact heightsV_all e
theorem okV_sm {ds : List Pl} (h : OkV ds) : ∀ d ∈ ds, SmV d := allV_sm (by have := h.1.2; omega) (okV_all h)
/-- The greatest of numbers, 0 at least. -/
def mxV (hs : List Int) : Int := hs.foldl max 0
def deepV (ds : List Pl) : Int := if OkV ds then mxV ((heightsV ds).getD []) else 0
theorem foldl_max (l : List Int) (a : Int) : l.foldl max a = max a (l.foldl max 0) ∨ a < 0 := by
  by_cases h : a < 0
  · exact Or.inr h
  · left
    induction l generalizing a with
    | nil => simp; omega
    | cons x r ih =>
      simp only [List.foldl_cons]
      rw [ih (max a x) (by omega)]
      rcases Int.lt_or_le x 0 with hx | hx
      · rw [show max 0 x = 0 from by omega]; omega
      · rw [ih (max 0 x) (by omega)]; omega
theorem mxV_cons (x : Int) (r : List Int) : mxV (x :: r) = max (max 0 x) (mxV r) := by
  unfold mxV
  rw [List.foldl_cons]
  rcases foldl_max r (max 0 x) with h | h
  · exact h
  · omega
theorem mxV_nn (l : List Int) : 0 ≤ mxV l := by
  cases l with
  | nil => simp [mxV]
  | cons x r => rw [mxV_cons]; omega
theorem mxV_set : ∀ (l : List Int) (i : Nat) (n : Int), i < l.length → (l.getD i 0 < 0 ∨ l.getD i 0 = n) → mxV (l.set i n) = max (mxV l) n
  | x :: r, 0, n, _, h => by
    simp only [List.set_cons_zero, mxV_cons, List.getD_cons_zero] at h ⊢
    have := mxV_nn r
    omega
  | x :: r, i + 1, n, hi, h => by
    simp only [List.set_cons_succ, mxV_cons, List.getD_cons_succ] at h ⊢
    rw [mxV_set r i n (by simpa using hi) h]
    omega
theorem mxV_le {l : List Int} (h : InV l) : mxV l ≤ 12 := by
  induction l with
  | nil => simp [mxV]
  | cons x r ih =>
    rw [mxV_cons]
    have := ih (fun y hy => h y (by simp [hy]))
    have := h x (by simp)
    omega
/-- The program's way to mark: what stands there must be nothing, or the same. -/
theorem markV_ok {hs : List Int} (hin : InV hs) {i : Nat} (hi : i < hs.length) {n : Int} (n0 : 0 ≤ n) (h : ¬ (hs.getD i 0 ≠ -1 ∧ hs.getD i 0 ≠ n)) : markV hs i n = (hs.set i n, true) ∧ mxV (hs.set i n) = max (mxV hs) n := by
  have hb := inV_getD hin i
  unfold markV
  split
  · rename_i hp
    have e : hs.getD i 0 = n := by omega
    refine ⟨?_, mxV_set _ _ _ hi (Or.inr e)⟩
    have e2 : hs.set i n = hs := by
      rw [← e]
      have : hs.getD i 0 = hs[i] := by simp [hi]
      rw [this]; exact List.set_getElem_self hi
    rw [e2, e]; simp
  · exact ⟨rfl, mxV_set _ _ _ hi (Or.inl (by omega))⟩
theorem markV_no {hs : List Int} (hin : InV hs) {i : Nat} {n : Int} (h : hs.getD i 0 ≠ -1 ∧ hs.getD i 0 ≠ n) : (markV hs i n).2 = false := by
  have hb := inV_getD hin i
  unfold markV
  rw [if_pos (by omega)]
  simpa using h.2
/-- Where ways lead to. -/
def nextsV (i : Nat) (d : Pl) : List Nat := if d.op = 9 then [i + 1, i + 1 + d.num.toNat] else if d.op = 11 then [i + 1 + d.num.toNat] else [i + 1]
def marksL : List Nat → Int → List Int → Option (List Int)
  | [], _, hs => some hs
  | t :: r, n, hs => if (markV hs t n).2 then marksL r n (markV hs t n).1 else none
theorem marksL_eq (i : Nat) (d : Pl) (n : Int) (hs : List Int) : (if (marksV i d n hs).2 then some (marksV i d n hs).1 else none) = marksL (nextsV i d) n hs := by
  unfold marksV nextsV
  by_cases h9 : d.op = 9
  · rw [if_pos h9, if_pos h9, marksL, marksL, marksL]
    by_cases h1 : (markV hs (i + 1) n).2
    · rw [if_pos h1, if_pos h1]
    · rw [if_neg h1, if_neg h1, if_neg h1]
  rw [if_neg h9, if_neg h9]
  by_cases h11 : d.op = 11
  · rw [if_pos h11, if_pos h11, marksL, marksL]
  · rw [if_neg h11, if_neg h11, marksL, marksL]
theorem nexts_len (i : Nat) (d : Pl) : 1 ≤ (nextsV i d).length ∧ (nextsV i d).length ≤ 2 := by
  unfold nextsV
  split
  · simp
  split <;> simp
theorem nexts_le {q i : Nat} {d : Pl} (h : HoldsV d.op d.num ((q : Int) - i - 1) d.nm d.ms) (hi : i < q) : ∀ t ∈ nextsV i d, t ≤ q := by
  unfold nextsV
  unfold HoldsV at h
  intro t ht
  split at ht
  · rw [if_pos (Or.inl ‹_›)] at h
    obtain ⟨⟨h1, h2⟩, -⟩ := h
    simp at ht
    omega
  split at ht
  · rw [if_pos (Or.inr ‹_›)] at h
    obtain ⟨⟨h1, h2⟩, -⟩ := h
    simp at ht
    omega
  · simp at ht
    omega
theorem marksL_drop {ts : List Nat} {j : Nat} (h : j < ts.length) (n : Int) (hs : List Int) : marksL (ts.drop j) n hs = if (markV hs ts[j] n).2 then marksL (ts.drop (j + 1)) n (markV hs ts[j] n).1 else none := by
  rw [List.drop_eq_getElem_cons h, marksL]
def fillV (q k : Nat) : List Int := 0 :: (List.replicate k (-1) ++ List.replicate (q - k) 0)
theorem fillV_len {q k : Nat} (h : k ≤ q) : (fillV q k).length = q + 1 := by simp [fillV]; omega
theorem fillV_set {q k : Nat} (h : k < q) : (fillV q k).set (k + 1) (-1) = fillV q (k + 1) := by
  unfold fillV
  rw [List.set_cons_succ, List.set_append_right _ _ (by simp)]
  simp only [List.length_replicate, Nat.sub_self]
  rw [show q - k = (q - (k + 1)) + 1 by omega, List.replicate_succ, List.set_cons_zero, List.replicate_succ', List.append_assoc]
  rfl
theorem fillV_zero (q : Nat) : fillV q 0 = List.replicate (q + 1) 0 := by simp [fillV, List.replicate_succ]
theorem fillV_all (q : Nat) : fillV q q = firstV q := by simp [fillV, firstV]
theorem mxV_first (q : Nat) : mxV (firstV q) = 0 := by
  have h : ∀ k : Nat, mxV (List.replicate k (-1)) = 0 := by
    intro k
    induction k with
    | zero => rfl
    | succ k ih => rw [List.replicate_succ, mxV_cons, ih]; rfl
  unfold firstV
  rw [mxV_cons, h]; rfl
end Go.Proofs.YtjhgmmcglonokaaGreatDoor

namespace Go.Proofs.YtjhgmmcglonokaaGreatDoor
open Go.RowKit
set_option linter.unusedVariables false
set_option linter.unusedSimpArgs false

set_option maxHeartbeats 4000000 in
theorem vmRuleI (o n : Int) (s : ByteArray) (ma : Option Addr) (m mc : Nat) (w : World) :
    Calls Tryz.prog 109 #[.agg #[.int .i64 o, .int .i64 n, .string s, .slice ma m mc]] w fun e w' => e = .returned (.agg #[.int .i64 o, .int .i64 n, .string s, .slice none 0 0, .slice ma m mc]) ∧ Below w.heap.size w w' := by
  go_enter Tryz.func109, Tryz.ntmps109
  go_wp2
  (try simp only [Exit.inBlock, Exit.then])
  refine bodyPost_ret (v := .agg #[.int .i64 o, .int .i64 n, .string s, .slice none 0 0, .slice ma m mc]) ?_ rfl ⟨rfl, ?_⟩
  · rw [results_cellM rfl]
    go_simp
  repeat first
    | exact Below.refl _ _
    | refine Below.alloc ?_ (by simp only [World.size_alloc]; omega) _
    | refine Below.alloc ?_ (Nat.le_refl _) _
    | refine Below.drew ?_
    | refine belowN ?_ _
set_option maxRecDepth 20000 in
set_option maxHeartbeats 16000000 in
theorem vmHoldsI (o n : Int) (s : ByteArray) (ma : Option Addr) (mc : Nat) (ms : List (Int × Int)) (q : Int) (w : World) (hs : s.size ≤ maxLen) (hm : MarksN All w ma ms.length ms) (hml : ms.length ≤ 1048576) :
    Calls Tryz.prog 81 #[.agg #[.int .i64 o, .int .i64 n, .string s, .slice ma ms.length mc], .int .i64 q] w (BoolP ((1 ≤ o ∧ o ≤ 11) ∧ HoldsV o n q s ms) w) := by
  have HM := Lib.hid hm
  have HML := Lib.hid hml
  have HS := Lib.hid hs
  clear hm hml hs
  have hA : Hid (Below w.heap.size w (w.alloc (.cells #[.int .i64 o, .int .i64 n, .string s, .slice ma ms.length mc] 48))) := (Below.refl w.heap.size w).alloc (Nat.le_refl _) _
  by_cases h9 : o = 9
  · have HO : Hid (o = 9 ∨ o = 11) := by refine Lib.hid ?_; omega
    have b9 : (o == 9) = true := by simp; omega
    clear h9
    cases h0 : (decide (0 ≤ n)) with
    | false =>
      have x0 := Lib.hid (by simpa using h0 : n < 0)
      go_enter Tryz.func81, Tryz.ntmps81
      go_wp2
      go_ret
      exact ⟨false, rfl, ⟨fun h => (by cases h), fun h => (by have hx := x0.out; have hh := h.2; unfold HoldsV at hh; rw [if_pos HO.out] at hh; obtain ⟨⟨a1, a2⟩, a3, a4⟩ := hh; omega)⟩, hA.out⟩
    | true =>
      have x0 := Lib.hid (by simpa using h0 : 0 ≤ n)
      cases h1 : (decide (n ≤ q)) with
      | false =>
        have x1 := Lib.hid (by simpa using h1 : q < n)
        go_enter Tryz.func81, Tryz.ntmps81
        go_wp2
        go_ret
        exact ⟨false, rfl, ⟨fun h => (by cases h), fun h => (by have hx := x1.out; have hh := h.2; unfold HoldsV at hh; rw [if_pos HO.out] at hh; obtain ⟨⟨a1, a2⟩, a3, a4⟩ := hh; omega)⟩, hA.out⟩
      | true =>
        have x1 := Lib.hid (by simpa using h1 : n ≤ q)
        cases h2 : (s.toList.isEmpty) with
        | false =>
          have x2 := Lib.hid (str_full h2)
          go_enter Tryz.func81, Tryz.ntmps81
          go_wp2
          go_ret
          exact ⟨false, rfl, ⟨fun h => (by cases h), fun h => (by have hx := x2.out; have hh := h.2; unfold HoldsV at hh; rw [if_pos HO.out] at hh; obtain ⟨⟨a1, a2⟩, a3, a4⟩ := hh; omega)⟩, hA.out⟩
        | true =>
          have x2 := Lib.hid (str_empty h2)
          cases h3 : (((ms.length : Int) == 0)) with
          | false =>
            have x3 := Lib.hid (by simpa using h3 : ms.length ≠ 0)
            go_enter Tryz.func81, Tryz.ntmps81
            go_wp2
            go_ret
            exact ⟨false, rfl, ⟨fun h => (by cases h), fun h => (by have hx := x3.out; have hh := h.2; unfold HoldsV at hh; rw [if_pos HO.out] at hh; obtain ⟨⟨a1, a2⟩, a3, a4⟩ := hh; omega)⟩, hA.out⟩
          | true =>
            have x3 := Lib.hid (by simpa using h3 : ms.length = 0)
            go_enter Tryz.func81, Tryz.ntmps81
            go_wp2
            go_ret
            exact ⟨true, rfl, ⟨fun _ => (by have y0 := x0.out; have y1 := x1.out; have y2 := x2.out; have y3 := x3.out; refine ⟨by have := HO.out; omega, ?_⟩; unfold HoldsV; rw [if_pos HO.out]; exact ⟨⟨y0, y1⟩, y2, y3⟩), fun _ => rfl⟩, hA.out⟩
  by_cases h11 : o = 11
  · have HO : Hid (o = 9 ∨ o = 11) := by refine Lib.hid ?_; omega
    have b9 : (o == 9) = false := by simp; omega
    have b11 : (o == 11) = true := by simp; omega
    clear h9 h11
    cases h0 : (decide (0 ≤ n)) with
    | false =>
      have x0 := Lib.hid (by simpa using h0 : n < 0)
      go_enter Tryz.func81, Tryz.ntmps81
      go_wp2
      go_ret
      exact ⟨false, rfl, ⟨fun h => (by cases h), fun h => (by have hx := x0.out; have hh := h.2; unfold HoldsV at hh; rw [if_pos HO.out] at hh; obtain ⟨⟨a1, a2⟩, a3, a4⟩ := hh; omega)⟩, hA.out⟩
    | true =>
      have x0 := Lib.hid (by simpa using h0 : 0 ≤ n)
      cases h1 : (decide (n ≤ q)) with
      | false =>
        have x1 := Lib.hid (by simpa using h1 : q < n)
        go_enter Tryz.func81, Tryz.ntmps81
        go_wp2
        go_ret
        exact ⟨false, rfl, ⟨fun h => (by cases h), fun h => (by have hx := x1.out; have hh := h.2; unfold HoldsV at hh; rw [if_pos HO.out] at hh; obtain ⟨⟨a1, a2⟩, a3, a4⟩ := hh; omega)⟩, hA.out⟩
      | true =>
        have x1 := Lib.hid (by simpa using h1 : n ≤ q)
        cases h2 : (s.toList.isEmpty) with
        | false =>
          have x2 := Lib.hid (str_full h2)
          go_enter Tryz.func81, Tryz.ntmps81
          go_wp2
          go_ret
          exact ⟨false, rfl, ⟨fun h => (by cases h), fun h => (by have hx := x2.out; have hh := h.2; unfold HoldsV at hh; rw [if_pos HO.out] at hh; obtain ⟨⟨a1, a2⟩, a3, a4⟩ := hh; omega)⟩, hA.out⟩
        | true =>
          have x2 := Lib.hid (str_empty h2)
          cases h3 : (((ms.length : Int) == 0)) with
          | false =>
            have x3 := Lib.hid (by simpa using h3 : ms.length ≠ 0)
            go_enter Tryz.func81, Tryz.ntmps81
            go_wp2
            go_ret
            exact ⟨false, rfl, ⟨fun h => (by cases h), fun h => (by have hx := x3.out; have hh := h.2; unfold HoldsV at hh; rw [if_pos HO.out] at hh; obtain ⟨⟨a1, a2⟩, a3, a4⟩ := hh; omega)⟩, hA.out⟩
          | true =>
            have x3 := Lib.hid (by simpa using h3 : ms.length = 0)
            go_enter Tryz.func81, Tryz.ntmps81
            go_wp2
            go_ret
            exact ⟨true, rfl, ⟨fun _ => (by have y0 := x0.out; have y1 := x1.out; have y2 := x2.out; have y3 := x3.out; refine ⟨by have := HO.out; omega, ?_⟩; unfold HoldsV; rw [if_pos HO.out]; exact ⟨⟨y0, y1⟩, y2, y3⟩), fun _ => rfl⟩, hA.out⟩
  have b9 : (o == 9) = false := by simpa using h9
  have b11 : (o == 11) = false := by simpa using h11
  have HNO : Hid (¬ (o = 9 ∨ o = 11)) := by refine Lib.hid ?_; omega
  have hArg : (w.alloc (.cells #[.int .i64 o, .int .i64 n, .string s, .slice ma ms.length mc] 48)).heap[w.heap.size]? = some (.cells #[.int .i64 o, .int .i64 n, .string s, .slice ma ms.length mc] 48 (0, 0)) := heap_alloc_new w _
  have HArg := Lib.hid hArg
  clear hArg h9 h11
  by_cases hop : 1 ≤ o ∧ o ≤ 10
  · have Hop := Lib.hid hop
    clear hop
    go_enter Tryz.func81, Tryz.ntmps81
    go_wp2_with fail
    generalize (w.alloc (.cells #[.int .i64 o, .int .i64 n, .string s, .slice ma ms.length mc] 48)) = W0 at *
    have sz0 : w.heap.size < W0.heap.size := (Array.getElem?_eq_some_iff.1 HArg.out).1
    refine (opOf o W0 Hop.out).mono ?_
    rintro e w2 ⟨rfl, d2⟩
    have HB2 := Lib.hid (hA.out.trans (d2.mono hA.out.size))
    have hA2 := Lib.hid ((d2.block _ sz0).trans HArg.out)
    clear d2
    have qn : ∀ w : World, (binOp .neq 123 (.iface (opT o) (.agg #[])) .nilIface).run Tryz.prog w = .ok (.bool true) w := fun w => rfl
    have mh := fun W => meth_holds o Hop.out W
    have nh := fun W => nil_holds o Hop.out W
    have fh := fun a W => call_holds o Hop.out a W
    have cR : ∀ dd os, Calls Tryz.prog 109 #[.agg #[.int .i64 o, .int .i64 n, .string s, .slice ma ms.length mc]] (Go.Sort.grow (redrawn w2 dd) os) fun e w'' => e = .returned (.agg #[.int .i64 o, .int .i64 n, .string s, .slice none 0 0, .slice ma ms.length mc]) ∧ ∃ p : Regrown, w'' = Go.Sort.grow (redrawn w2 p.d) p.os := fun dd os => Calls.regrown_of (vmRuleI o n s ma ms.length mc _)
    have HM2 : Hid (∀ W, Below w2.heap.size w2 W → MarksN All W ma ms.length ms) := fun W hW => (HM.out.kept ((same_of_below HB2.out).trans (same_of_below hW)))
    have cH : ∀ dd os, Calls Tryz.prog (holdsF o) #[.agg #[], .agg #[.int .i64 o, .int .i64 n, .string s, .slice none 0 0, .slice ma ms.length mc]] (Go.Sort.grow (redrawn w2 dd) os) fun e w'' => e = .returned (.bool (decide (HoldsN o n s ms))) ∧ ∃ p : Regrown, w'' = Go.Sort.grow (redrawn w2 p.d) p.os := fun dd os => Calls.regrown_of ((holdsI o n s none ma 0 0 mc ms _ Hop.out HS.out (HM2.out _ (below_regrown w2 dd os)) HML.out).mono fun e w' ⟨b, h1, h2, h3⟩ => ⟨by rw [h1, show b = decide (HoldsN o n s ms) from by have := h2.out; cases b <;> simp_all], h3⟩)
    have z0 : w2.cell? ⟨w.heap.size, 0, none⟩ = some (Value.int .i64 o) := by rw [Lib.cell_of_heap hA2.out]; rfl
    have z1' : w2.cell? ⟨w.heap.size, 1, none⟩ = some (Value.int .i64 n) := by rw [Lib.cell_of_heap hA2.out]; rfl
    have z2' : w2.cell? ⟨w.heap.size, 2, none⟩ = some (Value.string s) := by rw [Lib.cell_of_heap hA2.out]; rfl
    have z3' : w2.cell? ⟨w.heap.size, 3, none⟩ = some (Value.slice ma ms.length mc) := by rw [Lib.cell_of_heap hA2.out]; rfl
    have y0 := cell_regrown z0
    have y1 := cell_regrown z1'
    have y2 := cell_regrown z2'
    have y3 := cell_regrown z3'
    have HPP : Hid ((decide (HoldsN o n s ms) = true) ↔ ((1 ≤ o ∧ o ≤ 11) ∧ HoldsV o n q s ms)) := by
      refine Lib.hid ?_
      rw [decide_eq_true_iff]
      unfold HoldsV
      rw [if_neg HNO.out]
      exact ⟨fun h => ⟨by have := Hop.out; omega, h⟩, fun h => h.2⟩
    generalize hhd : decide (HoldsN o n s ms) = hd2 at *
    clear hhd z0 z1' z2' z3'
    go_wp2_with fail
    refine wp_region_quiet_below (by kernel_rfl) (by kernel_rfl) ?_
    repeat (quiet_step (first | exact cR _ _ | exact cH _ _))
    refine wpQuiet_nil ?_
    intro _ hw'
    obtain ⟨⟨dq, osq⟩, hw''⟩ := hw'
    subst hw''
    go_wp2
    go_ret
    exact ⟨hd2, rfl, HPP, HB2.out.trans ((below_regrown w2 dq osq).mono HB2.out.size)⟩
  · have HN : Hid (¬ ((1 ≤ o ∧ o ≤ 11) ∧ HoldsV o n q s ms)) := fun h => by have h1 := h.1; have h2 := HNO.out; omega
    have Hop := Lib.hid hop
    clear hop
    go_enter Tryz.func81, Tryz.ntmps81
    go_wp2_with fail
    generalize (w.alloc (.cells #[.int .i64 o, .int .i64 n, .string s, .slice ma ms.length mc] 48)) = W0 at *
    refine (opNone o W0 Hop.out).mono ?_
    rintro e w2 ⟨rfl, d2⟩
    have HB2 := Lib.hid (hA.out.trans (d2.mono hA.out.size))
    have qn : ∀ w : World, (binOp .neq 123 .nilIface .nilIface).run Tryz.prog w = .ok (.bool false) w := fun w => rfl
    clear d2
    go_wp2_with fail
    go_quiet (fail)
    go_wp2
    go_ret
    exact ⟨false, rfl, ⟨fun h => (by cases h), fun h => absurd h HN.out⟩, HB2.out.trans (belowN (Below.refl _ _) _)⟩
end Go.Proofs.YtjhgmmcglonokaaGreatDoor
