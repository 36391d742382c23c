/-
  A list that a reader reads: one or more, with a byte between.
  The program's reader of a leg's numbers.
-/
import Derived.Test.YtdaccpffdnbkiaaGreatDoorJ9
import Derived.Deep.AppendLies
import Derived.Laws.OwnMore
namespace Go.Proofs.YtdaccpffdnbkiaaGreatDoor
open Go.RowKit
set_option linter.unusedVariables false
set_option linter.unusedSimpArgs false

def cellsI (l : List Int) : List Value := l.flatMap fun x => [.int .i64 x]
theorem cellsI_len : ∀ (l : List Int), (cellsI l).length = l.length * 1
  | [] => rfl
  | x :: l => by
    have := cellsI_len l
    have e : cellsI (x :: l) = [.int .i64 x] ++ cellsI l := rfl
    have e2 : ([.int .i64 x] : List Value).length = 1 := rfl
    rw [e, List.length_append, this, e2, List.length_cons]; omega
theorem cellsI_snoc (l : List Int) (x : Int) : cellsI (l ++ [x]) = cellsI l ++ [.int .i64 x] := by simp [cellsI]
def ListPostI (b : Nat) (s : ByteArray) (p : Nat) (w : World) (e : Ending) (w' : World) : Prop :=
  w.grownBy w' (some b) ∧ ((Hid (rdList 44 rdNum (restB s p) = none) ∧ e = Fell) ∨ ∃ (l : List Int) (q g cap : Nat), p ≤ q ∧ (∀ x ∈ l, True) ∧ 1 ≤ l.length ∧ l.length ≤ s.size + 1 ∧ l.length + p ≤ q + 1 ∧ Hid (rdList 44 rdNum (restB s p) = some (l, restB s q)) ∧ e = .returned (.slice (some ⟨g, 0, none⟩) l.length cap) ∧ w'.ownsRow w.heap.size 3 1 (.slice (some ⟨g, 0, none⟩) l.length cap) l.length (cellsI l) ∧ g ≠ b ∧ RdS w' b s q)
theorem own_oneI (w : World) (B : Nat) (hB : B ≤ w.heap.size) (x : Int) : (w.alloc (.cells (#[.int .i64 x]) 3)).ownsRow B 3 1 (.slice (some ⟨w.heap.size, 0, none⟩) 1 1) 1 (cellsI [x]) := by
  have h := World.ownsRow_lit (base := B) (e := 3) (size := 1) w (#[.int .i64 x]) 1 hB (by unfold maxLen; omega) (by rfl)
  have e : cellsI [x] = (#[.int .i64 x]).toList := by simp [cellsI]
  rw [e]; exact h
set_option maxRecDepth 100000 in
set_option maxHeartbeats 4000000 in
theorem listIC (w0 : World) (b : Nat) (s : ByteArray) (p : Nat) (w : World) (h : RdS w b s p) (hs : s.size ≤ 1048576) (hB : Below w0.heap.size w0 w) (hb : w0.heap.size ≤ b)
    (hM : ∀ (q : Nat) (W : World), RdS W b s q → Below w0.heap.size w0 W → Calls Tryz.prog 73 #[.pointer (some ⟨b, 0, none⟩)] W (NumPostX b s q W)) :
    Calls Tryz.prog 74 #[.pointer (some ⟨b, 0, none⟩), .int .u8 44, .func (.func 73) #[.pointer (some ⟨b, 0, none⟩)] #[]] w (ListPostI b s p w) := by
  obtain ⟨i0, hi, hz0, hz1, hz2⟩ := info_parts infoIntR
  have hlt := h.lt
  have M := Lib.hid hM
  have K := Lib.hid (hM p w h hB)
  have HB := Lib.hid hB
  clear h hM hB
  go_enter Tryz.func74, Tryz.ntmps74
  go_wp2_with fail
  refine K.out.mono ?_
  rintro e w1 ⟨hg, ⟨hn, he⟩ | ⟨x0, q0, hq0, hx0, hp0, rfl, hr⟩⟩
  · unfold Fell at he
    subst he
    have HG := Lib.hid hg
    have HN := Lib.hid hn
    clear hg hn
    go_wp2
    refine ⟨rfl, HG.out, Or.inl ⟨Lib.hid ?_, rfl⟩⟩
    unfold rdList; rw [HN.out.out]
  have hw1 : w.heap.size ≤ w1.heap.size := hg.size
  have HO := Lib.hid (own_oneI w1 w.heap.size hw1 x0)
  have HG := Lib.hid (grown_trans hg (grown_new w1 (.cells (#[.int .i64 x0]) 3) _))
  have HR := Lib.hid (hr.kept ((Below.refl _ _).alloc (Nat.le_refl _) (.cells (#[.int .i64 x0]) 3)))
  have HP : Hid (rdList 44 rdNum (restB s p) = rdTail 44 rdNum (restB s q0).length (restB s q0) [x0]) := by
    refine Lib.hid ?_
    unfold rdList; rw [hp0.out]
  have HX0 := Lib.hid hx0
  clear hg hr hp0 hx0 K
  skip
  go_wp2_with fail
  generalize w1.alloc (.cells #[.int .i64 x0] 3) = wL at *
  generalize w1.heap.size = gL at *
  go_loopw [7] (fun vl wr => ∃ (acc : List Int) (q g cap m : Nat), vl = .slice (some ⟨g, 0, none⟩) acc.length cap ∧ 1 ≤ acc.length ∧ acc.length + p ≤ q + 1 ∧ p ≤ q ∧ wr.ownsRow w.heap.size 3 1 (.slice (some ⟨g, 0, none⟩) acc.length cap) acc.length (cellsI acc) ∧ RdS wr b s q ∧ w.grownBy wr (some b) ∧ Hid (∀ x ∈ acc, True) ∧ Hid (rdList 44 rdNum (restB s p) = rdTail 44 rdNum m (restB s q) acc) ∧ (restB s q).length ≤ m) (fun vl _ => s.size + 2 - lenV vl)
  case atStart => exact ⟨[x0], q0, gL, 1, _, rfl, by simp, by simp; omega, hq0, HO.out, HR.out, HG.out, Lib.hid (by intro x hx; simp at hx; subst hx; exact HX0.out), HP, Nat.le_refl _⟩
  case round =>
    obtain ⟨acc, q, g, cap, m, rfl, ha1, haq, hpq, hown, hr, hg, hxs, hP, hm⟩ := hrel
    have hqs := hr.le
    have hgb := (hown.lt g rfl)
    have hgn : g ≠ b := by omega
    have HN := Lib.hid (nextC 44 44 rfl b s q wr hr hs)
    have HG2 := Lib.hid hg
    have HOWN := Lib.hid hown
    have HPm := Lib.hid hP
    clear HO HG HR HP hr hg hown hP
    go_wp2_with fail
    refine HN.out.mono ?_
    rintro e w2 ⟨hg2, ⟨hn2, rfl, hr2⟩ | ⟨hn2, rfl, hr2⟩⟩
    · have HG3 := Lib.hid (grown_trans HG2.out hg2)
      have HO3 := Lib.hid (HOWN.out.kept hg2 (Or.inr (by simp [Value.ownBlock]; exact hgn)))
      have HR3 := Lib.hid hr2
      have HN2 := Lib.hid hn2
      clear hg2 hr2 hn2
      go_wp2
      go_ret
      refine ⟨HG3.out, Or.inr ⟨acc, q, g, cap, hpq, hxs.out, ha1, by omega, haq, Lib.hid ?_, rfl, HO3.out, hgn, HR3.out⟩⟩
      rw [HPm.out.out]; exact rdTail_stop HN2.out _ _
    · have hB2 := own_below HB.out hb (grown_trans HG2.out hg2)
      have HM2 := Lib.hid (M.out _ _ hr2 hB2)
      have HG3 := Lib.hid (grown_trans HG2.out hg2)
      have HO3 := Lib.hid (HOWN.out.kept hg2 (Or.inr (by simp [Value.ownBlock]; exact hgn)))
      have HN2 := Lib.hid hn2
      have hq1 := hr2.le
      clear hg2 hr2 hn2 hB2
      go_wp2_with fail
      refine HM2.out.mono ?_
      rintro e w3 ⟨hg3, ⟨hn3, he⟩ | ⟨x, q2, hq2, hx, hp3, rfl, hr3⟩⟩
      · unfold Fell at he
        subst he
        have HG4 := Lib.hid (grown_trans HG3.out hg3)
        have HN3 := Lib.hid hn3
        clear hg3 hn3
        go_wp2
        refine ⟨rfl, HG4.out, Or.inl ⟨Lib.hid ?_, rfl⟩⟩
        rw [HPm.out.out]; exact rdTail_fell HN2.out HN3.out.out hm _
      · have hb3 := grown_trans HG3.out hg3
        have HO4 := Lib.hid ((HO3.out.kept hg3 (Or.inr (by simp [Value.ownBlock]; exact hgn))).alloc (.cells (#[.int .i64 x]) 3))
        have HG4 := Lib.hid (grown_trans hb3 (grown_new w3 (.cells (#[.int .i64 x]) 3) _))
        have HR4 := Lib.hid (hr3.kept ((Below.refl _ _).alloc (Nat.le_refl _) (.cells (#[.int .i64 x]) 3)))
        have HX4 : Hid ((w3.alloc (.cells (#[.int .i64 x]) 3)).heap[w3.heap.size]? = some (.cells (#[.int .i64 x]) 3 (0, 0))) := heap_alloc_new w3 _
        have hz4 : w.heap.size ≤ (w3.alloc (.cells (#[.int .i64 x]) 3)).heap.size := HG4.out.size
        obtain ⟨m', hm1, hm2, hm3⟩ := rdTail_more HN2.out hp3.out hm acc
        have HP4 : Hid (rdList 44 rdNum (restB s p) = rdTail 44 rdNum m' (restB s q2) (acc ++ [x])) := Lib.hid (by rw [HPm.out.out]; exact hm3)
        have hm4 : (restB s q2).length ≤ m' := by rw [restB_len] at hm2 ⊢; omega
        have HXa : Hid (∀ y ∈ acc ++ [x], True) := Lib.hid (by intro y hy; rcases List.mem_append.1 hy with hy | hy; exact hxs.out y hy; simp at hy; subst hy; exact hx)
        have hal : acc.length ≤ 1048577 := by omega
        clear hg3 hr3 hp3 hb3 hm3 hx hxs hm HPm HG2 HG3 HOWN HO3 HM2 HN HN2 hm1 hm2
        skip
        go_wp2_with (at_builtin; refine wpList_append_lies _ rfl _ _ 22 rfl w.heap.size 3 i0 (.int .i64 0) 1 8 Tryz.underlying22 hi hz0 hz1 hz2 rfl (by decide) (.slice (some ⟨g, 0, none⟩) acc.length cap) acc.length (cellsI acc) rfl HO4.out ⟨w3.heap.size, 0, none⟩ 1 1 [.int .i64 x] rfl rfl (World.news_of_block HX4.out) (by intro u hu; simp at hu; first | (subst hu; rfl) | (rcases hu with rfl | rfl | rfl | rfl <;> rfl)) (by decide) (by unfold maxLen; omega) (by omega) hz4 _ rfl ?_; intro g5 cap5 w5 hown5 hg5 hgg5 hlt5)
        have hg5' : (w3.alloc (.cells #[.int .i64 x] 3)).grownBy w5 (some g) := hg5
        have HG5 := Lib.hid (grown_own HG4.out hg5' hgb.1)
        have HR5 := Lib.hid (HR4.out.grown hg5' hgn)
        have HO5 : Hid (w5.ownsRow w.heap.size 3 1 (.slice (some ⟨g5, 0, none⟩) (acc ++ [x]).length cap5) (acc ++ [x]).length (cellsI (acc ++ [x]))) := Lib.hid (by rw [List.length_append, List.length_singleton, cellsI_snoc]; exact hown5)
        clear hg5 hg5' hown5 hgg5 hlt5 HO4 HG4 HR4 HX4
        go_wp2
        go_roundw
        case rel => exact ⟨acc ++ [x], q2, g5, cap5, m', by simp, by simp, by simp; omega, by omega, HO5.out, HR5.out, HG5.out, HXa, HP4, hm4⟩
        case measure => simp [lenV]; omega
end Go.Proofs.YtdaccpffdnbkiaaGreatDoor

namespace Go.Proofs.YtdaccpffdnbkiaaGreatDoor
open Go.RowKit
set_option linter.unusedVariables false
set_option linter.unusedSimpArgs false

theorem makeF (fn : Fn) (first cap : Array Value) (w : World) : (Instr.makeFunc fn first cap).run Tryz.prog w = .ok (.func fn first cap) w := rfl
theorem ownMonoN {w : World} {base base' size n : Nat} {e : TypeId} {v : Value} {xs : List Value} (h : w.ownsRow base e size v n xs) (hb : base' ≤ base) : w.ownsRow base' e size v n xs :=
  ⟨h.1, h.2.imp id fun ⟨g, cap, cur, hv, hB, r⟩ => ⟨g, cap, cur, hv, Nat.le_trans hb hB, r⟩⟩
theorem grown_of_below {w w' : World} (h : Below w.heap.size w w') : w.grownBy w' none := ⟨h.os, h.tape, h.output, h.size, fun i hi _ => h.block i hi⟩
theorem listI_mono {b : Nat} {s : ByteArray} {p : Nat} {w ww : World} {e : Ending} {w' : World} (hI : Below w.heap.size w ww) (h : ListPostI b s p ww e w') : ListPostI b s p w e w' := by
  obtain ⟨hg, h⟩ := h
  refine ⟨⟨hg.os.trans hI.os, hg.tape.trans hI.tape, hg.output.trans hI.output, Nat.le_trans hI.size hg.size, fun i hi hn => (hg.block i (Nat.lt_of_lt_of_le hi hI.size) hn).trans (hI.block i hi)⟩, ?_⟩
  rcases h with h | ⟨l, q, g, cap, h1, h2, h3, h4, h5, h6, h7, h8, h9, h10⟩
  · exact Or.inl h
  · exact Or.inr ⟨l, q, g, cap, h1, h2, h3, h4, h5, h6, h7, ownMonoN h8 hI.size, h9, h10⟩
set_option maxRecDepth 100000 in
set_option maxHeartbeats 8000000 in
theorem numbersLC (w0 : World) (b : Nat) (s : ByteArray) (p : Nat) (w : World) (h : RdS w b s p) (hs : s.size ≤ 1048576) (hL : LaidE w0) (hB : Below w0.heap.size w0 w) (hb : w0.heap.size ≤ b) :
    Calls Tryz.prog 49 #[.pointer (some ⟨b, 0, none⟩)] w (ListPostI b s p w) := by
  have K := Lib.hid (show ∀ W, Below w.heap.size w W → Calls Tryz.prog 74 #[.pointer (some ⟨b, 0, none⟩), .int .u8 44, .func (.func 73) #[.pointer (some ⟨b, 0, none⟩)] #[]] W (ListPostI b s p w) from
    fun W hW => (listIC w0 b s p W (h.kept hW) hs (hB.trans (hW.mono hB.size)) hb (fun q W2 h1 h2 => (numberC w0 b s q W2 h1 hs hL h2 hb).mono fun e w' hh => numPostX hh)).mono fun e w' hh => listI_mono hW hh)
  have hmf := makeF
  clear h hL hB
  go_enter Tryz.func49, Tryz.ntmps49
  go_wp2_with fail
  go_region_with (go_at_call 74; refine (K.out _ (Below.refl _ _).drew).mono ?_; rintro e w1 ⟨hg, ⟨hn, he⟩ | hok⟩; (· (unfold Fell at he; subst he; have HG := Lib.hid hg; have HN := Lib.hid hn; clear hg hn K; go_wp2; exact ⟨rfl, HG.out, Or.inl ⟨HN.out, rfl⟩⟩)); obtain ⟨l, q, g, cap, h1, h2, h3, h4, h5, h6, rfl, h8, h9, h10⟩ := hok; have HP : Hid (ListPostI b s p w (.returned (.slice (some ⟨g, 0, none⟩) l.length cap)) w1) := ⟨hg, Or.inr ⟨l, q, g, cap, h1, h2, h3, h4, h5, h6, rfl, h8, h9, h10⟩⟩; clear hg h1 h2 h3 h4 h5 h6 h8 h9 h10 K)
  all_goals
    go_wp2
    go_ret
    exact HP.out
end Go.Proofs.YtdaccpffdnbkiaaGreatDoor
