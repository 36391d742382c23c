/-
  The next record at a place of a log, and all records of a log, by the model.
-/
import Derived.Test.YtiganhkmnklhlaaDoorLogSpec
import Derived.Deep.AppendLies
import Derived.Deep.DeepMust
import Derived.OwnWalk
import Derived.Maps.AppendAt
namespace Go.Proofs.YtiganhkmnklhlaaDoor
open Go.RowKit
set_option linter.unusedVariables false
set_option linter.unusedSimpArgs false

def SYes (a k : Nat) (t : ByteArray) (w : World) (e : Ending) (w' : World) : Prop := ∃ (x : ByteArray) (q : Nat), e = .returned (.tuple #[.string x, .int .i64 q, .bool true]) ∧ x.size ≤ t.size ∧ q ≤ t.size ∧ a + 17 ≤ q ∧ Hid (FB (t.data.toList.drop a) k x ∧ q = a + (frame k x).length) ∧ Below w.heap.size w w'
def SNo (a k : Nat) (t : ByteArray) (w : World) (e : Ending) (w' : World) : Prop := e = .returned (.tuple #[.string ⟨#[]⟩, .int .i64 a, .bool false]) ∧ Hid (∀ x, ¬ FB (t.data.toList.drop a) k x) ∧ Below w.heap.size w w'
def SNext (a k : Nat) (t : ByteArray) (w : World) (e : Ending) (w' : World) : Prop := SYes a k t w e w' ∨ SNo a k t w e w'

theorem sn_none1 {T : List UInt8} {a k : Nat} (hs : T.length ≤ 1000000000) (ha : a ≤ T.length) (hn : NoColon T a T.length) : ∀ x, ¬ FB (T.drop a) k x := by
  intro x hx
  have := (colons (q := 0) hx hs ha hn (Or.inl rfl)).1
  omega
theorem sn_none2 {T : List UInt8} {a p k : Nat} (hs : T.length ≤ 1000000000) (ha : a ≤ p) (hpl : p < T.length) (hn : NoColon T a p) (hp : T[p]? = some 58) (hn2 : NoColon T (p + 1) T.length) : ∀ x, ¬ FB (T.drop a) k x := by
  intro x hx
  have := ((colons hx hs ha hn (Or.inr hp)).2 (by omega) hn2 (Or.inl rfl)).1
  omega
theorem sn_num {T : List UInt8} {a p q k : Nat} {n : Int} (hs : T.length ≤ 1000000000) (ha : a ≤ p) (hn : NoColon T a p) (hp : T[p]? = some 58) (hpq : p + 1 ≤ q) (hn2 : NoColon T (p + 1) q) (hq : T[q]? = some 58)
    (hv : n = numV ((T.drop (p + 1)).take (q - (p + 1)))) (hb : n < 0 ∨ (T.length : Int) < q + 1 + n + 13) : ∀ x, ¬ FB (T.drop a) k x := by
  intro x hx
  obtain ⟨-, h2, h3, -⟩ := (colons hx hs ha hn (Or.inr hp)).2 hpq hn2 (Or.inr hq)
  rw [h2] at hv
  omega
theorem sn_word {T : List UInt8} {a p q k n : Nat} {r : ByteArray} (hs : T.length ≤ 1000000000) (ha : a ≤ p) (hn : NoColon T a p) (hp : T[p]? = some 58) (hpq : p + 1 ≤ q) (hn2 : NoColon T (p + 1) q) (hq : T[q]? = some 58)
    (hv : (n : Int) = numV ((T.drop (p + 1)).take (q - (p + 1)))) (hr : r.data.toList = (T.drop (q + 1)).take n) : ∀ x, FB (T.drop a) k x → x = r := by
  intro x hx
  obtain ⟨-, h2, h3, h4⟩ := (colons hx hs ha hn (Or.inr hp)).2 hpq hn2 (Or.inr hq)
  rw [h2] at hv
  have : n = x.size := by omega
  subst this
  exact ByteArray.ext (by simpa using h4.trans hr.symm)
theorem str_ne' {a b : ByteArray} (h : ¬ a = b) : (a.toList == b.toList) = false := by
  rw [beq_eq_false_iff_ne]
  intro e
  rw [Lib.toList_data, Lib.toList_data] at e
  exact h (ByteArray.ext (Array.ext' e))
theorem sn_yes {T : List UInt8} {a k m : Nat} {x : ByteArray} (h : (T.drop a).take m = frame k x) : FB (T.drop a) k x := ⟨(T.drop a).drop m, by rw [← h, List.take_append_drop]⟩
theorem sn_take {T : List UInt8} {a k : Nat} {x : ByteArray} (h : FB (T.drop a) k x) : a + (frame k x).length ≤ T.length ∧ (T.drop a).take (frame k x).length = frame k x := by
  obtain ⟨r, e⟩ := h
  have := congrArg List.length e
  have hl := frame_ge k x
  simp only [List.length_append, List.length_drop] at this
  refine ⟨by omega, by rw [← e, List.take_left]⟩

set_option maxRecDepth 100000 in
set_option maxHeartbeats 8000000 in
theorem nextS (t : ByteArray) (a k : Nat) (w : World) (ht : t.size ≤ 1048576) (ha : a ≤ t.size) (hk : k ≤ 1048576) :
    Calls Tryd.prog 27 #[.string t, .int .i64 a, .int .i64 k] w (SNext a k t w) := by
  have Htl := Lib.hid (show t.data.toList.length = t.size by simp)
  have Hlt : Hid (t.data.toList.length ≤ 1000000000) := by show _ ≤ _; rw [Htl.out]; omega
  go_enter Tryd.func27, Tryd.ntmps27
  go_wp2_with fail
  refine (untilS t a _ ht ha).mono ?_
  rintro e w1 ⟨n1, p1, rfl, -, -, hd1, h1⟩
  have hb1 : Below w.heap.size w w1 := drew_below hd1
  have hp1 : p1 ≤ t.size := by
    rcases h1 with ⟨-, h, -⟩ | ⟨q, h, h2, h3, -⟩ <;> omega
  clear hd1
  go_wp2_with fail
  refine (untilS t p1 _ ht hp1).mono ?_
  rintro e w2 ⟨n, p2, rfl, hn1, hn2, hd2, h2⟩
  have hb2 : Below w.heap.size w w2 := hb1.trans ((drew_below hd2 : Below w1.heap.size w1 w2).mono hb1.size)
  have hp2 : p2 ≤ t.size := by
    rcases h2 with ⟨-, h, -⟩ | ⟨q, h, h2, h3, -⟩ <;> omega
  have H1 := Lib.hid h1
  have H2 := Lib.hid h2
  clear h1 h2 hd2
  rcases Int.lt_or_le n 0 with c1 | c1
  · have hno : ∀ x, ¬ FB (t.data.toList.drop a) k x := by
      rcases H1.out with ⟨-, -, h⟩ | ⟨q, rfl, hq1, hq2, h⟩
      · exact sn_none1 Hlt.out (by rw [Htl.out]; omega) (by rw [Htl.out]; exact h.out)
      · rcases H2.out with ⟨-, -, h'⟩ | ⟨q', rfl, hq1', hq2', h'⟩
        · exact sn_none2 Hlt.out hq1 (by rw [Htl.out]; omega) h.out.2.1 h.out.2.2 (by rw [Htl.out]; exact h'.out)
        · exact sn_num Hlt.out hq1 h.out.2.1 h.out.2.2 hq1' h'.out.2.1 h'.out.2.2 h'.out.1 (Or.inl c1)
    have Hno := Lib.hid hno
    clear hno
    go_wp2_with fail
    go_ret3
    exact Or.inr ⟨rfl, Hno.out, hb2⟩
  obtain ⟨m, rfl⟩ := Int.eq_ofNat_of_zero_le c1
  obtain ⟨q', hp2e, hq1', hq2', h'⟩ : ∃ q, Hid (p2 = q + 1) ∧ p1 ≤ q ∧ q < t.size ∧ Hid ((m : Int) = numV ((t.data.toList.drop p1).take (q - p1)) ∧ NoColon t.data.toList p1 q ∧ t.data.toList[q]? = some 58) := by
    rcases H2.out with ⟨h, -⟩ | h
    · omega
    · exact h
  obtain ⟨q, hp1e, hq1, hq2, h⟩ : ∃ q, Hid (p1 = q + 1) ∧ a ≤ q ∧ q < t.size ∧ Hid (n1 = numV ((t.data.toList.drop a).take (q - a)) ∧ NoColon t.data.toList a q ∧ t.data.toList[q]? = some 58) := by
    rcases H1.out with ⟨-, h0, -⟩ | h
    · have := hp2e.out; omega
    · exact h
  clear H1 H2
  have HQ : Hid (q + 1 ≤ q' ∧ NoColon t.data.toList (q + 1) q' ∧ (m : Int) = numV ((t.data.toList.drop (q + 1)).take (q' - (q + 1)))) := by
    have := hp1e.out
    subst this
    exact ⟨hq1', h'.out.2.1, h'.out.1⟩
  obtain ⟨J, hJ⟩ : ∃ J : Nat, J = p2 + m := ⟨_, rfl⟩
  have hmb : (m : Int) < 1000000000000 := hn2
  have hw1 : IntKind.i64.wrap ((p2 : Int) + (m : Int)) = (J : Int) := by rw [IntWalk.i64_in _ (by omega)]; omega
  have hw2 : IntKind.i64.wrap ((J : Int) + 13) = (J : Int) + 13 := IntWalk.i64_in _ (by omega)
  have gm : decide ((m : Int) < 0) = false := by simp
  have HJ := Lib.hid hJ
  have j1 : (p2 : Int) ≤ J := by omega
  clear hJ
  rcases Nat.lt_or_ge t.size (J + 13) with c2 | c2
  · have hno : ∀ x, ¬ FB (t.data.toList.drop a) k x := sn_num Hlt.out hq1 h.out.2.1 h.out.2.2 HQ.out.1 HQ.out.2.1 h'.out.2.2 HQ.out.2.2 (Or.inr (by rw [Htl.out]; have := hp2e.out; have := HJ.out; omega))
    have Hno := Lib.hid hno
    have g2 : decide ((t.size : Int) < (J : Int) + 13) = true := by simp; omega
    clear hno
    go_wp2_with fail
    go_ret3
    exact Or.inr ⟨rfl, Hno.out, hb2⟩
  · have g2 : decide ((t.size : Int) < (J : Int) + 13) = false := by simp; omega
    have hr : (t.extract p2 J).data.toList = (t.data.toList.drop (q' + 1)).take m := by rw [Lib.extract_data, hp2e.out]; congr 1; have := hp2e.out; have := HJ.out; omega
    have hrz : (t.extract p2 J).size = m := by rw [ByteArray.size_extract]; have := HJ.out; omega
    have hone := sn_word (k := k) Hlt.out hq1 h.out.2.1 h.out.2.2 HQ.out.1 HQ.out.2.1 h'.out.2.2 HQ.out.2.2 hr
    have Hone := Lib.hid hone
    have Hrz := Lib.hid hrz
    have j2 : (J : Int) ≤ t.size := by omega
    clear hr hone hrz
    go_wp2_with fail
    refine (frameS k (t.extract p2 J) _ hk (by have := Hrz.out; have := HJ.out; omega)).mono ?_
    rintro e w3 ⟨f, rfl, hfz, hf, hb3⟩
    have hB3 : Below w.heap.size w w3 := hb2.trans (hb3.mono hb2.size)
    have hfl : (frame k (t.extract p2 J)).length = f.size := by
      rw [hf.out]; show _ = (frame k (t.extract p2 J)).toArray.size; rw [List.size_toArray]
    have HFL := Lib.hid hfl
    have hrz := Hrz.out
    clear hfl
    obtain ⟨K, hK⟩ : ∃ K : Nat, K = a + f.size := ⟨_, rfl⟩
    have hw3 : IntKind.i64.wrap ((a : Int) + (f.size : Int)) = (K : Int) := by rw [IntWalk.i64_in _ (by have := HJ.out; omega)]; omega
    have j3 : (a : Int) ≤ K := by omega
    have HK := Lib.hid hK
    clear hK
    rcases Nat.lt_or_ge t.size K with c3 | c3
    · have hno : Hid (∀ x, ¬ FB (t.data.toList.drop a) k x) := fun x hx => by
        have hx2 := sn_take hx
        rw [Hone.out x hx] at hx2
        rw [HFL.out, Htl.out] at hx2
        have := HK.out
        omega
      have g3 : decide ((t.size : Int) < (K : Int)) = true := by simp; omega
      go_wp2_with fail
      go_ret3
      exact Or.inr ⟨rfl, hno.out, hB3⟩
    · have g3 : decide ((t.size : Int) < (K : Int)) = false := by simp; omega
      have g3n : decide (t.size < K) = false := by simp; omega
      have j4 : (K : Int) ≤ t.size := by omega
      have hex : Hid ((t.extract a K).data.toList = (t.data.toList.drop a).take f.size) := by show _ = _; rw [Lib.extract_data]; congr 1; have := HK.out; omega
      by_cases hq : t.extract a K = f
      · have HQ2 := Lib.hid hq
        have g4 : ((t.extract a K).toList == f.toList) = true := by rw [hq]; simp
        clear hq
        go_wp2
        go_ret3
        have hfb : FB (t.data.toList.drop a) k (t.extract p2 J) := sn_yes (m := f.size) (by rw [← hex.out, HQ2.out, hf.out])
        refine Or.inl ⟨t.extract p2 J, K, rfl, by rw [ByteArray.size_extract]; omega, c3, ?_, ⟨hfb, by rw [HFL.out]; exact HK.out⟩, hB3⟩
        have := frame_ge k (t.extract p2 J)
        have := HFL.out
        have := HK.out
        omega
      · have HQ2 : Hid (¬ t.extract a K = f) := hq
        have g4 : ((t.extract a K).toList == f.toList) = false := str_ne' hq
        clear hq
        go_wp2
        go_ret3
        refine Or.inr ⟨rfl, fun x hx => ?_, hB3⟩
        have hx2 := sn_take hx
        rw [Hone.out x hx, HFL.out, ← hex.out] at hx2
        apply HQ2.out
        apply ByteArray.ext
        apply Array.ext'
        rw [hx2.2, hf.out]
end Go.Proofs.YtiganhkmnklhlaaDoor
