/-
  How much fuel a rule needs: the model's answer and the program's.
-/
import Derived.Test.YtembapomapcdfaaGreatDoorRuleOk
namespace Go.Proofs.YtembapomapcdfaaGreatDoor
open Go.RowKit
set_option linter.unusedVariables false
set_option linter.unusedSimpArgs false

def ifC : List Int → Int
  | [a, b, c, d] => a + b + (if c < d then d else c)
  | _ => 0
mutual
def costT : Tr → Int
  | .node o n s ks ms => 1 + ms.length + (if o = 9 then ifC (costsL ks) else (costsL ks).sum)
def costsL : List Tr → List Int
  | [] => []
  | t :: r => costT t :: costsL r
end
theorem costsL_eq : ∀ ks : List Tr, costsL ks = ks.map costT
  | [] => by rw [costsL]; rfl
  | t :: r => by rw [costsL, costsL_eq r]; rfl
theorem sum_take {α : Type} (f : α → Int) (l : List α) (k : Nat) (h : k < l.length) : ((l.take (k + 1)).map f).sum = ((l.take k).map f).sum + f l[k] := by
  rw [List.take_succ_eq_append_getElem h, List.map_append, List.sum_append]; simp
theorem ms_len {o n : Int} {s : ByteArray} {k : Nat} {ms : List (Int × Int)} (h : PlainN o n s k ms) : ms.length ≤ 5 := by
  have h2 := h.2
  unfold HoldsN at h2
  split at h2
  · omega
  split at h2
  · omega
  split at h2
  · exact h2.2.2.2.1
  · omega
theorem four {α : Type} {l : List α} (h : l.length = 4) : ∃ a b c d, l = [a, b, c, d] := by
  match l, h with
  | [a, b, c, d], _ => exact ⟨a, b, c, d, rfl⟩
theorem if_kids {n : Int} {s : ByteArray} {ks : List Tr} {ms : List (Int × Int)} (h : PlainN 9 n s ks.length ms) : ks.length = 4 := by
  have h1 := h.1
  have e : kidsN 9 = 4 := rfl
  omega
theorem cost_bd : ∀ (k : Nat) (t : Tr), wT t ≤ k → OkP t → 1 ≤ costT t ∧ costT t ≤ 6 * wT t := by
  intro k
  induction k with
  | zero => intro t h; cases t; rw [wT] at h; omega
  | succ k ih =>
    intro t hk h
    obtain ⟨o, n, s, ks, ms⟩ := t
    obtain ⟨hp, h3⟩ := okP_parts h
    have h5 := ms_len hp
    rw [wT] at hk ⊢
    have e : ∀ ks : List Tr, wL ks ≤ k → (∀ t ∈ ks, OkP t) → 0 ≤ (ks.map costT).sum ∧ (ks.map costT).sum ≤ 6 * wL ks := by
      intro ks
      induction ks with
      | nil => intro _ _; simp [wL]
      | cons t r ihr =>
        intro hw ho
        rw [wL] at hw ⊢
        have a := ihr (by omega) (fun x hx => ho x (by simp [hx]))
        have b := ih t (by omega) (ho t (by simp))
        simp only [List.map_cons, List.sum_cons] at a ⊢
        omega
    have hs := e ks (by omega) h3
    rw [costT, costsL_eq]
    split
    · rename_i h9
      subst h9
      obtain ⟨a, b, c, d, rfl⟩ := four (if_kids hp)
      simp only [wL] at hk ⊢
      have ha := ih a (by omega) (h3 a (by simp))
      have hb := ih b (by omega) (h3 b (by simp))
      have hc := ih c (by omega) (h3 c (by simp))
      have hd := ih d (by omega) (h3 d (by simp))
      simp only [List.map_cons, List.map_nil, ifC]
      split <;> omega
    · omega
def CostAt (F : FuncId) (t : Tr) : Prop := ∀ (f : Fld) (w : World), TrF All w t f → OkP t → Calls Tryz.prog F #[f.val] w fun e w' => e = .returned (.int .i64 (costT t)) ∧ Below w.heap.size w w'
theorem cellsF_b {w W : World} {b o : Nat} {f : Fld} (h : CellsF w b o f) (hb : b < w.heap.size) (hB : Below w.heap.size w W) : CellsF W b o f := h.kept (hB.block b hb)
/-- What a choice's kids read as, in all worlds behind. -/
def Four (w : World) (b off : Nat) (g0 g1 g2 g3 : Fld) (k0 k1 k2 k3 : Tr) : Prop := ∀ W, Below w.heap.size w W → (CellsF W b off g0 ∧ CellsF W b (off + 5) g1 ∧ CellsF W b (off + 10) g2 ∧ CellsF W b (off + 15) g3) ∧ TrF All W k0 g0 ∧ TrF All W k1 g1 ∧ TrF All W k2 g2 ∧ TrF All W k3 g3
theorem four_rows {w : World} {a : Option Addr} {k0 k1 k2 k3 : Tr} (h : RowsT All w a 4 [k0, k1, k2, k3]) : ∃ b off g0 g1 g2 g3, a = some ⟨b, off, none⟩ ∧ Four w b off g0 g1 g2 g3 k0 k1 k2 k3 := by
  obtain ⟨b, off, e, -, hb, hr⟩ := h.cells (by omega)
  obtain ⟨g0, c0, t0⟩ := hr 0 (by simp)
  obtain ⟨g1, c1, t1⟩ := hr 1 (by simp)
  obtain ⟨g2, c2, t2⟩ := hr 2 (by simp)
  obtain ⟨g3, c3, t3⟩ := hr 3 (by simp)
  refine ⟨b, off, g0, g1, g2, g3, e, fun W hW => ⟨⟨?_, ?_, ?_, ?_⟩, t0.kept (same_of_below hW), t1.kept (same_of_below hW), t2.kept (same_of_below hW), t3.kept (same_of_below hW)⟩⟩
  · have := cellsF_b c0 hb hW; rw [Nat.zero_mul, Nat.add_zero] at this; exact this
  · exact cellsF_b c1 hb hW
  · exact cellsF_b c2 hb hW
  · exact cellsF_b c3 hb hW
end Go.Proofs.YtembapomapcdfaaGreatDoor
