/-
  A region that draws its order, in a round of a range over a function: one walk in the order of the text serves all orders, when no operation writes and each callee leaves what was there as it was.
-/
import Derived.Lib.QuietBelowIn
import Derived.WalkKit
import Derived.TacticsInMore
namespace Go.Proofs.YtdaccpffdnbkiaaGreatDoor
open Go.RowKit Go.Sort
set_option linter.unusedVariables false

def noDefer (l : List Oper) : Bool := l.all fun o => match o.op with
  | .defer _ => false
  | _ => true
theorem noDefer_at {l : List Oper} (h : noDefer l = true) {i : Nat} {o : Oper} (hi : l.toArray[i]? = some o) : ∀ c, o.op ≠ .defer c := by
  intro c e
  have hm : o ∈ l := List.mem_of_getElem? (by simpa using hi)
  have := List.all_eq_true.1 h o hm
  rw [e] at this
  cases this

theorem opQ {F : Fence} {n : Nat} {P : Program} {C : World → Prop} {o : Oper} {a : Act} {K : Act → Prop} {K' : Act → World → Prop} {Q' : Exit → Act → World → Prop} {w : World} (hd : ∀ c, o.op ≠ .defer c) (hw : C w)
    (h : ∀ a w', C w' → K a → K' a w') (ha : o.askedIn F P a C) (hh : o.quietIn F n P a C K) : o.wpIn F n P a w K' Q' := by
  obtain ⟨v, hv, hK⟩ := hh
  refine ⟨ha w hw, ?_⟩
  rw [Oper.semAt_eq _ _ _ hd]
  have hq := hv w hw
  unfold Oper.quietAtIn at hq
  cases hr : (execOp a.eval o).run P w with
  | halt x w' => rw [hr] at hq; exact hq.elim
  | ok x w' =>
    rw [hr] at hq
    cases x with
    | value u => obtain ⟨rfl, rfl⟩ := hq; exact h _ _ hw hK
    | skip => obtain ⟨rfl, rfl⟩ := hq; exact h _ _ hw hK
    | enter f args =>
      obtain ⟨rfl, hdp, hc⟩ := hq
      exact ⟨hdp, hc.mono fun e w'' hew => by
        obtain ⟨he, hw''⟩ := hew
        subst he
        exact h _ _ hw'' hK⟩
    | _ => exact hq.elim

theorem opsQ {F : Fence} {n : Nat} {P : Program} {C : World → Prop} {l : List Oper} (hl : noDefer l = true) {i : Nat} {a : Act} {K : Act → Prop} {K' : Act → World → Prop} {Q' : Exit → Act → World → Prop} {w : World} (hw : C w)
    (h : ∀ a w', C w' → K a → K' a w') (hh : qOpIn F n P l.toArray C i K a) : wpOpIn F n P l.toArray Q' i K' a w := by
  unfold wpOpIn
  unfold qOpIn at hh
  cases ho : l.toArray[i]? with
  | none => rw [ho] at hh; exact h _ _ hw hh
  | some o =>
    rw [ho] at hh
    dsimp only at hh ⊢
    by_cases hwt : Region.wanted o (yielded l.toArray a.tmps) = true
    · rw [if_pos hwt] at hh ⊢
      exact opQ (noDefer_at hl ho) hw h hh.1 hh.2
    · rw [if_neg hwt] at hh ⊢
      exact ⟨hh.1 w hw, h _ _ hw hh.2⟩

theorem anyQ {F : Fence} {n : Nat} {P : Program} {C : World → Prop} {md : Region.Mode} {l : List Oper} (hl : noDefer l = true) {Q : Act → Prop} {Q' : Exit → Act → World → Prop} (hQ : ∀ a w, C w → Q a → Q' .normal a w) :
    ∀ (fuel : Nat) (listed : Array Bool) (a : Act) (w : World), C w → wpAnyQIn F n P md l.toArray C Q fuel listed a → wpAnyIn F n P md l.toArray Q' fuel listed a w := by
  intro fuel
  induction fuel with
  | zero => exact fun listed a w hw h => ⟨h.1, hQ _ _ hw h.2⟩
  | succ fuel ih =>
    intro listed a w hw h
    refine ⟨fun h0 => hQ _ _ hw (h.1 h0), fun i hi => opsQ hl hw (fun a' w' hw' hk => ih _ a' w' hw' hk) (h.2 i hi)⟩

theorem regionR {F : Fence} {n : Nat} {P : Program} {id : Nat} {Q : Exit → Act → World → Prop} {a : Act} {w : World} {l : List Oper} (hm : P.follows .mixedOrders = true) (hB : Region.lexB .any l.toArray = true) (hl : noDefer l = true)
    (h : wpQuietIn F n P l.toArray (fun w' => ∃ p : Regrown, w' = grow (redrawn w p.d) p.os) (fun a' => ∀ w', (∃ p : Regrown, w' = grow (redrawn w p.d) p.os) → Q .normal a' w') l a) : (Code.region id l.toArray true).wpIn F n P Q a w := by
  have hB2 := hB
  simp only [Region.lexB, Bool.and_eq_true] at hB2
  refine wpIn_region_any hm ?_
  have hC : (fun w' => ∃ p : Regrown, w' = grow (redrawn w p.d) p.os) { w with drawn := w.drawn + 1 } := ⟨⟨w.drawn + 1, #[]⟩, by rw [grow_empty]; rfl⟩
  refine anyQ (C := fun w' => ∃ p : Regrown, w' = grow (redrawn w p.d) p.os) hl (Q := fun a' => ∀ w', (∃ p : Regrown, w' = grow (redrawn w p.d) p.os) → Q .normal a' w') (fun _ w' hw' hh => hh w' hw') _ _ _ _ hC ?_
  have hx := wpAnyQIn_lex (F := F) (n := n) (P := P) (C := fun w' => ∃ p : Regrown, w' = grow (redrawn w p.d) p.os) (md := .any) hB2.1 l 0 (Array.replicate l.toArray.size false) a (by simp) (by simpa using hB2.2) h
  simpa using hx
end Go.Proofs.YtdaccpffdnbkiaaGreatDoor
