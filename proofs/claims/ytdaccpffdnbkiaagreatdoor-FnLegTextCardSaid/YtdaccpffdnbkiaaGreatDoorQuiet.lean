/-
  A region that draws its order, walked once in the order of the text, each callee leaving what was there as it was; the walk is kept shut between its steps.
-/
import Derived.Lib.QuietBelow
import Derived.WalkKit
import Derived.Lib.Hide
namespace Go.Proofs.YtdaccpffdnbkiaaGreatDoor
open Go.RowKit Go.Sort
set_option linter.unusedVariables false

structure QW (P : Program) (ops : Array Oper) (w : World) (Q : Act → Prop) (l : List Oper) (a : Act) : Prop where
  out : wpQuiet P ops (fun w' => ∃ p : Regrown, w' = grow (redrawn w p.d) p.os) Q l a
theorem QW.nil {P : Program} {ops : Array Oper} {w : World} {Q : Act → Prop} {a : Act} (h : Q a) : QW P ops w Q [] a := ⟨wpQuiet_nil h⟩
theorem QW.step {P : Program} {ops : Array Oper} {w : World} {Q : Act → Prop} {a : Act} {o : Oper} {rest : List Oper}
    (h : ∀ K : Act → Prop, Hid (∀ a, QW P ops w Q rest a → K a) → if Region.wanted o (yielded ops a.tmps) then o.quiet P a (fun w' => ∃ p : Regrown, w' = grow (redrawn w p.d) p.os) K else K (a.put o.dst undef)) : QW P ops w Q (o :: rest) a :=
  ⟨wpQuiet_step (fun K hK => h K (fun a ha => hK a ha.out))⟩
theorem regionB {P : Program} {id : Nat} {Q : Exit → Act → World → Prop} {a : Act} {w : World} {l : List Oper} (hm : P.follows .mixedOrders = true) (hB : Region.lexB .any l.toArray = true)
    (h : QW P l.toArray w (fun a' => ∀ w', (∃ p : Regrown, w' = grow (redrawn w p.d) p.os) → Q .normal a' w') l a) : (Code.region id l.toArray true).wp P Q a w :=
  wp_region_quiet_below hm hB h.out
end Go.Proofs.YtdaccpffdnbkiaaGreatDoor
