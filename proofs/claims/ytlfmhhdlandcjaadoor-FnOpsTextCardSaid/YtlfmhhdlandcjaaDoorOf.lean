/-
  One of a list of texts, picked by the reader.
-/
import Derived.Test.YtlfmhhdlandcjaaDoorRd
namespace Go.Proofs.YtlfmhhdlandcjaaDoor
open Go.RowKit
set_option linter.unusedVariables false

def PickedOf (B b p n : Nat) (ss : Nat → ByteArray) (w : World) (e : Ending) (w' : World) : Prop :=
  ∃ i : Nat, i < n ∧ e = .returned (.string (ss i)) ∧ Rd B w' b (p + 1) ∧ w.grownBy w' (some b) ∧ w'.heap.size = w.heap.size

set_option maxHeartbeats 400000 in
theorem pickOf (B b p n lb cap : Nat) (ss : Nat → ByteArray) (w : World) (hr : Rd B w b p) (hp : p ≤ 1000000000) (n1 : 1 ≤ n) (n2 : n ≤ 1000000) (hc : ∀ i, i < n → w.cell? ⟨lb, i, none⟩ = some (.string (ss i))) (hb : lb ≠ b) :
    Calls Tryd.prog 29 #[.pointer (some ⟨b, 0, none⟩), .slice (some ⟨lb, 0, none⟩) n cap] w (PickedOf B b p n ss w) := by
  have Hc := Lib.hid hc
  clear hc
  go_enter Tryd.func29, Tryd.ntmps29
  go_wp2_with fail
  refine (pick B b p n _ hr hp (by omega) (by omega)).mono ?_
  rintro e w' ⟨x, x0, x1, rfl, hr', hg, hz⟩
  obtain ⟨i, rfl⟩ := Int.eq_ofNat_of_zero_le x0
  have hi : i < n := by omega
  have c1 : w'.cell? ⟨lb, i, none⟩ = some (.string (ss i)) := hg.cell (Hc.out i hi) (by simpa using hb)
  go_wp2
  go_ret
  exact ⟨i, hi, rfl, hr', hg, hz⟩

theorem lits_at {w : World} {cs : Array Value} (T : TypeId) (lb : Nat) (hb : lb = w.heap.size) (ss : List ByteArray) (hc : cs = (ss.map Value.string).toArray) (i : Nat) (hi : i < ss.length) :
    (w.alloc (.cells cs T)).cell? ⟨lb, i, none⟩ = some (.string (ss.getD i ByteArray.empty)) := by
  subst hb hc
  have : (w.alloc (.cells (ss.map Value.string).toArray T)).heap[w.heap.size]? = some (.cells (ss.map Value.string).toArray T) := (MapKept.heap_alloc w _).1
  unfold World.cell?
  rw [this]
  simp [hi]
end Go.Proofs.YtlfmhhdlandcjaaDoor
