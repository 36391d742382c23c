/-
  A copy of a list of texts, in new memory.
-/
import Derived.Test.YtlfmhhdlandcjaaDoorStrs
import Derived.OwnWalk
namespace Go.Proofs.YtlfmhhdlandcjaaDoor
open Go.RowKit
set_option linter.unusedVariables false

theorem infoStr : (Tryd.prog.info? 9).map (fun i => (i.zero, i.size, i.bytes)) = some (some (.string ⟨#[]⟩), 1, 16) := by kernel_rfl

def CopyPost (ss : List ByteArray) (w : World) (e : Ending) (w' : World) : Prop :=
  ∃ g : Nat, w.heap.size ≤ g ∧ e = .returned (.slice (some ⟨g, 0, none⟩) ss.length ss.length) ∧ Strs w' (some ⟨g, 0, none⟩) ss.length ss ∧ Below w.heap.size w w'

end Go.Proofs.YtlfmhhdlandcjaaDoor
