/-
  The program's reader of a trip's words.
-/
import Derived.Test.YtlfmhhdlandcjaaDoorReadRun
namespace Go.Proofs.YtlfmhhdlandcjaaDoor
open Go.RowKit
set_option linter.unusedVariables false
set_option linter.unusedSimpArgs false

def rdWord (l : List UInt8) : Option (ByteArray × List UInt8) := some (⟨(runOf letS l).toArray⟩, offOf letS l)
def WordPost (b : Nat) (s : ByteArray) (p : Nat) (w : World) (e : Ending) (w' : World) : Prop :=
  w.grownBy w' (some b) ∧ ((Hid (rdWord (restB s p) = none) ∧ e = Fell) ∨ ∃ (u : ByteArray) (q : Nat), p ≤ q ∧ u.size ≤ s.size ∧ Hid (rdWord (restB s p) = some (u, restB s q)) ∧ e = .returned (.string u) ∧ RdS w' b s q)
theorem infoStrR : (Tryd.prog.info? 9).map (fun i => (i.zero, i.size, i.bytes)) = some (some (.string ⟨#[]⟩), 1, 16) := by kernel_rfl
set_option maxHeartbeats 1000000 in
theorem nameC (b : Nat) (s : ByteArray) (p : Nat) (w : World) (h : RdS w b s p) (hs : s.size ≤ 1048576) :
    Calls Tryd.prog 57 #[.pointer (some ⟨b, 0, none⟩)] w (WordPost b s p w) := by
  have K := Lib.hid (runC letBs b s p w h hs (by decide) (by decide))
  clear h
  unfold letBs at K
  go_enter Tryd.func57, Tryd.ntmps57
  go_wp2_with fail
  refine K.out.mono ?_
  rintro e w1 ⟨u, q, hq, rfl, hul, hu, hr, hR, hg⟩
  have HU : Hid (u.data.toList = runOf letS (restB s p)) := hu
  have HQ : Hid (restB s q = offOf letS (restB s p)) := hr
  have HG := Lib.hid hg
  have HR := Lib.hid hR
  clear hu hr hg hR K
  go_wp2
  go_ret
  refine ⟨HG.out, Or.inr ⟨u, q, hq, hul, Lib.hid ?_, rfl, HR.out⟩⟩
  unfold rdWord
  rw [HQ.out, ← HU.out]
end Go.Proofs.YtlfmhhdlandcjaaDoor
