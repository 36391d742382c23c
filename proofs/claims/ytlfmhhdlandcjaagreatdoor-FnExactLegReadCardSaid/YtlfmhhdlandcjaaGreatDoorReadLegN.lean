/-
  The program's reader of a leg's words and times.
-/
import Derived.Test.YtlfmhhdlandcjaaGreatDoorReadRunL
namespace Go.Proofs.YtlfmhhdlandcjaaGreatDoor
open Go.RowKit
set_option linter.unusedVariables false
set_option linter.unusedSimpArgs false

def rdWordS (l : List UInt8) : Option (ByteArray × List UInt8) := (rdNext 32 (offOf letS l)).bind fun r => some (⟨(runOf letS l).toArray⟩, r)
def rdNumS (l : List UInt8) : Option (Int × List UInt8) := (rdNum l).bind fun n => (rdNext 32 n.2).bind fun r => some (n.1, r)
def WordSPost (b : Nat) (s : ByteArray) (p : Nat) (w : World) (e : Ending) (w' : World) : Prop :=
  w.grownBy w' (some b) ∧ ((Hid (rdWordS (restB s p) = none) ∧ e = Fell) ∨ ∃ (u : ByteArray) (q : Nat), p ≤ q ∧ u.size ≤ s.size ∧ Hid (rdWordS (restB s p) = some (u, restB s q)) ∧ e = .returned (.string u) ∧ RdS w' b s q)
def NumSPost (b : Nat) (s : ByteArray) (p : Nat) (w : World) (e : Ending) (w' : World) : Prop :=
  w.grownBy w' (some b) ∧ ((Hid (rdNumS (restB s p) = none) ∧ e = Fell) ∨ ∃ (v : Int) (q : Nat), p ≤ q ∧ Hid (rdNumS (restB s p) = some (v, restB s q)) ∧ e = .returned (.int .i64 v) ∧ RdS w' b s q)
def NumPostX (b : Nat) (s : ByteArray) (p : Nat) (w : World) (e : Ending) (w' : World) : Prop :=
  w.grownBy w' (some b) ∧ ((Hid (rdNum (restB s p) = none) ∧ e = Fell) ∨ ∃ (v : Int) (q : Nat), p ≤ q ∧ True ∧ Hid (rdNum (restB s p) = some (v, restB s q)) ∧ e = .returned (.int .i64 v) ∧ RdS w' b s q)
theorem numPostX {b : Nat} {s : ByteArray} {p : Nat} {w : World} {e : Ending} {w' : World} (h : RdNumPost b s p w e w') : NumPostX b s p w e w' := by
  obtain ⟨h1, h | ⟨v, q, h2, h3, h4, h5⟩⟩ := h
  · exact ⟨h1, Or.inl h⟩
  · exact ⟨h1, Or.inr ⟨v, q, h2, trivial, h3, h4, h5⟩⟩
theorem infoIntR : (Tryz.prog.info? 3).map (fun i => (i.zero, i.size, i.bytes)) = some (some (.int .i64 0), 1, 8) := by kernel_rfl
set_option maxHeartbeats 1000000 in
theorem nameLC (b : Nat) (s : ByteArray) (p : Nat) (w : World) (h : RdS w b s p) (hs : s.size ≤ 1048576) :
    Calls Tryz.prog 47 #[.pointer (some ⟨b, 0, none⟩)] w (WordSPost b s p w) := by
  have K := Lib.hid (runC letBs b s p w h hs (by decide) (by decide))
  clear h
  unfold letBs at K
  go_enter Tryz.func47, Tryz.ntmps47
  go_wp2_with fail
  refine K.out.mono ?_
  rintro e w1 ⟨u, q, hq, rfl, hul, hu, hr, hR, hg⟩
  have HU : Hid (u.data.toList = runOf letS (restB s p)) := hu
  have HQ : Hid (restB s q = offOf letS (restB s p)) := hr
  have HG := Lib.hid hg
  have N := Lib.hid (needC 32 32 rfl b s q w1 hR hs)
  clear hu hr hg hR K
  go_wp2_with fail
  refine N.out.mono ?_
  rintro e w2 ⟨hg2, ⟨hn2, he⟩ | ⟨hn2, rfl, hr2⟩⟩
  · unfold Fell at he
    subst he
    have HGf := Lib.hid (grown_trans HG.out hg2)
    have HN := Lib.hid hn2
    clear hg2 hn2 N
    go_wp2
    refine ⟨rfl, HGf.out, Or.inl ⟨Lib.hid ?_, rfl⟩⟩
    unfold rdWordS; rw [← HQ.out, HN.out]; rfl
  · have HGf := Lib.hid (grown_trans HG.out hg2)
    have HN := Lib.hid hn2
    have HR := Lib.hid hr2
    clear hg2 hn2 hr2 N
    go_wp2
    go_ret
    refine ⟨HGf.out, Or.inr ⟨u, q + 1, by omega, hul, Lib.hid ?_, rfl, HR.out⟩⟩
    unfold rdWordS
    rw [← HQ.out, HN.out, Option.bind_some, ← HU.out]
set_option maxHeartbeats 1000000 in
theorem timeLC (w0 : World) (b : Nat) (s : ByteArray) (p : Nat) (w : World) (h : RdS w b s p) (hs : s.size ≤ 1048576) (hL : LaidE w0) (hB : Below w0.heap.size w0 w) (hb : w0.heap.size ≤ b) :
    Calls Tryz.prog 48 #[.pointer (some ⟨b, 0, none⟩)] w (NumSPost b s p w) := by
  have K := Lib.hid (numberC w0 b s p w h hs hL hB hb)
  clear h hL hB
  go_enter Tryz.func48, Tryz.ntmps48
  go_wp2_with fail
  refine K.out.mono ?_
  rintro e w1 ⟨hg, ⟨hn, he⟩ | ⟨v, q, hq, hp, rfl, hR⟩⟩
  · unfold Fell at he
    subst he
    have HGf := Lib.hid hg
    have HN := Lib.hid hn.out
    clear hg hn K
    go_wp2
    refine ⟨rfl, HGf.out, Or.inl ⟨Lib.hid ?_, rfl⟩⟩
    unfold rdNumS; rw [HN.out]; rfl
  have HG := Lib.hid hg
  have HP := Lib.hid hp.out
  have N := Lib.hid (needC 32 32 rfl b s q w1 hR hs)
  clear hg hp hR K
  go_wp2_with fail
  refine N.out.mono ?_
  rintro e w2 ⟨hg2, ⟨hn2, he⟩ | ⟨hn2, rfl, hr2⟩⟩
  · unfold Fell at he
    subst he
    have HGf := Lib.hid (grown_trans HG.out hg2)
    have HN := Lib.hid hn2
    clear hg2 hn2 N
    go_wp2
    refine ⟨rfl, HGf.out, Or.inl ⟨Lib.hid ?_, rfl⟩⟩
    unfold rdNumS; rw [HP.out, Option.bind_some, HN.out]; rfl
  · have HGf := Lib.hid (grown_trans HG.out hg2)
    have HN := Lib.hid hn2
    have HR := Lib.hid hr2
    clear hg2 hn2 hr2 N
    go_wp2
    go_ret
    refine ⟨HGf.out, Or.inr ⟨v, q + 1, by omega, Lib.hid ?_, rfl, HR.out⟩⟩
    unfold rdNumS
    rw [HP.out, Option.bind_some, HN.out]; rfl
end Go.Proofs.YtlfmhhdlandcjaaGreatDoor
