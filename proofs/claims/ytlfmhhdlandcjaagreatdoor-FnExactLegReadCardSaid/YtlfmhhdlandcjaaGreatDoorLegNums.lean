/-
  The program's reader of a leg's numbers.
-/
import Derived.Test.YtlfmhhdlandcjaaGreatDoorReadListI
namespace Go.Proofs.YtlfmhhdlandcjaaGreatDoor
open Go.RowKit
set_option linter.unusedVariables false
set_option linter.unusedSimpArgs false

theorem makeF (fn : Fn) (first cap : Array Value) (w : World) : (Instr.makeFunc fn first cap).run Tryz.prog w = .ok (.func fn first cap) w := rfl
theorem own_mono {w : World} {base base' size n : Nat} {e : TypeId} {v : Value} {xs : List Value} (h : w.ownsRow base e size v n xs) (hb : base' ≤ base) : w.ownsRow base' e size v n xs :=
  ⟨h.1, h.2.imp id fun ⟨g, cap, cur, hv, hB, r⟩ => ⟨g, cap, cur, hv, Nat.le_trans hb hB, r⟩⟩
theorem grown_of_below {w w' : World} (h : Below w.heap.size w w') : w.grownBy w' none := ⟨h.os, h.tape, h.output, h.size, fun i hi _ => h.block i hi⟩
theorem listI_mono {b : Nat} {s : ByteArray} {p : Nat} {w ww : World} {e : Ending} {w' : World} (hI : Below w.heap.size w ww) (h : ListPostI b s p ww e w') : ListPostI b s p w e w' := by
  obtain ⟨hg, h⟩ := h
  refine ⟨⟨hg.os.trans hI.os, hg.tape.trans hI.tape, hg.output.trans hI.output, Nat.le_trans hI.size hg.size, fun i hi hn => (hg.block i (Nat.lt_of_lt_of_le hi hI.size) hn).trans (hI.block i hi)⟩, ?_⟩
  rcases h with h | ⟨l, q, g, cap, h1, h2, h3, h4, h5, h6, h7, h8, h9, h10⟩
  · exact Or.inl h
  · exact Or.inr ⟨l, q, g, cap, h1, h2, h3, h4, h5, h6, h7, own_mono h8 hI.size, h9, h10⟩
set_option maxRecDepth 100000 in
set_option maxHeartbeats 8000000 in
theorem numbersLC (w0 : World) (b : Nat) (s : ByteArray) (p : Nat) (w : World) (h : RdS w b s p) (hs : s.size ≤ 1048576) (hL : LaidE w0) (hB : Below w0.heap.size w0 w) (hb : w0.heap.size ≤ b) :
    Calls Tryz.prog 49 #[.pointer (some ⟨b, 0, none⟩)] w (ListPostI b s p w) := by
  have K := Lib.hid (show ∀ W, Below w.heap.size w W → Calls Tryz.prog 74 #[.pointer (some ⟨b, 0, none⟩), .int .u8 44, .func (.func 73) #[.pointer (some ⟨b, 0, none⟩)] #[]] W (ListPostI b s p w) from
    fun W hW => (listIC w0 b s p W (h.kept hW) hs (hB.trans (hW.mono hB.size)) hb (fun q W2 h1 h2 => (numberC w0 b s q W2 h1 hs hL h2 hb).mono fun e w' hh => numPostX hh)).mono fun e w' hh => listI_mono hW hh)
  have hmf := makeF
  clear h hL hB
  go_enter Tryz.func49, Tryz.ntmps49
  go_wp2_with fail
  go_region_with (go_at_call 74; refine (K.out _ (Below.refl _ _).drew).mono ?_; rintro e w1 ⟨hg, ⟨hn, he⟩ | hok⟩; (· (unfold Fell at he; subst he; have HG := Lib.hid hg; have HN := Lib.hid hn; clear hg hn K; go_wp2; exact ⟨rfl, HG.out, Or.inl ⟨HN.out, rfl⟩⟩)); obtain ⟨l, q, g, cap, h1, h2, h3, h4, h5, h6, rfl, h8, h9, h10⟩ := hok; have HP : Hid (ListPostI b s p w (.returned (.slice (some ⟨g, 0, none⟩) l.length cap)) w1) := ⟨hg, Or.inr ⟨l, q, g, cap, h1, h2, h3, h4, h5, h6, rfl, h8, h9, h10⟩⟩; clear hg h1 h2 h3 h4 h5 h6 h8 h9 h10 K)
  all_goals
    go_wp2
    go_ret
    exact HP.out
end Go.Proofs.YtlfmhhdlandcjaaGreatDoor
