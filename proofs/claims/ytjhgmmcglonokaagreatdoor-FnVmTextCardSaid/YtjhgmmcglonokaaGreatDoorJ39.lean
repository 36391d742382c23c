/-
  VmRead of both, said once: what a text says, and the program in memory.
  The law FnExactVmRead's own walk.
-/
import Derived.Test.YtjhgmmcglonokaaGreatDoorVmReadS
import Derived.Test.YtjhgmmcglonokaaGreatDoorOrNoneV
import Derived.Test.YtjhgmmcglonokaaGreatDoorJ33
import Derived.Test.YtjhgmmcglonokaaGreatDoorJ27
import Derived.Test.YtjhgmmcglonokaaGreatDoorJ15
namespace Go.Proofs.YtjhgmmcglonokaaGreatDoor
open Go.RowKit
set_option linter.unusedVariables false
set_option linter.unusedSimpArgs false

/-- What a text says. -/
def SaysV (s : ByteArray) (ds : List Pl) (bo : Bool) : Prop := (bo = true ∧ OkV ds ∧ textVB ds = s) ∨ (bo = false ∧ ds = [] ∧ ¬ IsVmT s)
theorem says_uniq {s : ByteArray} {ds es : List Pl} {b c : Bool} (h : SaysV s ds b) (k : SaysV s es c) : ds = es ∧ b = c := by
  rcases h with ⟨rfl, h1, h2⟩ | ⟨rfl, rfl, h1⟩
  · rcases k with ⟨rfl, k1, k2⟩ | ⟨rfl, rfl, k1⟩
    · exact ⟨vm_uniq h1 k1 (h2.trans k2.symm), rfl⟩
    · exact absurd ⟨ds, h1, h2⟩ k1
  · rcases k with ⟨rfl, k1, k2⟩ | ⟨rfl, rfl, k1⟩
    · exact absurd ⟨es, k1, k2⟩ h1
    · exact ⟨rfl, rfl⟩
theorem smV_few {d : Pl} (h : SmV d) : d.nm.size ≤ 8 ∧ d.ms.length ≤ 5 := by
  obtain ⟨h1, h2, h3, h4, h5⟩ := h
  refine ⟨h3, ?_⟩
  by_cases e : d.op = 10
  · exact (h4 e).2.1
  · have := h5 e; omega
theorem says_small {s : ByteArray} {ds : List Pl} {b : Bool} (h : SaysV s ds b) : ds.length ≤ 80 ∧ ∀ d ∈ ds, d.nm.size ≤ 8 ∧ d.ms.length ≤ 5 := by
  rcases h with ⟨rfl, h1, h2⟩ | ⟨rfl, rfl, h1⟩
  · exact ⟨h1.1.2, fun d hd => smV_few (okV_sm h1 d hd)⟩
  · exact ⟨by simp, by simp⟩
def ReadJP (s : ByteArray) (w : World) (e : Ending) (w' : World) : Prop := ∃ (ds : List Pl) (bo : Bool) (a : Option Addr) (c : Nat), Hid (SaysV s ds bo) ∧ e = .returned (.tuple #[.slice a ds.length c, .bool bo]) ∧ PlsN All w' a ds.length ds ∧ Below w.heap.size w w'
theorem specReadJ (s : ByteArray) (w : World) (hs : s.size ≤ 1048576) : Calls Tryz.prog 7 #[.string s] w (ReadJP s w) :=
  (specVmRead s w hs).mono fun e w' h => by
    obtain ⟨hb, ⟨hn, a, c, rfl⟩ | ⟨ds, a, c, hy, rfl, hc⟩⟩ := h
    · exact ⟨[], false, a, c, Lib.hid (Or.inr ⟨rfl, rfl, hn.out⟩), rfl, ⟨rfl, Or.inl rfl⟩, hb⟩
    · exact ⟨ds, true, a, c, Lib.hid (Or.inl ⟨rfl, hy.out.1, hy.out.2⟩), rfl, codeO_pls hc rfl, hb⟩
def ReadIP (ds : List Pl) (bo : Bool) (w : World) (e : Ending) (w' : World) : Prop := ∃ (a : Option Addr) (c : Nat), e = .returned (.tuple #[.slice a ds.length c, .bool bo]) ∧ CodeO w.heap.size w' (.slice a ds.length c) ds ∧ Below w.heap.size w w'
theorem implReadJ (s : ByteArray) (w : World) (hs : s.size ≤ 1048576) (hL : LaidE w) {ds : List Pl} {bo : Bool} (h : SaysV s ds bo) : Calls Tryz.prog 8 #[.string s] w (ReadIP ds bo w) :=
  (implVmRead s w hs hL).mono fun e w' k => by
    obtain ⟨hb, ⟨hn, rfl⟩ | ⟨es, a, c, hy, rfl, hc⟩⟩ := k
    · obtain ⟨rfl, rfl⟩ := says_uniq h (Or.inr ⟨rfl, rfl, hn.out⟩)
      exact ⟨none, 0, rfl, CodeO.nil _ _, hb⟩
    · obtain ⟨rfl, rfl⟩ := says_uniq h (Or.inl ⟨rfl, hy.out.1, hy.out.2⟩)
      exact ⟨a, c, rfl, hc, hb⟩
end Go.Proofs.YtjhgmmcglonokaaGreatDoor

namespace Go.Proofs.YtjhgmmcglonokaaGreatDoor
open Go.RowKit
set_option linter.unusedVariables false
set_option linter.unusedSimpArgs false

set_option maxRecDepth 20000 in
set_option maxHeartbeats 16000000 in
theorem exactVmRead (s : ByteArray) (w : World) (w0 : s.size ≤ maxLen) (hL : LaidE w) :
    Calls Tryz.prog 3 #[.string s] w fun e w' => e = .returned (.bool true) ∧ Below w.heap.size w w' := by
  unfold maxLen at w0
  rcases Nat.lt_or_ge 1048576 s.size with hbig | hs
  · have z1 : decide ((1048576 : Int) < (s.size : Int)) = true := decide_eq_true (by omega)
    have i1 : (1048576 : Int) < (s.size : Int) := by omega
    go_enter Tryz.func3, Tryz.ntmps3
    go_wp2
    go_ret
    exact ⟨rfl, Below.refl _ _⟩
  have z1 : decide ((1048576 : Int) < (s.size : Int)) = false := decide_eq_false (by omega)
  have i1 : ¬ (1048576 : Int) < (s.size : Int) := by omega
  have HL := Lib.hid hL
  have K := Lib.hid (specReadJ s w hs)
  clear hL
  go_enter Tryz.func3, Tryz.ntmps3
  go_wp2_with fail
  refine K.out.mono ?_
  rintro e w3 ⟨ds, bo, a3, c3, hsay, rfl, hp3, d3⟩
  have HSAY : Hid (SaysV s ds bo) := hsay
  have CS := Lib.hid (says_small hsay.out)
  have hcn : cntL ds ≤ 1040 := by have := cnt_small (fun d hd => (CS.out.2 d hd).2); have := CS.out.1; omega
  have hln : ds.length ≤ 80 := CS.out.1
  have SM : Hid (∀ d ∈ ds, SmallP d) := fun d hd => by have := CS.out.2 d hd; show _ ∧ _; omega
  have SM5 : Hid (∀ d ∈ ds, d.ms.length ≤ 1048576) := fun d hd => by have := (CS.out.2 d hd).2; omega
  have B3 := Lib.hid d3
  have G3 := Lib.hid hp3.lt
  have zb : (bo != bo) = false := by cases bo <;> rfl
  have BX : Hid (∀ W, Below w3.heap.size w3 W → Below w.heap.size w W) := fun W hW => B3.out.trans (hW.mono B3.out.size)
  have GX : Hid (∀ W, Below w3.heap.size w3 W → PlsN All W a3 ds.length ds) := fun W hW => (G3.out.kept (same_lt hW (Nat.le_refl _))).mono (fun _ _ => trivial)
  have K1 := Lib.hid (implReadJ s w3 hs (laidE_stays HL.out B3.out) HSAY.out)
  clear hsay hp3 d3 CS K
  go_wp2_with fail
  refine K1.out.mono ?_
  rintro e w6 ⟨a6, c6, rfl, hC6, d6⟩
  have C6 := Lib.hid d6
  have O6 := Lib.hid hC6
  clear hC6 d6 K1
  have hE6 := Lib.hid (eqPls a6 a3 ds.length c6 c3 ds w6 (codeO_pls O6.out rfl) (GX.out w6 C6.out) SM.out (by omega))
  go_wp2_with fail
  refine hE6.out.mono ?_
  rintro e wB ⟨rfl, dB⟩
  have CB := Lib.hid (C6.out.trans (dB.mono C6.out.size))
  have OB := Lib.hid (O6.out.below dB)
  clear dB hE6
  have hMI := Lib.hid (markIns w3.heap.size a6 ds.length c6 1 ds wB OB.out rfl (by omega) (by omega) (by omega) SM5.out)
  rw [show ((1 : Nat) : Int) = 1 from rfl] at hMI
  go_wp2_with fail
  refine hMI.out.mono ?_
  rintro e wC ⟨rfl, oC, dC⟩
  have CC := Lib.hid (CB.out.trans dC)
  have OC := Lib.hid oC
  clear oC dC hMI
  have hPL : Hid (∀ W, Below wC.heap.size wC W → Calls Tryz.prog 11 #[.slice a6 ds.length c6, .int .i64 1] W fun e w' => e = .returned (.int .i64 ((1 + cntL ds : Nat) : Int)) ∧ Below W.heap.size W w') := fun W hW => heldIns a6 ds.length c6 1 ds W (codeO_pls (OC.out.below hW) (by rw [mkPls_len])) (by omega) (by omega) (by omega) SM5.out
  have hq0 : decide ((((1 + cntL ds : Nat)) : Int) < 0) = false := decide_eq_false (by omega)
  generalize (((1 + cntL ds : Nat)) : Int) = Q at *
  go_wp2_with fail
  refine (hPL.out wC (Below.refl _ _)).mono ?_
  rintro e wD ⟨rfl, dD⟩
  have CD := Lib.hid (CC.out.trans (dD.mono CC.out.size))
  have ED := Lib.hid dD
  clear dD
  have K2 := Lib.hid (implReadJ s wD hs (laidE_stays HL.out (BX.out _ CD.out)) HSAY.out)
  go_wp2_with fail
  refine K2.out.mono ?_
  rintro e wF ⟨aF, cF, rfl, hCF, dF⟩
  have CF := Lib.hid (CD.out.trans (dF.mono CD.out.size))
  have EF := Lib.hid (ED.out.trans (dF.mono ED.out.size))
  have OF := Lib.hid hCF
  clear hCF dF K2
  have hEF := Lib.hid (eqPls aF a3 ds.length cF c3 ds wF (codeO_pls OF.out rfl) (GX.out wF CF.out) SM.out (by omega))
  go_wp2_with fail
  refine hEF.out.mono ?_
  rintro e wG ⟨rfl, dG⟩
  have CG := Lib.hid (CF.out.trans (dG.mono CF.out.size))
  have EG := Lib.hid (EF.out.trans (dG.mono EF.out.size))
  clear dG hEF
  go_wp2_with fail
  refine (hPL.out wG EG.out).mono ?_
  rintro e wH ⟨rfl, dH⟩
  have BH := BX.out _ (CG.out.trans (dH.mono CG.out.size))
  clear dH
  go_wp2
  go_ret
  exact ⟨rfl, BH⟩
end Go.Proofs.YtjhgmmcglonokaaGreatDoor
