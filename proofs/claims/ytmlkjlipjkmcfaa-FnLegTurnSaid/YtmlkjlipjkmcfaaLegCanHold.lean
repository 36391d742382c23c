/-
  Whether seats can be held: the program's answer.
-/
import Derived.Test.YtmlkjlipjkmcfaaLegBid
import Derived.Test.YtmlkjlipjkmcfaaLegDropMath
namespace Go.Proofs.Ytmlkjlipjkmcfaa
open Go.RowKit
set_option linter.unusedVariables false
set_option linter.unusedSimpArgs false

def CanH (d : LegD) (t c s share : Int) : Prop := Hold1 t c s d.cap ∧ (s < 0 → -s ≤ d.S c.toNat - backB d c.toNat) ∧ (0 ≤ s → s ≤ roomN d (c.toNat + 1) ∧ bidB d ≤ share)
set_option maxRecDepth 100000 in
set_option maxHeartbeats 8000000 in
theorem canHoldI (d : LegD) (p : LegP) (t c s share : Int) (w : World) (hin : LegIn w d p) (ho : OkLeg d) (hc : d.nS ≤ p.cS) :
    Calls Try.prog 45 #[LegV d p, .agg #[.int .i64 t, .int .i64 c, .int .i64 s], .int .i64 share] w (OkPost (CanH d t c s share) (Below w.heap.size w)) := by
  have hbC : Below w.heap.size w ((w.alloc (.cells (LegC d p) 31)).alloc (.cells #[.int .i64 t, .int .i64 c, .int .i64 s] 35)) := ((Below.refl _ _).alloc (Nat.le_refl _) _).alloc (by simp) _
  have hX : LegBox ((w.alloc (.cells (LegC d p) 31)).alloc (.cells #[.int .i64 t, .int .i64 c, .int .i64 s] 35)) w.heap.size d p := (LegBox.new w d p).kept ((Below.refl _ _).alloc (Nat.le_refl _) _)
  have hQ : ((w.alloc (.cells (LegC d p) 31)).alloc (.cells #[.int .i64 t, .int .i64 c, .int .i64 s] 35)).heap[w.heap.size + 1]? = some (.cells #[.int .i64 t, .int .i64 c, .int .i64 s] 35 (0, 0)) := by
    have := heap_alloc_new (w.alloc (.cells (LegC d p) 31)) (.cells #[.int .i64 t, .int .i64 c, .int .i64 s] 35)
    rwa [World.size_alloc] at this
  have Hin := Lib.hid hin
  have HO := Lib.hid ho
  have D0 := Lib.hid hbC
  have X0 := Lib.hid hX
  have Q0 := Lib.hid hQ
  have hcap := ho.2.1.1
  obtain ⟨u0, u1, u2⟩ := row3 hQ
  have b0 := hX.c0
  have b1 := hX.c1
  have b2 := hX.c2
  have b3 := hX.c3
  have b4 := hX.c4
  have b5 := hX.c5
  have b6 := hX.c6
  have b7 := hX.c7
  have b8 := hX.c8
  have b9 := hX.c9
  rw [LegV_eq]
  generalize hLC : LegC d p = LC at *
  have hiff : Hid (CanH d t c s share ↔ (Hold1 t c s d.cap ∧ (s < 0 → -s ≤ d.S c.toNat - backB d c.toNat) ∧ (0 ≤ s → s ≤ roomN d (c.toNat + 1) ∧ bidB d ≤ share))) := Iff.rfl
  generalize CanH d t c s share = CH at *
  clear hbC hX hQ hin ho hLC
  go_enter Try.func45, Try.ntmps45
  go_wp2_with fail
  generalize ((w.alloc (.cells LC 31)).alloc (.cells #[.int .i64 t, .int .i64 c, .int .i64 s] 35)) = W0 at *
  refine (hold1I t c s d.cap W0 (by omega) (by omega)).mono ?_
  rintro e w1 ⟨v, rfl, hv, d1⟩
  have X1 := Lib.hid (X0.out.kept d1)
  have Q1 := Lib.hid ((d1.block _ (lt_heap Q0.out)).trans Q0.out)
  have D1 := Lib.hid (bt D0.out d1)
  clear b0 b1 b2 b3 b4 b5 b6 b7 b8 b9 u0 u1 u2 d1
  cases v with
  | false =>
    have hno : Hid (¬ CH) := fun h => by have := hv.out.2 (hiff.out.1 h).1; cases this
    clear hv
    go_wp2
    go_ret
    exact okPost_no rfl hno.out D1.out
  | true =>
  have h1 := hv.out.1 rfl
  have H1 := Lib.hid h1
  obtain ⟨m, rfl⟩ : ∃ m : Nat, c = m := ⟨c.toNat, by have := h1.2.1; omega⟩
  have hm3 : m < 3 := by have := h1.2.1; omega
  have hs9 : -9 ≤ s ∧ s ≤ 9 := by have := h1.2.2.1; omega
  clear hv h1
  obtain ⟨bS, oS, eS, hbS, hcS⟩ := Hin.out.2.1.cells (by have := HO.out.2.1.2.2.1; omega)
  have hV : LegV d p = .agg #[.string d.name, .string d.fr, .string d.to, .int .i64 d.dep, .int .i64 d.arr, .int .i64 d.cap, .slice p.aL d.nL p.cL, .slice (some ⟨bS, oS, none⟩) d.nS p.cS, .slice p.aB d.nB p.cB, .slice p.aH d.nH p.cH] := by unfold LegV; rw [eS]
  have Hin1 := Lib.hid (Hin.out.kept D1.out)
  have hnS := HO.out.2.1.2.2.1
  have rS := cell_regrown (cell_kept D1.out hbS (hcS m (by omega)))
  have mS : (m : Int) < d.nS := by omega
  have m0 : (0 : Int) ≤ m := by omega
  have HnS := Lib.hid hnS
  clear hnS
  have hSm := HO.out.2.1.sold.2 m hm3
  have hU := backB_box HO.out.held m
  have cK : ∀ dd os, Calls Try.prog 77 #[.agg #[.string d.name, .string d.fr, .string d.to, .int .i64 d.dep, .int .i64 d.arr, .int .i64 d.cap, .slice p.aL d.nL p.cL, .slice (some ⟨bS, oS, none⟩) d.nS p.cS, .slice p.aB d.nB p.cB, .slice p.aH d.nH p.cH], .int .i64 (m : Int)] (Go.Sort.grow (redrawn w1 dd) os) fun e w'' => e = .returned (.int .i64 (backB d m)) ∧ ∃ q : Regrown, w'' = Go.Sort.grow (redrawn w1 q.d) q.os := fun dd os => by
    have hh := backI d p m (Go.Sort.grow (redrawn w1 dd) os) (Hin1.out.kept (below_regrown _ dd os)) HO.out.held
    rw [hV] at hh
    exact Calls.regrown_of hh
  have cR : ∀ dd os, Calls Try.prog 68 #[.agg #[.string d.name, .string d.fr, .string d.to, .int .i64 d.dep, .int .i64 d.arr, .int .i64 d.cap, .slice p.aL d.nL p.cL, .slice (some ⟨bS, oS, none⟩) d.nS p.cS, .slice p.aB d.nB p.cB, .slice p.aH d.nH p.cH], .int .i64 (m : Int)] (Go.Sort.grow (redrawn w1 dd) os) fun e w'' => e = .returned (.int .i64 (roomN d (m + 1))) ∧ ∃ q : Regrown, w'' = Go.Sort.grow (redrawn w1 q.d) q.os := fun dd os => by
    have hh := roomI d p m hm3 (Go.Sort.grow (redrawn w1 dd) os) (Hin1.out.kept (below_regrown _ dd os)) HO.out.sized hc
    rw [hV] at hh
    exact Calls.regrown_of hh
  have cB : ∀ dd os, Calls Try.prog 72 #[.agg #[.string d.name, .string d.fr, .string d.to, .int .i64 d.dep, .int .i64 d.arr, .int .i64 d.cap, .slice p.aL d.nL p.cL, .slice (some ⟨bS, oS, none⟩) d.nS p.cS, .slice p.aB d.nB p.cB, .slice p.aH d.nH p.cH]] (Go.Sort.grow (redrawn w1 dd) os) fun e w'' => e = .returned (.int .i64 (bidB d)) ∧ ∃ q : Regrown, w'' = Go.Sort.grow (redrawn w1 q.d) q.os := fun dd os => by
    have hh := bidI d p (Go.Sort.grow (redrawn w1 dd) os) (Hin1.out.kept (below_regrown _ dd os)) HO.out hc
    rw [hV] at hh
    exact Calls.regrown_of hh
  have hif2 : Hid (CH ↔ (Hold1 t (m : Int) s d.cap ∧ (s < 0 → -s ≤ d.S m - backB d m) ∧ (0 ≤ s → s ≤ roomN d (m + 1) ∧ bidB d ≤ share))) := by
    have := hiff.out
    rwa [Int.toNat_natCast] at this
  clear hiff hcS hV
  generalize backB d m = U at *
  generalize roomN d (m + 1) = R at *
  generalize bidB d = B at *
  have X1' := X1.out
  obtain ⟨u0, u1, u2⟩ := row3 Q1.out
  have b0 := X1'.c0
  have b1 := X1'.c1
  have b2 := X1'.c2
  have b3 := X1'.c3
  have b4 := X1'.c4
  have b5 := X1'.c5
  have b6 := X1'.c6
  have b7 := X1'.c7
  have b8 := X1'.c8
  have b9 := X1'.c9
  rw [eS] at b7
  have r0 := cell_regrown b0
  have r1 := cell_regrown b1
  have r2 := cell_regrown b2
  have r3 := cell_regrown b3
  have r4 := cell_regrown b4
  have r5 := cell_regrown b5
  have r6 := cell_regrown b6
  have r7 := cell_regrown b7
  have r8 := cell_regrown b8
  have r9 := cell_regrown b9
  have ru0 := cell_regrown u0
  have ru1 := cell_regrown u1
  have ru2 := cell_regrown u2
  clear X1' eS
  rcases Int.lt_or_le s 0 with hs | hs
  · have zs : decide (s < 0) = true := decide_eq_true hs
    go_wp2_with fail
    clear b0 b1 b2 b3 b4 b5 b6 b7 b8 b9 u0 u1 u2 zs
    have wneg := IntWalk.i64_in (-s) (by omega)
    have wsub := IntWalk.i64_in (d.S m - U) (by omega)
    obtain ⟨n, hn⟩ : ∃ n, n = -s := ⟨_, rfl⟩
    obtain ⟨r, hr⟩ : ∃ r, r = d.S m - U := ⟨_, rfl⟩
    rw [← hn] at wneg
    rw [← hr] at wsub
    have wneg' : IntKind.i64.wrap (-s) = n := by rw [← hn]; exact wneg
    have wsub' : IntKind.i64.wrap (d.S m - U) = r := by rw [← hr]; exact wsub
    clear wneg wsub
    have Hn := Lib.hid hn
    have Hr := Lib.hid hr
    rcases Int.lt_or_le r n with h2 | h2
    · have z2 : decide (n ≤ r) = false := decide_eq_false (by omega)
      have hno : Hid (¬ CH) := fun h => by have q := (hif2.out.1 h).2.1 hs; have q1 := Hn.out; have q2 := Hr.out; omega
      clear hn hr h2 hs
      refine regionB (by kernel_rfl) (by kernel_rfl) ?_
      repeat (refine QW.step (fun K hK => ?_); go_simp; first | (refine hK.out _ ?_; clear hK K) | (apply Exists.intro; refine And.intro (fun _ => ?_) (hK.out _ ?_); first | (go_at_call 77; exact cK _ _); clear hK K))
      refine QW.nil ?_
      intro _ hw'
      obtain ⟨⟨dq, osq⟩, hw''⟩ := hw'
      subst hw''
      have hb6 := bt D1.out (below_regrown _ dq osq)
      clear r0 r1 r2 r3 r4 r5 r6 r7 r8 r9 ru0 ru1 ru2 rS
      generalize Go.Sort.grow (redrawn w1 dq) osq = W6 at *
      go_wp2
      go_ret
      exact okPost_no rfl hno.out hb6
    · have z2 : decide (n ≤ r) = true := decide_eq_true h2
      have hyes : Hid CH := hif2.out.2 ⟨H1.out, fun _ => by omega, fun q => by omega⟩
      clear hn hr h2 hs
      refine regionB (by kernel_rfl) (by kernel_rfl) ?_
      repeat (refine QW.step (fun K hK => ?_); go_simp; first | (refine hK.out _ ?_; clear hK K) | (apply Exists.intro; refine And.intro (fun _ => ?_) (hK.out _ ?_); first | (go_at_call 77; exact cK _ _); clear hK K))
      refine QW.nil ?_
      intro _ hw'
      obtain ⟨⟨dq, osq⟩, hw''⟩ := hw'
      subst hw''
      have hb6 := bt D1.out (below_regrown _ dq osq)
      clear r0 r1 r2 r3 r4 r5 r6 r7 r8 r9 ru0 ru1 ru2 rS
      generalize Go.Sort.grow (redrawn w1 dq) osq = W6 at *
      go_wp2
      go_ret
      exact okPost_yes rfl hyes.out hb6
  · have zs : decide (s < 0) = false := decide_eq_false (by omega)
    go_wp2_with fail
    clear b0 b1 b2 b3 b4 b5 b6 b7 b8 b9 u0 u1 u2 zs
    rcases Int.lt_or_le R s with h2 | h2
    · have z2 : decide (s ≤ R) = false := decide_eq_false (by omega)
      have hno : Hid (¬ CH) := fun h => by have q := ((hif2.out.1 h).2.2 hs).1; omega
      clear h2 hs
      refine regionB (by kernel_rfl) (by kernel_rfl) ?_
      repeat (refine QW.step (fun K hK => ?_); go_simp; first | (refine hK.out _ ?_; clear hK K) | (apply Exists.intro; refine And.intro (fun _ => ?_) (hK.out _ ?_); first | (go_at_call 68; exact cR _ _) | (go_at_call 72; exact cB _ _); clear hK K))
      refine QW.nil ?_
      intro _ hw'
      obtain ⟨⟨dq, osq⟩, hw''⟩ := hw'
      subst hw''
      have hb6 := bt D1.out (below_regrown _ dq osq)
      clear r0 r1 r2 r3 r4 r5 r6 r7 r8 r9 ru0 ru1 ru2 rS
      generalize Go.Sort.grow (redrawn w1 dq) osq = W6 at *
      go_wp2
      go_ret
      exact okPost_no rfl hno.out hb6
    · have z2 : decide (s ≤ R) = true := decide_eq_true h2
      rcases Int.lt_or_le share B with h3 | h3
      · have z3 : decide (B ≤ share) = false := decide_eq_false (by omega)
        have hno : Hid (¬ CH) := fun h => by have q := ((hif2.out.1 h).2.2 hs).2; omega
        clear h2 hs h3
        refine regionB (by kernel_rfl) (by kernel_rfl) ?_
        repeat (refine QW.step (fun K hK => ?_); go_simp; first | (refine hK.out _ ?_; clear hK K) | (apply Exists.intro; refine And.intro (fun _ => ?_) (hK.out _ ?_); first | (go_at_call 68; exact cR _ _) | (go_at_call 72; exact cB _ _); clear hK K))
        refine QW.nil ?_
        intro _ hw'
        obtain ⟨⟨dq, osq⟩, hw''⟩ := hw'
        subst hw''
        have hb6 := bt D1.out (below_regrown _ dq osq)
        clear r0 r1 r2 r3 r4 r5 r6 r7 r8 r9 ru0 ru1 ru2 rS
        generalize Go.Sort.grow (redrawn w1 dq) osq = W6 at *
        go_wp2
        go_ret
        exact okPost_no rfl hno.out hb6
      · have z3 : decide (B ≤ share) = true := decide_eq_true h3
        have hyes : Hid CH := hif2.out.2 ⟨H1.out, fun q => by omega, fun _ => ⟨h2, h3⟩⟩
        clear h2 hs h3
        refine regionB (by kernel_rfl) (by kernel_rfl) ?_
        repeat (refine QW.step (fun K hK => ?_); go_simp; first | (refine hK.out _ ?_; clear hK K) | (apply Exists.intro; refine And.intro (fun _ => ?_) (hK.out _ ?_); first | (go_at_call 68; exact cR _ _) | (go_at_call 72; exact cB _ _); clear hK K))
        refine QW.nil ?_
        intro _ hw'
        obtain ⟨⟨dq, osq⟩, hw''⟩ := hw'
        subst hw''
        have hb6 := bt D1.out (below_regrown _ dq osq)
        clear r0 r1 r2 r3 r4 r5 r6 r7 r8 r9 ru0 ru1 ru2 rS
        generalize Go.Sort.grow (redrawn w1 dq) osq = W6 at *
        go_wp2
        go_ret
        exact okPost_yes rfl hyes.out hb6
end Go.Proofs.Ytmlkjlipjkmcfaa
