/-
  How many seats of a class of a leg can be had, and what the next seat is worth: the program's answers and the model's.
-/
import Derived.Test.YtmlkjlipjkmcfaaLegOkI
namespace Go.Proofs.Ytmlkjlipjkmcfaa
open Go.RowKit Go.Shelf
set_option linter.unusedVariables false
set_option linter.unusedSimpArgs false
attribute [local go_sem] Oper.semAt_some

def roomN (d : LegD) : Nat → Int
  | 0 => d.cap
  | m + 1 => min (roomN d m) (leftB d m)
theorem leftB_box {d : LegD} (hL : LimOk d) (hS : SoldOk d) (hH : HeldOk d) (k : Nat) (hk : k < 3) : -100 ≤ leftB d k ∧ leftB d k ≤ 9 := by
  have h1 := usedB_box hS hH k hk
  have h2 := hL.2 k hk
  unfold leftB; omega
theorem roomN_box {d : LegD} (hL : LimOk d) (hS : SoldOk d) (hH : HeldOk d) (hc : 1 ≤ d.cap ∧ d.cap ≤ 9) : ∀ (m : Nat), m ≤ 3 → -100 ≤ roomN d m ∧ roomN d m ≤ 9
  | 0, _ => by unfold roomN; omega
  | m + 1, h => by
    have ih := roomN_box hL hS hH hc m (by omega)
    have h2 := leftB_box hL hS hH m (by omega)
    simp only [roomN]; omega
/-- What the walks on rooms lean on: each number within its limits. -/
def Sized (d : LegD) : Prop := LimOk d ∧ SoldOk d ∧ HeldOk d ∧ (1 ≤ d.cap ∧ d.cap ≤ 9)
theorem OkLeg.sized {d : LegD} (h : OkLeg d) : Sized d := ⟨h.2.1.lim, h.2.1.sold, h.held, h.2.1.1⟩
theorem OkLeg.room0 {d : LegD} (h : OkLeg d) : ∀ m, m ≤ 3 → 0 ≤ roomN d m
  | 0, _ => by have := h.2.1.1; unfold roomN; omega
  | m + 1, hm => by
    have ih := OkLeg.room0 h m (by omega)
    have := (h.2.2.2 m (by omega)).1
    simp only [roomN]; omega

set_option maxRecDepth 100000 in
set_option maxHeartbeats 8000000 in
theorem roomM (d : LegD) (p : LegP) (c : Nat) (hc : c < 3) (w : World) (h : LegIn w d p) (hz : Sized d) :
    Calls Try.prog 71 #[LegV d p, .int .i64 (c : Int)] w fun e w' => e = .returned (.int .i64 (roomN d (c + 1))) ∧ Below w.heap.size w w' := by
  have hbA : Below w.heap.size w (w.alloc (.cells (LegC d p) 31)) := (Below.refl _ _).alloc (Nat.le_refl _) _
  have hA := LegBox.new w d p
  have HI1 := Lib.hid (h.kept hbA)
  have HbA := Lib.hid hbA
  have HZ := Lib.hid hz
  have hVC : LegV d p = .agg (LegC d p) := rfl
  rw [hVC]
  have b5 := hA.c5
  have HA1 := Lib.hid hA
  have Hc0 : Hid (roomN d 0 = d.cap) := rfl
  generalize hLC : LegC d p = LC at *
  have HLC := Lib.hid hLC
  clear hbA hA h hVC hLC hz
  go_enter Try.func71, Try.ntmps71
  go_wp2_with fail
  generalize w.alloc (.cells LC 31) = w1 at *
  go_loopw [5, 6] (fun v i wr => ∃ k : Nat, k ≤ c + 1 ∧ v = .int .i64 (roomN d k) ∧ i = .int .i64 k ∧ Below w1.heap.size w1 wr) (fun _ i _ => c + 1 - (intOf i).toNat)
  case atStart => exact ⟨0, Nat.zero_le _, by rw [Hc0.out], rfl, Below.refl _ _⟩
  case round =>
    obtain ⟨k, hk, rfl, rfl, hb2⟩ := hrel
    rcases Nat.lt_or_ge c k with hge | hle
    · obtain rfl : k = c + 1 := by omega
      obtain ⟨R, hRR⟩ : ∃ R, R = roomN d (c + 1) := ⟨_, rfl⟩
      have HRR := Lib.hid hRR
      rw [← hRR]
      clear hRR
      have g0 : ¬ ((c : Int) + 1 ≤ c) := by omega
      go_wp2
      go_ret
      exact ⟨retI HRR.out, bt HbA.out hb2⟩
    · have hlt : k < 3 := by omega
      have hnL := HZ.out.1.1
      obtain ⟨bL, oL, eL, hbL, hcL⟩ := HI1.out.1.cells (by omega)
      have y1 := cell_regrown (cell_kept hb2 hbL (hcL k (by omega)))
      have hbx2 := HA1.out.kept hb2
      have Hb3 := Lib.hid hb2
      have hV : LegV d p = .agg #[.string d.name, .string d.fr, .string d.to, .int .i64 d.dep, .int .i64 d.arr, .int .i64 d.cap, .slice (some ⟨bL, oL, none⟩) 3 p.cL, .slice p.aS d.nS p.cS, .slice p.aB d.nB p.cB, .slice p.aH d.nH p.cH] := by unfold LegV; rw [eL, hnL]
      have e0 := hbx2.c0
      have e1 := hbx2.c1
      have e2 := hbx2.c2
      have e3 := hbx2.c3
      have e4 := hbx2.c4
      have e5 := hbx2.c5
      have e6 := hbx2.c6
      have e7 := hbx2.c7
      have e8 := hbx2.c8
      have e9 := hbx2.c9
      rw [eL, hnL] at e6
      have r0 := cell_regrown e0
      have r1 := cell_regrown e1
      have r2 := cell_regrown e2
      have r3 := cell_regrown e3
      have r4 := cell_regrown e4
      have r5 := cell_regrown e5
      have r6 := cell_regrown e6
      have r7 := cell_regrown e7
      have r8 := cell_regrown e8
      have r9 := cell_regrown e9
      have cU : ∀ dd os, Calls Try.prog 65 #[.agg #[.string d.name, .string d.fr, .string d.to, .int .i64 d.dep, .int .i64 d.arr, .int .i64 d.cap, .slice (some ⟨bL, oL, none⟩) 3 p.cL, .slice p.aS d.nS p.cS, .slice p.aB d.nB p.cB, .slice p.aH d.nH p.cH], .int .i64 (k : Int)] (Go.Sort.grow (redrawn wr dd) os) fun e w'' => e = .returned (.int .i64 (usedB d k)) ∧ ∃ p : Regrown, w'' = Go.Sort.grow (redrawn wr p.d) p.os := fun dd os => by
        have hh := usedM d p k hlt (Go.Sort.grow (redrawn wr dd) os) ((HI1.out.kept hb2).kept (below_regrown wr dd os)) HZ.out.2.1 HZ.out.2.2.1
        rw [hV] at hh
        exact Calls.regrown_of hh
      have k1 : (k : Int) ≤ (c : Int) := by omega
      have k3 : (k : Int) < 3 := by omega
      have k0 : (0 : Int) ≤ k := by omega
      have hbx := leftB_box HZ.out.1 HZ.out.2.1 HZ.out.2.2.1 k hlt
      have hlb : leftB d k = d.L k - usedB d k := rfl
      have hnx : Hid (roomN d (k + 1) = min (roomN d k) (leftB d k)) := rfl
      rw [hlb] at hbx hnx
      have hw : IntKind.i64.wrap (d.L k - usedB d k) = d.L k - usedB d k := IntWalk.i64_in _ (by omega)
      clear e0 e1 e2 e3 e4 e5 e6 e7 e8 e9 hV hbx2 eL hcL hb2 hlb
      generalize usedB d k = xu at *
      generalize d.L k = xl at *
      generalize roomN d k = xr at *
      rcases Int.lt_or_le (xl - xu) xr with m1 | m1
      all_goals
        go_wp2_with fail
        refine regionB (by kernel_rfl) (by kernel_rfl) ?_
        repeat (refine QW.step (fun K hK => ?_); go_simp; first | (refine hK.out _ ?_; clear hK K) | (apply Exists.intro; refine And.intro (fun _ => ?_) (hK.out _ ?_); first | (go_at_call 65; exact cU _ _); clear hK K))
        refine QW.nil ?_
        intro _ hw'
        obtain ⟨⟨dq, osq⟩, hw''⟩ := hw'
        subst hw''
        have hb6 := bt Hb3.out (below_regrown wr dq osq)
        generalize Go.Sort.grow (redrawn wr dq) osq = W6 at *
        go_wp2
        go_roundw
        case rel => exact ⟨k + 1, by omega, by rw [hnx.out]; congr 1; omega, by go_num, hb6⟩
        case measure => simp [intOf]; omega

def roomF (d : LegD) (c : Nat) : List (Fin 3) → Int := fun pre => (pre.filter (fun x => decide (x.val ≤ c))).foldl (fun r x => min r (leftB d x.val)) d.cap
theorem roomF_in {d : LegD} {c : Nat} {pre : List (Fin 3)} {x : Fin 3} (h : x.val ≤ c) : roomF d c (pre ++ [x]) = min (roomF d c pre) (leftB d x.val) := by
  simp [roomF, h]
theorem roomF_out {d : LegD} {c : Nat} {pre : List (Fin 3)} {x : Fin 3} (h : c < x.val) : roomF d c (pre ++ [x]) = roomF d c pre := by
  simp [roomF, h]
theorem roomF_all (d : LegD) (c : Nat) (hc : c < 3) : roomF d c three = roomN d (c + 1) := by
  rcases (by omega : c = 0 ∨ c = 1 ∨ c = 2) with rfl | rfl | rfl <;> rfl
theorem roomF_part (d : LegD) (c : Nat) (hc : c < 3) {pre : List (Fin 3)} (h : LPart pre) (hx : ∃ x ∈ pre, c < x.val) : roomF d c pre = roomN d (c + 1) := by
  obtain ⟨k, hk, rfl⟩ := h
  obtain ⟨x, hm, hx⟩ := hx
  rcases (by omega : c = 0 ∨ c = 1 ∨ c = 2) with rfl | rfl | rfl <;> rcases (by omega : k = 0 ∨ k = 1 ∨ k = 2 ∨ k = 3) with rfl | rfl | rfl | rfl <;> first | rfl | (exfalso; revert x; decide)

set_option maxRecDepth 100000 in
set_option maxHeartbeats 8000000 in
theorem roomIn (d : LegD) (p : LegP) (c : Nat) (hc3 : c < 3) (n : Nat) (hn : 3 ≤ n) (w : World) (h : LegIn w d p) (hz : Sized d) (hc : d.nS ≤ p.cS) :
    CallsIn Fence.wide n Try.prog 68 #[LegV d p, .int .i64 (c : Int)] w fun e w' => e = .returned (.int .i64 (roomN d (c + 1))) ∧ Below w.heap.size w w' := by
  have h1 : 1 ≤ n := by omega
  obtain ⟨hL, hS, hH, hcap⟩ := hz
  refine callsIn_of_wp_marks Try.func68 rfl trivial ?_ rfl
  simp only [Try.ntmps68, List.size_toArray, List.length_cons, List.length_nil, Nat.reduceAdd, Nat.reduceSub, Array.replicate_succ, Array.replicate_zero, List.push_toArray, List.append_toArray, List.nil_append, List.cons_append]
  have xA := LegBox.new w d p
  have hbA : Below w.heap.size w (w.alloc (.cells (LegC d p) 31)) := (Below.refl _ _).alloc (Nat.le_refl _) _
  have xB : LegBox ((w.alloc (.cells (LegC d p) 31)).alloc (.cells #[.int .i64 (c : Int)] 3)) w.heap.size d p := xA.kept ((Below.refl _ _).alloc (Nat.le_refl _) _)
  have xC : LegBox (((w.alloc (.cells (LegC d p) 31)).alloc (.cells #[.int .i64 (c : Int)] 3)).alloc (.cells #[.int .i64 d.cap] 3)) w.heap.size d p := xB.kept ((Below.refl _ _).alloc (Nat.le_refl _) _)
  have hbB : Below w.heap.size w ((w.alloc (.cells (LegC d p) 31)).alloc (.cells #[.int .i64 (c : Int)] 3)) := hbA.alloc (by simp) _
  have hbC : Below w.heap.size w (((w.alloc (.cells (LegC d p) 31)).alloc (.cells #[.int .i64 (c : Int)] 3)).alloc (.cells #[.int .i64 d.cap] 3)) := hbB.alloc (by simp; omega) _
  have bK := (Boxed.new (w.alloc (.cells (LegC d p) 31)) 3 (.int .i64 (c : Int))).alloc (.cells #[.int .i64 d.cap] 3)
  have bR := Boxed.new ((w.alloc (.cells (LegC d p) 31)).alloc (.cells #[.int .i64 (c : Int)] 3)) 3 (.int .i64 d.cap)
  simp only [World.size_alloc] at bR bK
  have c5 := xB.c5
  have b0 := xC.c0
  have b1 := xC.c1
  have b2 := xC.c2
  have b3 := xC.c3
  have b4 := xC.c4
  have b5 := xC.c5
  have b6 := xC.c6
  have b7 := xC.c7
  have b8 := xC.c8
  have b9 := xC.c9
  have hVC : LegV d p = .agg (LegC d p) := rfl
  have HBox := fun W => LegBox.new W d p
  rw [hVC]
  generalize hLC : LegC d p = LC at *
  have HLC := Lib.hid hLC
  have sC : (((w.alloc (.cells LC 31)).alloc (.cells #[.int .i64 (c : Int)] 3)).alloc (.cells #[.int .i64 d.cap] 3)).heap.size = w.heap.size + 1 + 1 + 1 := by simp
  clear hbA hbB xA xB HBox
  gi_wp2_with fail
  refine ⟨trivial, (callsIn_wide.2 (leftFn d p _)).mono ?_⟩
  rintro e w' ⟨rfl, rfl⟩
  rw [hLC]
  gi_wp2_with fail
  have xD : LegBox ((((w.alloc (.cells LC 31)).alloc (.cells #[.int .i64 (c : Int)] 3)).alloc (.cells #[.int .i64 d.cap] 3)).alloc (.cells LC 31)) (w.heap.size + 1 + 1 + 1) d p := by
    have := LegBox.new (((w.alloc (.cells LC 31)).alloc (.cells #[.int .i64 (c : Int)] 3)).alloc (.cells #[.int .i64 d.cap] 3)) d p
    rwa [hLC, sC] at this
  have hbD : Below w.heap.size w ((((w.alloc (.cells LC 31)).alloc (.cells #[.int .i64 (c : Int)] 3)).alloc (.cells #[.int .i64 d.cap] 3)).alloc (.cells LC 31)) := hbC.alloc (by simp; omega) _
  have bRD := bR.alloc (.cells LC 31)
  have bKD := bK.alloc (.cells LC 31)
  have sD : ((((w.alloc (.cells LC 31)).alloc (.cells #[.int .i64 (c : Int)] 3)).alloc (.cells #[.int .i64 d.cap] 3)).alloc (.cells LC 31)).heap.size = w.heap.size + 1 + 1 + 1 + 1 := by simp
  clear bR bK xC hbC sC c5 b0 b1 b2 b3 b4 b5 b6 b7 b8 b9
  generalize ((((w.alloc (.cells LC 31)).alloc (.cells #[.int .i64 (c : Int)] 3)).alloc (.cells #[.int .i64 d.cap] 3)).alloc (.cells LC 31)) = W0 at *
  refine wpIn_rangeFunc_ownF rfl h1 (gf := 93) (lb := #[.pointer (some ⟨w.heap.size + 1 + 1 + 1, 0, none⟩)]) rfl trivial (enters_of Try.func93 (by kernel_rfl) rfl)
    (left_stops d p (n - 1) (w.heap.size + 1 + 1 + 1) (by omega) w W0 h hL hS hH hc hbD (by rw [sD]; omega) xD) kpL_t (kpL_b hbD.size (by rw [sD]; omega)) (Below.refl _ _) (fun _ => rfl)
    (fun pre W => Boxed W (w.heap.size + 1) 3 (.int .i64 (c : Int)) ∧ Boxed W (w.heap.size + 1 + 1) 3 (.int .i64 (roomF d c pre)) ∧ Below w.heap.size w W)
    (fun q pre W => Boxed W (w.heap.size + 1 + 1) 3 (.int .i64 (roomF d c pre)) ∧ (q = .exit 0 ∧ ∃ x ∈ pre, c < x.val) ∧ Below w.heap.size w W)
    (OwnFrom.and (Own.from (boxed_own _ _ _) _) (OwnFrom.and (Own.from (boxed_own _ _ (fun pre => .int .i64 (roomF d c pre))) _) (ownFrom_below (Nat.le_refl _) hbD.size)))
    (fun q => OwnFrom.and (Own.from (boxed_own _ _ (fun pre => .int .i64 (roomF d c pre))) _) (OwnFrom.and (ownFrom_pure _ _) (ownFrom_below (Nat.le_refl _) hbD.size)))
    ⟨bKD, bRD, hbD⟩
    (fun x => { tmps := #[.agg LC, .int .i64 (c : Int), .pointer (some ⟨w.heap.size, 0, none⟩), .pointer (some ⟨w.heap.size + 1, 0, none⟩), .int .i64 0, .pointer (some ⟨w.heap.size + 1 + 1, 0, none⟩), .int .i64 (x.val : Int), .int .i64 (leftB d x.val), .pointer (some ⟨w.heap.size, 5, none⟩), .int .i64 d.cap, LegV d p, .func (.func 93) #[] #[.pointer (some ⟨w.heap.size + 1 + 1 + 1, 0, none⟩)], .int .i64 (x.val : Int), .int .i64 (leftB d x.val), undef, undef, undef, undef, undef, undef, undef], defers := [] }) ?assign ?body ?done ?stop
  case assign =>
    intro l x W K hK
    dsimp only [encL]
    gi_wp2
    exact hK
  case body =>
    rintro l pre ⟨k, hk⟩ W ⟨hC, hR, hB⟩ hlt
    have cC := hC.cell
    have cR := hR.cell
    have fR := hR.frozen
    have hin := @roomF_in d c pre ⟨k, hk⟩
    have hout := @roomF_out d c pre ⟨k, hk⟩
    have Hin := Lib.hid hin
    have Hout := Lib.hid hout
    clear hin hout
    dsimp only
    generalize leftB d k = x at *
    generalize hy : roomF d c pre = y at *
    rcases Nat.lt_or_ge c k with hck | hck
    · have g0 : ((c : Int) < (k : Int)) := by omega
      gi_wp2
      exact ⟨(KeepsOthers.refl _), by first | (rw [Hout.out hck]; exact hR) | (rw [Hout.out hck, hy]; exact hR), ⟨rfl, ⟨k, hk⟩, by simp, hck⟩, hB⟩
    · have g0 : ¬ ((c : Int) < (k : Int)) := by omega
      rcases Int.lt_or_le x y with hxy | hxy
      · have hm : min y x = x := by omega
        gi_wp2
        exact ⟨KeepsOthers.setCell _ _ _, ⟨(Below.refl _ _).setCell (p := ⟨w.heap.size + 1 + 1, 0, none⟩) (by show _ ≤ w.heap.size + 1 + 1; omega) _, fun o ho => (Below.heap_setCell _ _ _ _ (by show w.heap.size + 1 + 1 + 1 ≠ w.heap.size + 1 + 1; omega)).trans ho⟩, hC.other (by omega) _, by rw [Hin.out hck, hm]; exact hR.set _, hB.setCell (p := ⟨w.heap.size + 1 + 1, 0, none⟩) (by show _ ≤ w.heap.size + 1 + 1; omega) _⟩
      · have hm : min y x = y := by omega
        gi_wp2
        exact ⟨KeepsOthers.setCell _ _ _, ⟨(Below.refl _ _).setCell (p := ⟨w.heap.size + 1 + 1, 0, none⟩) (by show _ ≤ w.heap.size + 1 + 1; omega) _, fun o ho => (Below.heap_setCell _ _ _ _ (by show w.heap.size + 1 + 1 + 1 ≠ w.heap.size + 1 + 1; omega)).trans ho⟩, hC.other (by omega) _, by rw [Hin.out hck, hm]; exact hR.set _, hB.setCell (p := ⟨w.heap.size + 1 + 1, 0, none⟩) (by show _ ≤ w.heap.size + 1 + 1; omega) _⟩
  case done =>
    rintro D ys W hD hS2 ⟨hC, hR, hB⟩ hK
    have cR := hR.cell
    rw [show roomF d c ys = roomN d (c + 1) from by rw [show ys = three from hS2]; exact roomF_all d c hc3] at cR
    obtain ⟨R, hRR⟩ : ∃ R, R = roomN d (c + 1) := ⟨_, rfl⟩
    rw [← hRR] at cR
    have HRR := Lib.hid hRR
    clear hRR
    gi_wp2
    refine ⟨by simp, .inl ⟨_, _, rfl, run_takeDeferred hK, ?_⟩⟩
    refine ⟨.int .i64 R, ?_, by rw [HRR.out], ?_⟩
    · simp [results, Try.f68, go_sem]
    · exact hB.trans (belowK_b (w := w) (Nat.le_refl _) _ D _ _ (by rw [sD] at hD; omega) hK rfl rfl)
  case stop =>
    rintro D q pre W hD hS2 ⟨hR, ⟨rfl, hl⟩, hB⟩ hK
    have cR := hR.cell
    rw [roomF_part d c hc3 hS2 hl] at cR
    clear hl
    obtain ⟨R, hRR⟩ : ∃ R, R = roomN d (c + 1) := ⟨_, rfl⟩
    rw [← hRR] at cR
    have HRR := Lib.hid hRR
    clear hRR
    gi_wp2
    refine ⟨by simp, .inl ⟨_, _, rfl, run_takeDeferred hK, ?_⟩⟩
    refine ⟨.int .i64 R, ?_, by rw [HRR.out], ?_⟩
    · simp [results, Try.f68, go_sem]
    · exact hB.trans (belowK_b (w := w) (Nat.le_refl _) _ D _ _ (by rw [sD] at hD; omega) hK rfl rfl)
theorem roomI (d : LegD) (p : LegP) (c : Nat) (hc3 : c < 3) (w : World) (h : LegIn w d p) (hz : Sized d) (hc : d.nS ≤ p.cS) :
    Calls Try.prog 68 #[LegV d p, .int .i64 (c : Int)] w fun e w' => e = .returned (.int .i64 (roomN d (c + 1))) ∧ Below w.heap.size w w' :=
  callsIn_wide.1 (roomIn d p c hc3 3 (by omega) w h hz hc)

end Go.Proofs.Ytmlkjlipjkmcfaa
