/-
  What the program's ops say: names, parts, tiers; and how fuel is taken.
-/
import Derived.Test.YtembapomapcdfaaGreatDoorSays
import Derived.Test.YtembapomapcdfaaGreatDoorTiers
namespace Go.Proofs.YtembapomapcdfaaGreatDoor
open Go.RowKit
set_option linter.unusedVariables false
set_option linter.unusedSimpArgs false

set_option maxRecDepth 20000 in
set_option maxHeartbeats 8000000 in
theorem saysVar (o n : Int) (s : ByteArray) (ka : Option Addr) (kl kc : Nat) (ma : Option Addr) (ml mc : Nat) (ns : List (ByteArray × Int)) (eb : Nat) (fu : Int) (na : Option Addr) (nl nc : Nat) (v4 : Value) (w : World) (h : PairsN All w na nl ns) (hl : nl ≤ 1048576) (hev : Ev w eb na nl nc fu) :
    Calls Tryz.prog 133 #[.agg #[], .pointer (some ⟨eb, 0, none⟩), .agg #[.int .i64 o, .int .i64 n, .string s, .slice ka kl kc, .slice ma ml mc], v4] w (SaysP (varV ns s) w) := by
  have hA : Below w.heap.size w ((w.alloc (.cells #[] 132)).alloc (.cells #[.int .i64 o, .int .i64 n, .string s, .slice ka kl kc, .slice ma ml mc] 34)) := two_boxes w _ _
  have hsz : ((w.alloc (.cells #[] 132)).alloc (.cells #[.int .i64 o, .int .i64 n, .string s, .slice ka kl kc, .slice ma ml mc] 34)).heap.size = w.heap.size + 2 := by simp
  have hArg : ((w.alloc (.cells #[] 132)).alloc (.cells #[.int .i64 o, .int .i64 n, .string s, .slice ka kl kc, .slice ma ml mc] 34)).heap[w.heap.size + 1]? = some (.cells #[.int .i64 o, .int .i64 n, .string s, .slice ka kl kc, .slice ma ml mc] 34 (0, 0)) := by
    have := heap_alloc_new (w.alloc (.cells #[] 132)) (.cells #[.int .i64 o, .int .i64 n, .string s, .slice ka kl kc, .slice ma ml mc] 34)
    rw [World.size_alloc] at this
    exact this
  have HA := Lib.hid hA
  have HArg := Lib.hid hArg
  have H := Lib.hid (h.kept (same_of_below hA))
  have e0 := (hev.kept hA).2.1
  clear h hev hA hArg
  go_enter Tryz.func133, Tryz.ntmps133
  go_wp2_with fail
  generalize hW0 : ((w.alloc (.cells #[] 132)).alloc (.cells #[.int .i64 o, .int .i64 n, .string s, .slice ka kl kc, .slice ma ml mc] 34)) = W0 at *
  clear hW0
  go_loopw [17] (fun i wr => ∃ k : Nat, k ≤ nl ∧ i = .int .i64 k ∧ Hid (varV (ns.drop k) s = varV ns s) ∧ Below W0.heap.size W0 wr) (fun i _ => nl - (intOf i).toNat)
  case atStart => exact ⟨0, Nat.zero_le _, rfl, by show _ = _; rw [List.drop_zero], Below.refl _ _⟩
  case round =>
    clear e0
    obtain ⟨k, hk, rfl, hs, hb⟩ := hrel
    have argr := (hb.block (w.heap.size + 1) (by omega)).trans HArg.out
    have ca2 : wr.cell? ⟨w.heap.size + 1, 2, none⟩ = some (Value.string s) := by rw [Lib.cell_of_heap argr]; rfl
    clear argr
    have HB := Lib.hid hb
    rcases Nat.lt_or_ge k nl with hlt | hge
    · obtain ⟨hln, hc | ⟨b, off, rfl, -, hbl, hrow⟩⟩ := H.out.kept (same_of_below (N := All) hb)
      · omega
      obtain ⟨y0, y1⟩ := hrow k hlt
      have hV := varV_drop (s := s) (show k < ns.length by omega)
      have k1 : (k : Int) < nl := by omega
      have k0 : (0 : Int) ≤ k := by omega
      clear hrow hbl hb
      generalize (ns.getD k (⟨#[]⟩, 0)).1 = nm at *
      generalize (ns.getD k (⟨#[]⟩, 0)).2 = v at *
      have hXB : Below wr.heap.size wr (wr.alloc (.cells #[.string nm, .int .i64 v] 62)) := (Below.refl _ _).alloc (Nat.le_refl _) _
      have HXB := Lib.hid (HB.out.trans (hXB.mono HB.out.size))
      have cb2 := (hXB.cell (p := ⟨w.heap.size + 1, 2, none⟩) (show w.heap.size + 1 < wr.heap.size from by have := HB.out.size; omega)).trans ca2
      clear hXB ca2
      by_cases e : nm = s
      · have z := nm_eq e
        have zd : decide (nm = s) = true := decide_eq_true e
        rw [if_pos e] at hV
        have HV : Hid (varV ns s = orB v (okB v)) := by show _ = _; rw [← hs.out, hV]; rfl
        have hC := Lib.hid (fun W => (implMoneyOk v W).mono fun e w' h => And.intro h.1 h.2.symm)
        have hO := Lib.hid (fun W => implOrBig v (okB v) W)
        clear e hV hs
        rw [HV.out]
        generalize orB v (okB v) = r at *
        generalize okB v = bv at *
        obtain ⟨r1, r2⟩ := r
        dsimp only at *
        go_wp2_with fail
        go_quiet (first | (go_at_call 136; exact Calls.quiet_of_same (hC.out _)) | (go_at_call 135; exact Calls.quiet_of_same (hO.out _)))
        go_wp2
        go_ret2
        exact ⟨rfl, HA.out.trans ((HXB.out.trans ((belowN (Below.refl _ _) nq).mono HXB.out.size)).mono HA.out.size)⟩
      · have z := nm_neq e
        have zd : decide (nm = s) = false := decide_eq_false e
        rw [if_neg e] at hV
        have HV := Lib.hid hV
        clear e hV
        go_wp2
        go_roundw
        case rel => exact ⟨k + 1, by omega, by go_num, by show _ = _; rw [← hs.out, HV.out], HXB.out⟩
        case measure => simp [intOf]; omega
    · obtain rfl : k = nl := by omega
      have HE : Hid (varV ns s = (0, 4)) := by
        have := hs.out
        rw [List.drop_of_length_le (by have := H.out.1; omega), varV] at this
        exact this.symm
      go_wp2
      go_ret2
      exact ⟨by rw [HE.out]; rfl, HA.out.trans (HB.out.mono HA.out.size)⟩
set_option maxRecDepth 20000 in
set_option maxHeartbeats 8000000 in
theorem saysPart (o n : Int) (s : ByteArray) (ka : Option Addr) (kl kc : Nat) (ma : Option Addr) (ml mc : Nat) (p : Value) (w : World) (b off len cp : Nat) (hl : 2 < len) (x y z : Int) (hb : b < w.heap.size) (hx : w.cell? ⟨b, off, none⟩ = some (.int .i64 x)) (hy : w.cell? ⟨b, off + 1, none⟩ = some (.int .i64 y)) (hz : w.cell? ⟨b, off + 2, none⟩ = some (.int .i64 z)) :
    Calls Tryz.prog 148 #[.agg #[], p, .agg #[.int .i64 o, .int .i64 n, .string s, .slice ka kl kc, .slice ma ml mc], .slice (some ⟨b, off, none⟩) len cp] w (SaysP (partW x y z) w) := by
  have hA : Below w.heap.size w ((w.alloc (.cells #[] 140)).alloc (.cells #[.int .i64 o, .int .i64 n, .string s, .slice ka kl kc, .slice ma ml mc] 34)) := two_boxes w _ _
  have hsz : ((w.alloc (.cells #[] 140)).alloc (.cells #[.int .i64 o, .int .i64 n, .string s, .slice ka kl kc, .slice ma ml mc] 34)).heap.size = w.heap.size + 2 := by simp
  have hArg : ((w.alloc (.cells #[] 140)).alloc (.cells #[.int .i64 o, .int .i64 n, .string s, .slice ka kl kc, .slice ma ml mc] 34)).heap[w.heap.size + 1]? = some (.cells #[.int .i64 o, .int .i64 n, .string s, .slice ka kl kc, .slice ma ml mc] 34 (0, 0)) := by
    have := heap_alloc_new (w.alloc (.cells #[] 140)) (.cells #[.int .i64 o, .int .i64 n, .string s, .slice ka kl kc, .slice ma ml mc] 34)
    rw [World.size_alloc] at this
    exact this
  have HA := Lib.hid hA
  have HArg := Lib.hid hArg
  have x0 := (hA.cell (p := ⟨b, off, none⟩) hb).trans hx
  have x1 := (hA.cell (p := ⟨b, off + 1, none⟩) hb).trans hy
  have x2 := (hA.cell (p := ⟨b, off + 2, none⟩) hb).trans hz
  have l0 : (0 : Int) < len := by omega
  have l1 : (1 : Int) < len := by omega
  have l2 : (2 : Int) < len := by omega
  have l0n : 0 < len := by omega
  clear hA hx hy hz hArg
  by_cases c : z = 0
  · have bz : (z == 0) = true := by simpa using c
    rw [show partW x y z = (0, 3) from by rw [partW, if_pos c]]
    clear c
    go_enter Tryz.func148, Tryz.ntmps148
    go_wp2
    go_ret2
    exact ⟨rfl, HA.out⟩
  · have bz : (z == 0) = false := by simpa using c
    rw [show partW x y z = orB (partV x y z) (partOk x y z) from by rw [partW, if_neg c]]
    have hC := Lib.hid (fun W => implMoneyPart x y z W)
    have hO := Lib.hid (fun W => implOrBig (partV x y z) (partOk x y z) W)
    generalize orB (partV x y z) (partOk x y z) = r at *
    generalize partV x y z = pv at *
    generalize partOk x y z = po at *
    obtain ⟨r1, r2⟩ := r
    dsimp only at *
    clear c
    go_enter Tryz.func148, Tryz.ntmps148
    go_wp2_with fail
    go_quiet (first | (go_at_call 150; exact Calls.quiet_of (hC.out _)) | (go_at_call 135; exact Calls.quiet_of_same (hO.out _)))
    go_wp2
    go_ret2
    exact ⟨rfl, HA.out.trans ((belowN (Below.refl _ _) nq).mono HA.out.size)⟩
theorem tiersB (x : Int) (ms : List (Int × Int)) (ma : Option Addr) (mc : Nat) (hx : okB x = true) (hm : MOk (mF ms) (mP ms) ms.length) (hl : ms.length ≤ 5) (w : World) (h : MarksN All w ma ms.length ms) :
    Calls Tryz.prog 165 #[.int .i64 x, .slice ma ms.length mc] w fun e w' => e = .returned (.tuple #[.int .i64 (if 0 ≤ x ∧ tSum (mF ms) (mP ms) ms.length x ms.length ≤ 1000000000000 then tSum (mF ms) (mP ms) ms.length x ms.length else 0), .bool (decide (0 ≤ x ∧ tSum (mF ms) (mP ms) ms.length x ms.length ≤ 1000000000000))]) ∧ Below w.heap.size w w' := by
  refine (implTiersOf x ma ms.length mc (mF ms) (mP ms) w (marks_of_N h) (by omega)).mono ?_
  rintro e w' ⟨y, b, rfl, hy, hb⟩
  refine ⟨?_, hb⟩
  have lx := okB_yes hx
  rcases hy with ⟨rfl, hT, rfl⟩ | ⟨rfl, hT, rfl⟩
  · rw [if_pos ⟨hT.1.1, hT.2.2⟩, decide_eq_true (show _ ∧ _ from ⟨hT.1.1, hT.2.2⟩)]
  · have hn : ¬ (0 ≤ x ∧ tSum (mF ms) (mP ms) ms.length x ms.length ≤ 1000000000000) := fun hh => hT ⟨⟨hh.1, lx.2⟩, hm, hh.2⟩
    rw [if_neg hn, decide_eq_false hn]
theorem tier_orB (x : Int) (ms : List (Int × Int)) : orB (if 0 ≤ x ∧ tSum (mF ms) (mP ms) ms.length x ms.length ≤ 1000000000000 then tSum (mF ms) (mP ms) ms.length x ms.length else 0) (decide (0 ≤ x ∧ tSum (mF ms) (mP ms) ms.length x ms.length ≤ 1000000000000)) = tierV ms x := by
  unfold tierV
  by_cases c : x < 0
  · rw [if_pos c, decide_eq_false (by omega)]; rfl
  · rw [if_neg c]
    by_cases d : tSum (mF ms) (mP ms) ms.length x ms.length ≤ 1000000000000
    · rw [if_pos ⟨by omega, d⟩, decide_eq_true (show _ ∧ _ from ⟨by omega, d⟩), decide_eq_true d]
    · rw [if_neg (fun h => d h.2), decide_eq_false (fun h => d h.2), decide_eq_false d]; rfl
set_option maxRecDepth 20000 in
set_option maxHeartbeats 8000000 in
theorem saysTiers (o n : Int) (s : ByteArray) (ka : Option Addr) (kl kc : Nat) (ma : Option Addr) (ml mc : Nat) (p : Value) (w : World) (b off len cp : Nat) (hl : 0 < len) (x : Int) (ms : List (Int × Int)) (hb : b < w.heap.size) (hx : w.cell? ⟨b, off, none⟩ = some (.int .i64 x)) (ax : okB x = true) (hm : MOk (mF ms) (mP ms) ms.length) (hm5 : ms.length ≤ 5) (hml : ml = ms.length) (hms : MarksN All w ma ms.length ms) :
    Calls Tryz.prog 162 #[.agg #[], p, .agg #[.int .i64 o, .int .i64 n, .string s, .slice ka kl kc, .slice ma ml mc], .slice (some ⟨b, off, none⟩) len cp] w (SaysP (tierV ms x) w) := by
  have hA : Below w.heap.size w ((w.alloc (.cells #[] 144)).alloc (.cells #[.int .i64 o, .int .i64 n, .string s, .slice ka kl kc, .slice ma ml mc] 34)) := two_boxes w _ _
  have hsz : ((w.alloc (.cells #[] 144)).alloc (.cells #[.int .i64 o, .int .i64 n, .string s, .slice ka kl kc, .slice ma ml mc] 34)).heap.size = w.heap.size + 2 := by simp
  have hArg : ((w.alloc (.cells #[] 144)).alloc (.cells #[.int .i64 o, .int .i64 n, .string s, .slice ka kl kc, .slice ma ml mc] 34)).heap[w.heap.size + 1]? = some (.cells #[.int .i64 o, .int .i64 n, .string s, .slice ka kl kc, .slice ma ml mc] 34 (0, 0)) := by
    have := heap_alloc_new (w.alloc (.cells #[] 144)) (.cells #[.int .i64 o, .int .i64 n, .string s, .slice ka kl kc, .slice ma ml mc] 34)
    rw [World.size_alloc] at this
    exact this
  have HA := Lib.hid hA
  have HArg := Lib.hid hArg
  subst hml
  have x0 := (hA.cell (p := ⟨b, off, none⟩) hb).trans hx
  have ca4 : ((w.alloc (.cells #[] 144)).alloc (.cells #[.int .i64 o, .int .i64 n, .string s, .slice ka kl kc, .slice ma ms.length mc] 34)).cell? ⟨w.heap.size + 1, 4, none⟩ = some (Value.slice ma ms.length mc) := by rw [Lib.cell_of_heap HArg.out]; rfl
  have l0 : (0 : Int) < len := by omega
  have HM := Lib.hid (hms.kept (same_of_below hA))
  rw [← tier_orB]
  have hT : Hid (∀ W, MarksN All W ma ms.length ms → _) := fun W hW => tiersB x ms ma mc ax hm hm5 W hW
  have hO := Lib.hid (fun W => implOrBig (if 0 ≤ x ∧ tSum (mF ms) (mP ms) ms.length x ms.length ≤ 1000000000000 then tSum (mF ms) (mP ms) ms.length x ms.length else 0) (decide (0 ≤ x ∧ tSum (mF ms) (mP ms) ms.length x ms.length ≤ 1000000000000)) W)
  clear hA hx hArg hm hms
  generalize (if 0 ≤ x ∧ tSum (mF ms) (mP ms) ms.length x ms.length ≤ 1000000000000 then tSum (mF ms) (mP ms) ms.length x ms.length else 0) = tv at *
  generalize (decide (0 ≤ x ∧ tSum (mF ms) (mP ms) ms.length x ms.length ≤ 1000000000000)) = tb at *
  generalize orB tv tb = r at *
  obtain ⟨r1, r2⟩ := r
  dsimp only at *
  go_enter Tryz.func162, Tryz.ntmps162
  go_wp2_with fail
  generalize hW0 : ((w.alloc (.cells #[] 144)).alloc (.cells #[.int .i64 o, .int .i64 n, .string s, .slice ka kl kc, .slice ma ms.length mc] 34)) = W0 at *
  clear hW0
  have cT : ∀ dd os, Calls Tryz.prog 165 #[.int .i64 x, .slice ma ms.length mc] (Go.Sort.grow (redrawn W0 dd) os) fun e w'' => e = .returned (.tuple #[.int .i64 tv, .bool tb]) ∧ ∃ p : Regrown, w'' = Go.Sort.grow (redrawn W0 p.d) p.os := fun dd os => Calls.regrown_of (hT.out _ (HM.out.kept (same_of_below (below_regrown W0 dd os))))
  have cO : ∀ dd os, Calls Tryz.prog 135 #[.int .i64 tv, .bool tb] (Go.Sort.grow (redrawn W0 dd) os) fun e w'' => e = .returned (.tuple #[.int .i64 r1, .int .i64 r2]) ∧ ∃ p : Regrown, w'' = Go.Sort.grow (redrawn W0 p.d) p.os := fun dd os => Calls.regrown_of ((hO.out (Go.Sort.grow (redrawn W0 dd) os)).mono fun e w' h => ⟨h.1, h.2 ▸ Below.refl _ _⟩)
  have q0 := cell_regrown x0
  have q4 := cell_regrown ca4
  clear hsz
  refine wp_region_quiet_below (by kernel_rfl) (by kernel_rfl) ?_
  repeat (quiet_step (first | (go_at_call 165; exact cT _ _) | (go_at_call 135; exact cO _ _)))
  refine wpQuiet_nil ?_
  intro _ hw'
  obtain ⟨⟨dq, osq⟩, hw''⟩ := hw'
  subst hw''
  go_wp2
  go_ret2
  exact ⟨rfl, HA.out.trans ((below_regrown W0 dq osq).mono HA.out.size)⟩
set_option maxHeartbeats 4000000 in
theorem takeNo (k fu : Int) (eb : Nat) (na : Option Addr) (nl nc : Nat) (w : World) (h : fu < k) (hev : Ev w eb na nl nc fu) :
    Calls Tryz.prog 52 #[.pointer (some ⟨eb, 0, none⟩), .int .i64 k] w fun e w' => e = .returned (.bool false) ∧ w' = w := by
  have z : decide (fu < k) = true := decide_eq_true h
  obtain ⟨h1, h2, h3, h4⟩ := hev
  go_enter Tryz.func52, Tryz.ntmps52
  go_wp2
  go_ret
  exact ⟨rfl, rfl⟩
set_option maxHeartbeats 4000000 in
theorem takeYes (k fu : Int) (eb : Nat) (na : Option Addr) (nl nc : Nat) (w : World) (h : k ≤ fu) (k0 : 0 ≤ k) (f1 : fu ≤ 1000) (hev : Ev w eb na nl nc fu) :
    Calls Tryz.prog 52 #[.pointer (some ⟨eb, 0, none⟩), .int .i64 k] w fun e w' => e = .returned (.bool true) ∧ Ev w' eb na nl nc (fu - k) ∧ w.grownBy w' (some eb) := by
  have z : decide (fu < k) = false := decide_eq_false (by omega)
  have e1 : IntKind.i64.wrap (fu - k) = fu - k := IntWalk.i64_in _ (by omega)
  have HE := Lib.hid (hev.set (g := fu - k))
  have HG := Lib.hid (grown_set w ⟨eb, 1, none⟩ (.int .i64 (fu - k)))
  obtain ⟨h1, h2, h3, h4⟩ := hev
  go_enter Tryz.func52, Tryz.ntmps52
  go_wp2
  go_ret
  exact ⟨rfl, HE.out, HG.out⟩
end Go.Proofs.YtembapomapcdfaaGreatDoor
