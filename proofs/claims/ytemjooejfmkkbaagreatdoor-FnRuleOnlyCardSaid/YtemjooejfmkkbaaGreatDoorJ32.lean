/-
  What the program's ops say: names, parts, tiers; and how fuel is taken.
  What the program's ops say: all of the table; the op that picks a kid.
-/
import Derived.Test.YtemjooejfmkkbaaGreatDoorSays
import Derived.Test.YtemjooejfmkkbaaGreatDoorJ2
import Derived.Test.YtemjooejfmkkbaaGreatDoorEvalO
namespace Go.Proofs.YtemjooejfmkkbaaGreatDoor
open Go.RowKit
set_option linter.unusedVariables false
set_option linter.unusedSimpArgs false

set_option maxRecDepth 20000 in
set_option maxHeartbeats 8000000 in
theorem saysVar (o n : Int) (s : ByteArray) (ka : Option Addr) (kl kc : Nat) (ma : Option Addr) (ml mc : Nat) (ns : List (ByteArray × Int)) (eb : Nat) (fu : Int) (na : Option Addr) (nl nc : Nat) (v4 : Value) (w : World) (h : PairsN All w na nl ns) (hl : nl ≤ 1048576) (hev : Ev w eb na nl nc fu) :
    Calls Tryz.prog 275 #[.agg #[], .pointer (some ⟨eb, 0, none⟩), .agg #[.int .i64 o, .int .i64 n, .string s, .slice ka kl kc, .slice ma ml mc], v4] w (SaysP (varV ns s) w) := by
  have hA : Below w.heap.size w ((w.alloc (.cells #[] 212)).alloc (.cells #[.int .i64 o, .int .i64 n, .string s, .slice ka kl kc, .slice ma ml mc] 38)) := two_boxes w _ _
  have hsz : ((w.alloc (.cells #[] 212)).alloc (.cells #[.int .i64 o, .int .i64 n, .string s, .slice ka kl kc, .slice ma ml mc] 38)).heap.size = w.heap.size + 2 := by simp
  have hArg : ((w.alloc (.cells #[] 212)).alloc (.cells #[.int .i64 o, .int .i64 n, .string s, .slice ka kl kc, .slice ma ml mc] 38)).heap[w.heap.size + 1]? = some (.cells #[.int .i64 o, .int .i64 n, .string s, .slice ka kl kc, .slice ma ml mc] 38 (0, 0)) := by
    have := heap_alloc_new (w.alloc (.cells #[] 212)) (.cells #[.int .i64 o, .int .i64 n, .string s, .slice ka kl kc, .slice ma ml mc] 38)
    rw [World.size_alloc] at this
    exact this
  have HA := Lib.hid hA
  have HArg := Lib.hid hArg
  have H := Lib.hid (h.kept (same_of_below hA))
  have e0 := (hev.kept hA).2.1
  clear h hev hA hArg
  go_enter Tryz.func275, Tryz.ntmps275
  go_wp2_with fail
  generalize hW0 : ((w.alloc (.cells #[] 212)).alloc (.cells #[.int .i64 o, .int .i64 n, .string s, .slice ka kl kc, .slice ma ml mc] 38)) = W0 at *
  clear hW0
  go_loopw [17] (fun i wr => ∃ k : Nat, k ≤ nl ∧ i = .int .i64 k ∧ Hid (varV (ns.drop k) s = varV ns s) ∧ Below W0.heap.size W0 wr) (fun i _ => nl - (intOf i).toNat)
  case atStart => exact ⟨0, Nat.zero_le _, rfl, by show _ = _; rw [List.drop_zero], Below.refl _ _⟩
  case round =>
    clear e0
    obtain ⟨k, hk, rfl, hs, hb⟩ := hrel
    have argr := (hb.block (w.heap.size + 1) (by omega)).trans HArg.out
    have ca2 : wr.cell? ⟨w.heap.size + 1, 2, none⟩ = some (Value.string s) := by rw [Lib.cell_of_heap argr]; rfl
    clear argr
    have HB := Lib.hid hb
    rcases Nat.lt_or_ge k nl with hlt | hge
    · obtain ⟨hln, hc | ⟨b, off, rfl, -, hbl, hrow⟩⟩ := H.out.kept (same_of_below (N := All) hb)
      · omega
      obtain ⟨y0, y1⟩ := hrow k hlt
      have hV := varV_drop (s := s) (show k < ns.length by omega)
      have k1 : (k : Int) < nl := by omega
      have k0 : (0 : Int) ≤ k := by omega
      clear hrow hbl hb
      generalize (ns.getD k (⟨#[]⟩, 0)).1 = nm at *
      generalize (ns.getD k (⟨#[]⟩, 0)).2 = v at *
      have hXB : Below wr.heap.size wr (wr.alloc (.cells #[.string nm, .int .i64 v] 65)) := (Below.refl _ _).alloc (Nat.le_refl _) _
      have HXB := Lib.hid (HB.out.trans (hXB.mono HB.out.size))
      have cb2 := (hXB.cell (p := ⟨w.heap.size + 1, 2, none⟩) (show w.heap.size + 1 < wr.heap.size from by have := HB.out.size; omega)).trans ca2
      clear hXB ca2
      by_cases e : nm = s
      · have z := nm_eq e
        have zd : decide (nm = s) = true := decide_eq_true e
        rw [if_pos e] at hV
        have HV : Hid (varV ns s = orB v (okB v)) := by show _ = _; rw [← hs.out, hV]; rfl
        have hC := Lib.hid (fun W => (implMoneyOk v W).mono fun e w' h => And.intro h.1 h.2.symm)
        have hO := Lib.hid (fun W => implOrBig v (okB v) W)
        clear e hV hs
        rw [HV.out]
        generalize orB v (okB v) = r at *
        generalize okB v = bv at *
        obtain ⟨r1, r2⟩ := r
        dsimp only at *
        go_wp2_with fail
        go_quiet (first | (go_at_call 49; exact Calls.quiet_of_same (hC.out _)) | (go_at_call 277; exact Calls.quiet_of_same (hO.out _)))
        go_wp2
        go_ret2
        exact ⟨rfl, HA.out.trans ((HXB.out.trans ((belowN (Below.refl _ _) nq).mono HXB.out.size)).mono HA.out.size)⟩
      · have z := nm_neq e
        have zd : decide (nm = s) = false := decide_eq_false e
        rw [if_neg e] at hV
        have HV := Lib.hid hV
        clear e hV
        go_wp2
        go_roundw
        case rel => exact ⟨k + 1, by omega, by go_num, by show _ = _; rw [← hs.out, HV.out], HXB.out⟩
        case measure => simp [intOf]; omega
    · obtain rfl : k = nl := by omega
      have HE : Hid (varV ns s = (0, 4)) := by
        have := hs.out
        rw [List.drop_of_length_le (by have := H.out.1; omega), varV] at this
        exact this.symm
      go_wp2
      go_ret2
      exact ⟨by rw [HE.out]; rfl, HA.out.trans (HB.out.mono HA.out.size)⟩
set_option maxRecDepth 20000 in
set_option maxHeartbeats 8000000 in
theorem saysPart (o n : Int) (s : ByteArray) (ka : Option Addr) (kl kc : Nat) (ma : Option Addr) (ml mc : Nat) (p : Value) (w : World) (b off len cp : Nat) (hl : 2 < len) (x y z : Int) (hb : b < w.heap.size) (hx : w.cell? ⟨b, off, none⟩ = some (.int .i64 x)) (hy : w.cell? ⟨b, off + 1, none⟩ = some (.int .i64 y)) (hz : w.cell? ⟨b, off + 2, none⟩ = some (.int .i64 z)) :
    Calls Tryz.prog 287 #[.agg #[], p, .agg #[.int .i64 o, .int .i64 n, .string s, .slice ka kl kc, .slice ma ml mc], .slice (some ⟨b, off, none⟩) len cp] w (SaysP (partW x y z) w) := by
  have hA : Below w.heap.size w ((w.alloc (.cells #[] 220)).alloc (.cells #[.int .i64 o, .int .i64 n, .string s, .slice ka kl kc, .slice ma ml mc] 38)) := two_boxes w _ _
  have hsz : ((w.alloc (.cells #[] 220)).alloc (.cells #[.int .i64 o, .int .i64 n, .string s, .slice ka kl kc, .slice ma ml mc] 38)).heap.size = w.heap.size + 2 := by simp
  have hArg : ((w.alloc (.cells #[] 220)).alloc (.cells #[.int .i64 o, .int .i64 n, .string s, .slice ka kl kc, .slice ma ml mc] 38)).heap[w.heap.size + 1]? = some (.cells #[.int .i64 o, .int .i64 n, .string s, .slice ka kl kc, .slice ma ml mc] 38 (0, 0)) := by
    have := heap_alloc_new (w.alloc (.cells #[] 220)) (.cells #[.int .i64 o, .int .i64 n, .string s, .slice ka kl kc, .slice ma ml mc] 38)
    rw [World.size_alloc] at this
    exact this
  have HA := Lib.hid hA
  have HArg := Lib.hid hArg
  have x0 := (hA.cell (p := ⟨b, off, none⟩) hb).trans hx
  have x1 := (hA.cell (p := ⟨b, off + 1, none⟩) hb).trans hy
  have x2 := (hA.cell (p := ⟨b, off + 2, none⟩) hb).trans hz
  have l0 : (0 : Int) < len := by omega
  have l1 : (1 : Int) < len := by omega
  have l2 : (2 : Int) < len := by omega
  have l0n : 0 < len := by omega
  clear hA hx hy hz hArg
  by_cases c : z = 0
  · have bz : (z == 0) = true := by simpa using c
    rw [show partW x y z = (0, 3) from by rw [partW, if_pos c]]
    clear c
    go_enter Tryz.func287, Tryz.ntmps287
    go_wp2
    go_ret2
    exact ⟨rfl, HA.out⟩
  · have bz : (z == 0) = false := by simpa using c
    rw [show partW x y z = orB (partV x y z) (partOk x y z) from by rw [partW, if_neg c]]
    have hC := Lib.hid (fun W => implMoneyPart x y z W)
    have hO := Lib.hid (fun W => implOrBig (partV x y z) (partOk x y z) W)
    generalize orB (partV x y z) (partOk x y z) = r at *
    generalize partV x y z = pv at *
    generalize partOk x y z = po at *
    obtain ⟨r1, r2⟩ := r
    dsimp only at *
    clear c
    go_enter Tryz.func287, Tryz.ntmps287
    go_wp2_with fail
    go_quiet (first | (go_at_call 289; exact Calls.quiet_of (hC.out _)) | (go_at_call 277; exact Calls.quiet_of_same (hO.out _)))
    go_wp2
    go_ret2
    exact ⟨rfl, HA.out.trans ((belowN (Below.refl _ _) nq).mono HA.out.size)⟩
theorem tiersB (x : Int) (ms : List (Int × Int)) (ma : Option Addr) (mc : Nat) (hx : okB x = true) (hm : MOk (mF ms) (mP ms) ms.length) (hl : ms.length ≤ 5) (w : World) (h : MarksN All w ma ms.length ms) :
    Calls Tryz.prog 304 #[.int .i64 x, .slice ma ms.length mc] w fun e w' => e = .returned (.tuple #[.int .i64 (if 0 ≤ x ∧ tSum (mF ms) (mP ms) ms.length x ms.length ≤ 1000000000000 then tSum (mF ms) (mP ms) ms.length x ms.length else 0), .bool (decide (0 ≤ x ∧ tSum (mF ms) (mP ms) ms.length x ms.length ≤ 1000000000000))]) ∧ Below w.heap.size w w' := by
  refine (implTiersOf x ma ms.length mc (mF ms) (mP ms) w (marks_of_N h) (by omega)).mono ?_
  rintro e w' ⟨y, b, rfl, hy, hb⟩
  refine ⟨?_, hb⟩
  have lx := okB_yes hx
  rcases hy with ⟨rfl, hT, rfl⟩ | ⟨rfl, hT, rfl⟩
  · rw [if_pos ⟨hT.1.1, hT.2.2⟩, decide_eq_true (show _ ∧ _ from ⟨hT.1.1, hT.2.2⟩)]
  · have hn : ¬ (0 ≤ x ∧ tSum (mF ms) (mP ms) ms.length x ms.length ≤ 1000000000000) := fun hh => hT ⟨⟨hh.1, lx.2⟩, hm, hh.2⟩
    rw [if_neg hn, decide_eq_false hn]
theorem tier_orB (x : Int) (ms : List (Int × Int)) : orB (if 0 ≤ x ∧ tSum (mF ms) (mP ms) ms.length x ms.length ≤ 1000000000000 then tSum (mF ms) (mP ms) ms.length x ms.length else 0) (decide (0 ≤ x ∧ tSum (mF ms) (mP ms) ms.length x ms.length ≤ 1000000000000)) = tierV ms x := by
  unfold tierV
  by_cases c : x < 0
  · rw [if_pos c, decide_eq_false (by omega)]; rfl
  · rw [if_neg c]
    by_cases d : tSum (mF ms) (mP ms) ms.length x ms.length ≤ 1000000000000
    · rw [if_pos ⟨by omega, d⟩, decide_eq_true (show _ ∧ _ from ⟨by omega, d⟩), decide_eq_true d]
    · rw [if_neg (fun h => d h.2), decide_eq_false (fun h => d h.2), decide_eq_false d]; rfl
set_option maxRecDepth 20000 in
set_option maxHeartbeats 8000000 in
theorem saysTiers (o n : Int) (s : ByteArray) (ka : Option Addr) (kl kc : Nat) (ma : Option Addr) (ml mc : Nat) (p : Value) (w : World) (b off len cp : Nat) (hl : 0 < len) (x : Int) (ms : List (Int × Int)) (hb : b < w.heap.size) (hx : w.cell? ⟨b, off, none⟩ = some (.int .i64 x)) (ax : okB x = true) (hm : MOk (mF ms) (mP ms) ms.length) (hm5 : ms.length ≤ 5) (hml : ml = ms.length) (hms : MarksN All w ma ms.length ms) :
    Calls Tryz.prog 301 #[.agg #[], p, .agg #[.int .i64 o, .int .i64 n, .string s, .slice ka kl kc, .slice ma ml mc], .slice (some ⟨b, off, none⟩) len cp] w (SaysP (tierV ms x) w) := by
  have hA : Below w.heap.size w ((w.alloc (.cells #[] 224)).alloc (.cells #[.int .i64 o, .int .i64 n, .string s, .slice ka kl kc, .slice ma ml mc] 38)) := two_boxes w _ _
  have hsz : ((w.alloc (.cells #[] 224)).alloc (.cells #[.int .i64 o, .int .i64 n, .string s, .slice ka kl kc, .slice ma ml mc] 38)).heap.size = w.heap.size + 2 := by simp
  have hArg : ((w.alloc (.cells #[] 224)).alloc (.cells #[.int .i64 o, .int .i64 n, .string s, .slice ka kl kc, .slice ma ml mc] 38)).heap[w.heap.size + 1]? = some (.cells #[.int .i64 o, .int .i64 n, .string s, .slice ka kl kc, .slice ma ml mc] 38 (0, 0)) := by
    have := heap_alloc_new (w.alloc (.cells #[] 224)) (.cells #[.int .i64 o, .int .i64 n, .string s, .slice ka kl kc, .slice ma ml mc] 38)
    rw [World.size_alloc] at this
    exact this
  have HA := Lib.hid hA
  have HArg := Lib.hid hArg
  subst hml
  have x0 := (hA.cell (p := ⟨b, off, none⟩) hb).trans hx
  have ca4 : ((w.alloc (.cells #[] 224)).alloc (.cells #[.int .i64 o, .int .i64 n, .string s, .slice ka kl kc, .slice ma ms.length mc] 38)).cell? ⟨w.heap.size + 1, 4, none⟩ = some (Value.slice ma ms.length mc) := by rw [Lib.cell_of_heap HArg.out]; rfl
  have l0 : (0 : Int) < len := by omega
  have HM := Lib.hid (hms.kept (same_of_below hA))
  rw [← tier_orB]
  have hT : Hid (∀ W, MarksN All W ma ms.length ms → _) := fun W hW => tiersB x ms ma mc ax hm hm5 W hW
  have hO := Lib.hid (fun W => implOrBig (if 0 ≤ x ∧ tSum (mF ms) (mP ms) ms.length x ms.length ≤ 1000000000000 then tSum (mF ms) (mP ms) ms.length x ms.length else 0) (decide (0 ≤ x ∧ tSum (mF ms) (mP ms) ms.length x ms.length ≤ 1000000000000)) W)
  clear hA hx hArg hm hms
  generalize (if 0 ≤ x ∧ tSum (mF ms) (mP ms) ms.length x ms.length ≤ 1000000000000 then tSum (mF ms) (mP ms) ms.length x ms.length else 0) = tv at *
  generalize (decide (0 ≤ x ∧ tSum (mF ms) (mP ms) ms.length x ms.length ≤ 1000000000000)) = tb at *
  generalize orB tv tb = r at *
  obtain ⟨r1, r2⟩ := r
  dsimp only at *
  go_enter Tryz.func301, Tryz.ntmps301
  go_wp2_with fail
  generalize hW0 : ((w.alloc (.cells #[] 224)).alloc (.cells #[.int .i64 o, .int .i64 n, .string s, .slice ka kl kc, .slice ma ms.length mc] 38)) = W0 at *
  clear hW0
  have cT : ∀ dd os, Calls Tryz.prog 304 #[.int .i64 x, .slice ma ms.length mc] (Go.Sort.grow (redrawn W0 dd) os) fun e w'' => e = .returned (.tuple #[.int .i64 tv, .bool tb]) ∧ ∃ p : Regrown, w'' = Go.Sort.grow (redrawn W0 p.d) p.os := fun dd os => Calls.regrown_of (hT.out _ (HM.out.kept (same_of_below (below_regrown W0 dd os))))
  have cO : ∀ dd os, Calls Tryz.prog 277 #[.int .i64 tv, .bool tb] (Go.Sort.grow (redrawn W0 dd) os) fun e w'' => e = .returned (.tuple #[.int .i64 r1, .int .i64 r2]) ∧ ∃ p : Regrown, w'' = Go.Sort.grow (redrawn W0 p.d) p.os := fun dd os => Calls.regrown_of ((hO.out (Go.Sort.grow (redrawn W0 dd) os)).mono fun e w' h => ⟨h.1, h.2 ▸ Below.refl _ _⟩)
  have q0 := cell_regrown x0
  have q4 := cell_regrown ca4
  clear hsz
  refine wp_region_quiet_below (by kernel_rfl) (by kernel_rfl) ?_
  repeat (quiet_step (first | (go_at_call 304; exact cT _ _) | (go_at_call 277; exact cO _ _)))
  refine wpQuiet_nil ?_
  intro _ hw'
  obtain ⟨⟨dq, osq⟩, hw''⟩ := hw'
  subst hw''
  go_wp2
  go_ret2
  exact ⟨rfl, HA.out.trans ((below_regrown W0 dq osq).mono HA.out.size)⟩
set_option maxHeartbeats 4000000 in
theorem takeNo (k fu : Int) (eb : Nat) (na : Option Addr) (nl nc : Nat) (w : World) (h : fu < k) (hev : Ev w eb na nl nc fu) :
    Calls Tryz.prog 123 #[.pointer (some ⟨eb, 0, none⟩), .int .i64 k] w fun e w' => e = .returned (.bool false) ∧ w' = w := by
  have z : decide (fu < k) = true := decide_eq_true h
  obtain ⟨h1, h2, h3, h4⟩ := hev
  go_enter Tryz.func123, Tryz.ntmps123
  go_wp2
  go_ret
  exact ⟨rfl, rfl⟩
set_option maxHeartbeats 4000000 in
theorem takeYes (k fu : Int) (eb : Nat) (na : Option Addr) (nl nc : Nat) (w : World) (h : k ≤ fu) (k0 : 0 ≤ k) (f1 : fu ≤ 1000) (hev : Ev w eb na nl nc fu) :
    Calls Tryz.prog 123 #[.pointer (some ⟨eb, 0, none⟩), .int .i64 k] w fun e w' => e = .returned (.bool true) ∧ Ev w' eb na nl nc (fu - k) ∧ w.grownBy w' (some eb) := by
  have z : decide (fu < k) = false := decide_eq_false (by omega)
  have e1 : IntKind.i64.wrap (fu - k) = fu - k := IntWalk.i64_in _ (by omega)
  have HE := Lib.hid (hev.set (g := fu - k))
  have HG := Lib.hid (grown_set w ⟨eb, 1, none⟩ (.int .i64 (fu - k)))
  obtain ⟨h1, h2, h3, h4⟩ := hev
  go_enter Tryz.func123, Tryz.ntmps123
  go_wp2
  go_ret
  exact ⟨rfl, HE.out, HG.out⟩
end Go.Proofs.YtemjooejfmkkbaaGreatDoor

namespace Go.Proofs.YtemjooejfmkkbaaGreatDoor
open Go.RowKit
set_option linter.unusedVariables false
set_option linter.unusedSimpArgs false

theorem nil_says (o : Int) (h : 1 ≤ o ∧ o ≤ 10) (w : World) : (nilAhead 419 (opT o) (.agg #[]) "loop.example/stopover/impl.says").run Tryz.prog w = .ok (some false) w := by
  rcases ops10 h with rfl | rfl | rfl | rfl | rfl | rfl | rfl | rfl | rfl | rfl <;> kernel_rfl
theorem saysAll (o n : Int) (s : ByteArray) (ka : Option Addr) (kl kc : Nat) (ma : Option Addr) (mc : Nat) (ms : List (Int × Int)) (ns : List (ByteArray × Int)) (eb : Nat) (fu : Int) (na : Option Addr) (nl nc : Nat) (a : Option Addr) (m cp : Nat) (vs : List Int) (w : World)
    (h9 : o ≠ 9) (hin : 1 ≤ o ∧ o ≤ 10) (hH : HoldsN o n s ms) (hlk : (vs.length : Int) = kidsN o) (hv : ∀ x ∈ vs, okB x = true) (hi : IntsN All w a m vs) (hm : MarksN All w ma ms.length ms) (hm5 : ms.length ≤ 5) (hp : PairsN All w na nl ns) (hl : nl ≤ 1048576) (hev : Ev w eb na nl nc fu) :
    Calls Tryz.prog (saysF o) #[.agg #[], .pointer (some ⟨eb, 0, none⟩), .agg #[.int .i64 o, .int .i64 n, .string s, .slice ka kl kc, .slice ma ms.length mc], .slice a m cp] w (SaysP (doR ns o n s ms vs) w) := by
  have hml := hi.1
  rcases ops10 hin with rfl | rfl | rfl | rfl | rfl | rfl | rfl | rfl | rfl | rfl
  · exact saysNum _ n s ka kl kc ma ms.length mc _ w _
  · exact saysVar _ n s ka kl kc ma ms.length mc ns eb fu na nl nc _ w hp hl hev
  · have e : kidsN 3 = 2 := rfl
    have l2 : 1 < m := by omega
    obtain ⟨b, off, rfl, hb, hcs⟩ := hi.cells (by omega)
    exact saysAdd _ n s ka kl kc ma ms.length mc _ w b off m cp l2 (vs.getD 0 0) (vs.getD 1 0) hb (hcs 0 (by omega)) (hcs 1 l2) (getD_ok hv 0) (getD_ok hv 1)
  · have e : kidsN 4 = 2 := rfl
    have l2 : 1 < m := by omega
    obtain ⟨b, off, rfl, hb, hcs⟩ := hi.cells (by omega)
    exact saysSub _ n s ka kl kc ma ms.length mc _ w b off m cp l2 (vs.getD 0 0) (vs.getD 1 0) hb (hcs 0 (by omega)) (hcs 1 l2) (getD_ok hv 0) (getD_ok hv 1)
  · have e : kidsN 5 = 2 := rfl
    have l2 : 1 < m := by omega
    obtain ⟨b, off, rfl, hb, hcs⟩ := hi.cells (by omega)
    exact saysMul _ n s ka kl kc ma ms.length mc _ w b off m cp l2 (vs.getD 0 0) (vs.getD 1 0) hb (hcs 0 (by omega)) (hcs 1 l2) (getD_ok hv 0) (getD_ok hv 1)
  · have e : kidsN 6 = 3 := rfl
    have l3 : 2 < m := by omega
    obtain ⟨b, off, rfl, hb, hcs⟩ := hi.cells (by omega)
    exact saysPart _ n s ka kl kc ma ms.length mc _ w b off m cp l3 (vs.getD 0 0) (vs.getD 1 0) (vs.getD 2 0) hb (hcs 0 (by omega)) (hcs 1 (by omega)) (hcs 2 l3)
  · have e : kidsN 7 = 2 := rfl
    have l2 : 1 < m := by omega
    obtain ⟨b, off, rfl, hb, hcs⟩ := hi.cells (by omega)
    exact saysMin _ n s ka kl kc ma ms.length mc _ w b off m cp l2 (vs.getD 0 0) (vs.getD 1 0) hb (hcs 0 (by omega)) (hcs 1 l2) (getD_ok hv 0) (getD_ok hv 1)
  · have e : kidsN 8 = 2 := rfl
    have l2 : 1 < m := by omega
    obtain ⟨b, off, rfl, hb, hcs⟩ := hi.cells (by omega)
    exact saysMax _ n s ka kl kc ma ms.length mc _ w b off m cp l2 (vs.getD 0 0) (vs.getD 1 0) hb (hcs 0 (by omega)) (hcs 1 l2) (getD_ok hv 0) (getD_ok hv 1)
  · exact absurd rfl h9
  · have e : kidsN 10 = 1 := rfl
    have l1 : 0 < m := by omega
    obtain ⟨b, off, rfl, hb, hcs⟩ := hi.cells (by omega)
    have hmo : MOk (mF ms) (mP ms) ms.length := by unfold HoldsN at hH; rw [if_neg (by decide), if_neg (by decide), if_pos rfl] at hH; exact hH.2.2
    exact saysTiers _ n s ka kl kc ma ms.length mc _ w b off m cp l1 (vs.getD 0 0) ms hb (hcs 0 l1) (getD_ok hv 0) hmo hm5 rfl hm
set_option maxRecDepth 20000 in
set_option maxHeartbeats 8000000 in
theorem saysIf (ns : List (ByteArray × Int)) (n : Int) (s : ByteArray) (ks : List Tr) (ka : Option Addr) (kc : Nat) (ma : Option Addr) (ml mc : Nat) (vs : List Int) (a : Option Addr) (cp : Nat) (eb : Nat) (fr : Int) (na : Option Addr) (nl nc : Nat) (w : World)
    (ih : ∀ t ∈ ks, EvAt 101 ns t) (h4 : ks.length = 4) (hk : RowsT (fun b => b ≠ eb) w ka ks.length ks) (hoks : ∀ t ∈ ks, OkP t) (hi : IntsN (fun b => b ≠ eb) w a 2 vs) (hev : Ev w eb na nl nc fr) (hp : PairsN (fun b => b ≠ eb) w na nl ns) (hnl : nl ≤ 1048576) (f0 : 0 ≤ fr) (f1 : fr ≤ 1000) (sv : Said)
    (hsv : sv = (if vs.getD 0 0 < vs.getD 1 0 then (ks.map (evalT ns)).getD 2 noSaid else (ks.map (evalT ns)).getD 3 noSaid) fr) :
    Calls Tryz.prog 297 #[.agg #[], .pointer (some ⟨eb, 0, none⟩), .agg #[.int .i64 9, .int .i64 n, .string s, .slice ka ks.length kc, .slice ma ml mc], .slice a 2 cp] w
      fun e w' => e = .returned (.tuple #[.int .i64 sv.v, .int .i64 sv.c]) ∧ Hid (sv.c = 0 → Ev w' eb na nl nc sv.f) ∧ w.grownBy w' (some eb) := by
  have HSV0 := Lib.hid hsv
  have heb := hev.1
  obtain ⟨b, offk, rfl, hbn, hblk, hrow⟩ := hk.cells (by omega)
  have hA : Below w.heap.size w ((w.alloc (.cells #[] 223)).alloc (.cells #[.int .i64 9, .int .i64 n, .string s, .slice (some ⟨b, offk, none⟩) ks.length kc, .slice ma ml mc] 38)) := two_boxes w _ _
  have hsz : ((w.alloc (.cells #[] 223)).alloc (.cells #[.int .i64 9, .int .i64 n, .string s, .slice (some ⟨b, offk, none⟩) ks.length kc, .slice ma ml mc] 38)).heap.size = w.heap.size + 2 := by simp
  have hArg : ((w.alloc (.cells #[] 223)).alloc (.cells #[.int .i64 9, .int .i64 n, .string s, .slice (some ⟨b, offk, none⟩) ks.length kc, .slice ma ml mc] 38)).heap[w.heap.size + 1]? = some (.cells #[.int .i64 9, .int .i64 n, .string s, .slice (some ⟨b, offk, none⟩) ks.length kc, .slice ma ml mc] 38 (0, 0)) := by
    have := heap_alloc_new (w.alloc (.cells #[] 223)) (.cells #[.int .i64 9, .int .i64 n, .string s, .slice (some ⟨b, offk, none⟩) ks.length kc, .slice ma ml mc] 38)
    rw [World.size_alloc] at this
    exact this
  have HA := Lib.hid hA
  have HArg := Lib.hid hArg
  have HK := Lib.hid (hk.kept (same_of_below hA))
  have HI := Lib.hid (hi.kept (same_of_below hA))
  have HEV := Lib.hid (hev.kept hA)
  have HP := Lib.hid (hp.kept (same_of_below hA))
  have IH := Lib.hid ih
  have HOKS := Lib.hid hoks
  have H4 := Lib.hid h4
  clear hsv hA hArg hk hi hev hp ih hoks hrow hblk h4
  go_enter Tryz.func297, Tryz.ntmps297
  go_wp2_with fail
  generalize hW0 : ((w.alloc (.cells #[] 223)).alloc (.cells #[.int .i64 9, .int .i64 n, .string s, .slice (some ⟨b, offk, none⟩) ks.length kc, .slice ma ml mc] 38)) = W0 at *
  clear hW0
  obtain ⟨bb, off, rfl, hbl, hcs⟩ := HI.out.cells (by omega)
  have x0 := hcs 0 (by omega)
  rw [Nat.add_zero] at x0
  have x1 := hcs 1 (by omega)
  have ca3 : W0.cell? ⟨w.heap.size + 1, 3, none⟩ = some (Value.slice (some ⟨b, offk, none⟩) ks.length kc) := by rw [Lib.cell_of_heap HArg.out]; rfl
  clear hcs
  obtain ⟨k0, k1, k2, k3, rfl⟩ := four H4.out
  obtain ⟨b', offk', hbe, -, hblk, hrow⟩ := HK.out.cells (by simp)
  obtain ⟨rfl, rfl⟩ : b = b' ∧ offk = offk' := by simpa using hbe
  obtain ⟨g2, c2, t2⟩ := hrow 2 (by simp)
  obtain ⟨g3, c3, t3⟩ := hrow 3 (by simp)
  have hgd2 : ([k0, k1, k2, k3].map (evalT ns)).getD 2 noSaid = evalT ns k2 := rfl
  have hgd3 : ([k0, k1, k2, k3].map (evalT ns)).getD 3 noSaid = evalT ns k3 := rfl
  rw [hgd2, hgd3] at HSV0
  have T2 := Lib.hid t2
  have T3 := Lib.hid t3
  have FV : Hid (0 ≤ fr ∧ fr ≤ 1000) := ⟨f0, f1⟩
  have J2 : Hid (∀ m, Calls Tryz.prog 101 #[.pointer (some ⟨eb, 0, none⟩), g2.val] (W0.drewN m) (EvP ns k2 fr eb na nl nc (W0.drewN m))) := fun m => IH.out k2 (by simp) g2 eb _ na nl nc _ (T2.out.kept (same_of_below (belowN (Below.refl _ _) m))) (HOKS.out k2 (by simp)) (HEV.out.kept (belowN (Below.refl _ _) m)) (HP.out.kept (same_of_below (belowN (Below.refl _ _) m))) hnl FV.out.1 FV.out.2
  have J3 : Hid (∀ m, Calls Tryz.prog 101 #[.pointer (some ⟨eb, 0, none⟩), g3.val] (W0.drewN m) (EvP ns k3 fr eb na nl nc (W0.drewN m))) := fun m => IH.out k3 (by simp) g3 eb _ na nl nc _ (T3.out.kept (same_of_below (belowN (Below.refl _ _) m))) (HOKS.out k3 (by simp)) (HEV.out.kept (belowN (Below.refl _ _) m)) (HP.out.kept (same_of_below (belowN (Below.refl _ _) m))) hnl FV.out.1 FV.out.2
  generalize vs.getD 0 0 = v0 at *
  generalize vs.getD 1 0 = v1 at *
  have hl4 : ([k0, k1, k2, k3] : List Tr).length = 4 := rfl
  clear hrow t2 t3 hbe f0 f1 hgd2 hgd3
  rcases Int.lt_or_le v0 v1 with c | c
  · have z : decide (v0 < v1) = true := decide_eq_true c
    have HSV : Hid (sv = evalT ns k2 fr) := by show _ = _; rw [HSV0.out, if_pos c]
    obtain ⟨y0, y1, y2, y3, y4⟩ : CellsF W0 b (offk + 10) g2 := c2
    clear c c3
    unfold EvP at J2
    generalize evalT ns k2 fr = s2 at *
    obtain ⟨vv, vc, vf⟩ := s2
    dsimp only at *
    go_quiet (fail)
    go_wp2_with fail
    refine (J2.out _).mono ?_
    rintro e w3 ⟨rfl, hev3, hg3⟩
    go_wp2
    go_ret2
    refine ⟨?_, fun h => ?_, grown_trans (grown_any HA.out) (grown_trans (grown_any (belowN (Below.refl _ _) nq)) hg3)⟩
    · show Ending.returned (.tuple #[.int .i64 vv, .int .i64 vc]) = _
      rw [HSV.out]
    · rw [HSV.out] at h ⊢; exact hev3.out h
  · have z : decide (v0 < v1) = false := decide_eq_false (by omega)
    have HSV : Hid (sv = evalT ns k3 fr) := by show _ = _; rw [HSV0.out, if_neg (by omega)]
    obtain ⟨y0, y1, y2, y3, y4⟩ : CellsF W0 b (offk + 15) g3 := c3
    clear c c2
    unfold EvP at J3
    generalize evalT ns k3 fr = s2 at *
    obtain ⟨vv, vc, vf⟩ := s2
    dsimp only at *
    go_quiet (fail)
    go_wp2_with fail
    refine (J3.out _).mono ?_
    rintro e w3 ⟨rfl, hev3, hg3⟩
    go_wp2
    go_ret2
    refine ⟨?_, fun h => ?_, grown_trans (grown_any HA.out) (grown_trans (grown_any (belowN (Below.refl _ _) nq)) hg3)⟩
    · show Ending.returned (.tuple #[.int .i64 vv, .int .i64 vc]) = _
      rw [HSV.out]
    · rw [HSV.out] at h ⊢; exact hev3.out h
end Go.Proofs.YtemjooejfmkkbaaGreatDoor
