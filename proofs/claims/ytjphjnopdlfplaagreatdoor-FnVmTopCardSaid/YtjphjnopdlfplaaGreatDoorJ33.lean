/-
  What the program's ops say: names, parts, tiers; and how fuel is taken.
  What the program's ops say: all of the table; the op that picks a kid.
  What the program says of a rule.
-/
import Derived.Test.YtjphjnopdlfplaaGreatDoorJ32
import Derived.Test.YtjphjnopdlfplaaGreatDoorJ2
namespace Go.Proofs.YtjphjnopdlfplaaGreatDoor
open Go.RowKit
set_option linter.unusedVariables false
set_option linter.unusedSimpArgs false

set_option maxRecDepth 20000 in
set_option maxHeartbeats 8000000 in
theorem saysVar (o n : Int) (s : ByteArray) (ka : Option Addr) (kl kc : Nat) (ma : Option Addr) (ml mc : Nat) (ns : List (ByteArray × Int)) (eb : Nat) (fu : Int) (na : Option Addr) (nl nc : Nat) (v4 : Value) (w : World) (h : PairsN All w na nl ns) (hl : nl ≤ 1048576) (hev : Ev w eb na nl nc fu) :
    Calls Tryz.prog 156 #[.agg #[], .pointer (some ⟨eb, 0, none⟩), .agg #[.int .i64 o, .int .i64 n, .string s, .slice ka kl kc, .slice ma ml mc], v4] w (SaysP (varV ns s) w) := by
  have hA : Below w.heap.size w ((w.alloc (.cells #[] 147)).alloc (.cells #[.int .i64 o, .int .i64 n, .string s, .slice ka kl kc, .slice ma ml mc] 39)) := two_boxes w _ _
  have hsz : ((w.alloc (.cells #[] 147)).alloc (.cells #[.int .i64 o, .int .i64 n, .string s, .slice ka kl kc, .slice ma ml mc] 39)).heap.size = w.heap.size + 2 := by simp
  have hArg : ((w.alloc (.cells #[] 147)).alloc (.cells #[.int .i64 o, .int .i64 n, .string s, .slice ka kl kc, .slice ma ml mc] 39)).heap[w.heap.size + 1]? = some (.cells #[.int .i64 o, .int .i64 n, .string s, .slice ka kl kc, .slice ma ml mc] 39 (0, 0)) := by
    have := heap_alloc_new (w.alloc (.cells #[] 147)) (.cells #[.int .i64 o, .int .i64 n, .string s, .slice ka kl kc, .slice ma ml mc] 39)
    rw [World.size_alloc] at this
    exact this
  have HA := Lib.hid hA
  have HArg := Lib.hid hArg
  have H := Lib.hid (h.kept (same_of_below hA))
  have e0 := (hev.kept hA).2.1
  clear h hev hA hArg
  go_enter Tryz.func156, Tryz.ntmps156
  go_wp2_with fail
  generalize hW0 : ((w.alloc (.cells #[] 147)).alloc (.cells #[.int .i64 o, .int .i64 n, .string s, .slice ka kl kc, .slice ma ml mc] 39)) = W0 at *
  clear hW0
  go_loopw [17] (fun i wr => ∃ k : Nat, k ≤ nl ∧ i = .int .i64 k ∧ Hid (varV (ns.drop k) s = varV ns s) ∧ Below W0.heap.size W0 wr) (fun i _ => nl - (intOf i).toNat)
  case atStart => exact ⟨0, Nat.zero_le _, rfl, by show _ = _; rw [List.drop_zero], Below.refl _ _⟩
  case round =>
    clear e0
    obtain ⟨k, hk, rfl, hs, hb⟩ := hrel
    have argr := (hb.block (w.heap.size + 1) (by omega)).trans HArg.out
    have ca2 : wr.cell? ⟨w.heap.size + 1, 2, none⟩ = some (Value.string s) := by rw [Lib.cell_of_heap argr]; rfl
    clear argr
    have HB := Lib.hid hb
    rcases Nat.lt_or_ge k nl with hlt | hge
    · obtain ⟨hln, hc | ⟨b, off, rfl, -, hbl, hrow⟩⟩ := H.out.kept (same_of_below (N := All) hb)
      · omega
      obtain ⟨y0, y1⟩ := hrow k hlt
      have hV := varV_drop (s := s) (show k < ns.length by omega)
      have k1 : (k : Int) < nl := by omega
      have k0 : (0 : Int) ≤ k := by omega
      clear hrow hbl hb
      generalize (ns.getD k (⟨#[]⟩, 0)).1 = nm at *
      generalize (ns.getD k (⟨#[]⟩, 0)).2 = v at *
      have hXB : Below wr.heap.size wr (wr.alloc (.cells #[.string nm, .int .i64 v] 67)) := (Below.refl _ _).alloc (Nat.le_refl _) _
      have HXB := Lib.hid (HB.out.trans (hXB.mono HB.out.size))
      have cb2 := (hXB.cell (p := ⟨w.heap.size + 1, 2, none⟩) (show w.heap.size + 1 < wr.heap.size from by have := HB.out.size; omega)).trans ca2
      clear hXB ca2
      by_cases e : nm = s
      · have z := nm_eq e
        have zd : decide (nm = s) = true := decide_eq_true e
        rw [if_pos e] at hV
        have HV : Hid (varV ns s = orB v (okB v)) := by show _ = _; rw [← hs.out, hV]; rfl
        have hC := Lib.hid (fun W => (implMoneyOk v W).mono fun e w' h => And.intro h.1 h.2.symm)
        have hO := Lib.hid (fun W => implOrBig v (okB v) W)
        clear e hV hs
        rw [HV.out]
        generalize orB v (okB v) = r at *
        generalize okB v = bv at *
        obtain ⟨r1, r2⟩ := r
        dsimp only at *
        go_wp2_with fail
        go_quiet (first | (go_at_call 29; exact Calls.quiet_of_same (hC.out _)) | (go_at_call 158; exact Calls.quiet_of_same (hO.out _)))
        go_wp2
        go_ret2
        exact ⟨rfl, HA.out.trans ((HXB.out.trans ((belowN (Below.refl _ _) nq).mono HXB.out.size)).mono HA.out.size)⟩
      · have z := nm_neq e
        have zd : decide (nm = s) = false := decide_eq_false e
        rw [if_neg e] at hV
        have HV := Lib.hid hV
        clear e hV
        go_wp2
        go_roundw
        case rel => exact ⟨k + 1, by omega, by go_num, by show _ = _; rw [← hs.out, HV.out], HXB.out⟩
        case measure => simp [intOf]; omega
    · obtain rfl : k = nl := by omega
      have HE : Hid (varV ns s = (0, 4)) := by
        have := hs.out
        rw [List.drop_of_length_le (by have := H.out.1; omega), varV] at this
        exact this.symm
      go_wp2
      go_ret2
      exact ⟨by rw [HE.out]; rfl, HA.out.trans (HB.out.mono HA.out.size)⟩
set_option maxRecDepth 20000 in
set_option maxHeartbeats 8000000 in
theorem saysPart (o n : Int) (s : ByteArray) (ka : Option Addr) (kl kc : Nat) (ma : Option Addr) (ml mc : Nat) (p : Value) (w : World) (b off len cp : Nat) (hl : 2 < len) (x y z : Int) (hb : b < w.heap.size) (hx : w.cell? ⟨b, off, none⟩ = some (.int .i64 x)) (hy : w.cell? ⟨b, off + 1, none⟩ = some (.int .i64 y)) (hz : w.cell? ⟨b, off + 2, none⟩ = some (.int .i64 z)) :
    Calls Tryz.prog 168 #[.agg #[], p, .agg #[.int .i64 o, .int .i64 n, .string s, .slice ka kl kc, .slice ma ml mc], .slice (some ⟨b, off, none⟩) len cp] w (SaysP (partW x y z) w) := by
  have hA : Below w.heap.size w ((w.alloc (.cells #[] 155)).alloc (.cells #[.int .i64 o, .int .i64 n, .string s, .slice ka kl kc, .slice ma ml mc] 39)) := two_boxes w _ _
  have hsz : ((w.alloc (.cells #[] 155)).alloc (.cells #[.int .i64 o, .int .i64 n, .string s, .slice ka kl kc, .slice ma ml mc] 39)).heap.size = w.heap.size + 2 := by simp
  have hArg : ((w.alloc (.cells #[] 155)).alloc (.cells #[.int .i64 o, .int .i64 n, .string s, .slice ka kl kc, .slice ma ml mc] 39)).heap[w.heap.size + 1]? = some (.cells #[.int .i64 o, .int .i64 n, .string s, .slice ka kl kc, .slice ma ml mc] 39 (0, 0)) := by
    have := heap_alloc_new (w.alloc (.cells #[] 155)) (.cells #[.int .i64 o, .int .i64 n, .string s, .slice ka kl kc, .slice ma ml mc] 39)
    rw [World.size_alloc] at this
    exact this
  have HA := Lib.hid hA
  have HArg := Lib.hid hArg
  have x0 := (hA.cell (p := ⟨b, off, none⟩) hb).trans hx
  have x1 := (hA.cell (p := ⟨b, off + 1, none⟩) hb).trans hy
  have x2 := (hA.cell (p := ⟨b, off + 2, none⟩) hb).trans hz
  have l0 : (0 : Int) < len := by omega
  have l1 : (1 : Int) < len := by omega
  have l2 : (2 : Int) < len := by omega
  have l0n : 0 < len := by omega
  clear hA hx hy hz hArg
  by_cases c : z = 0
  · have bz : (z == 0) = true := by simpa using c
    rw [show partW x y z = (0, 3) from by rw [partW, if_pos c]]
    clear c
    go_enter Tryz.func168, Tryz.ntmps168
    go_wp2
    go_ret2
    exact ⟨rfl, HA.out⟩
  · have bz : (z == 0) = false := by simpa using c
    rw [show partW x y z = orB (partV x y z) (partOk x y z) from by rw [partW, if_neg c]]
    have hC := Lib.hid (fun W => implMoneyPart x y z W)
    have hO := Lib.hid (fun W => implOrBig (partV x y z) (partOk x y z) W)
    generalize orB (partV x y z) (partOk x y z) = r at *
    generalize partV x y z = pv at *
    generalize partOk x y z = po at *
    obtain ⟨r1, r2⟩ := r
    dsimp only at *
    clear c
    go_enter Tryz.func168, Tryz.ntmps168
    go_wp2_with fail
    go_quiet (first | (go_at_call 170; exact Calls.quiet_of (hC.out _)) | (go_at_call 158; exact Calls.quiet_of_same (hO.out _)))
    go_wp2
    go_ret2
    exact ⟨rfl, HA.out.trans ((belowN (Below.refl _ _) nq).mono HA.out.size)⟩
theorem tiersB (x : Int) (ms : List (Int × Int)) (ma : Option Addr) (mc : Nat) (hx : okB x = true) (hm : MOk (mF ms) (mP ms) ms.length) (hl : ms.length ≤ 5) (w : World) (h : MarksN All w ma ms.length ms) :
    Calls Tryz.prog 185 #[.int .i64 x, .slice ma ms.length mc] w fun e w' => e = .returned (.tuple #[.int .i64 (if 0 ≤ x ∧ tSum (mF ms) (mP ms) ms.length x ms.length ≤ 1000000000000 then tSum (mF ms) (mP ms) ms.length x ms.length else 0), .bool (decide (0 ≤ x ∧ tSum (mF ms) (mP ms) ms.length x ms.length ≤ 1000000000000))]) ∧ Below w.heap.size w w' := by
  refine (implTiersOf x ma ms.length mc (mF ms) (mP ms) w (marks_of_N h) (by omega)).mono ?_
  rintro e w' ⟨y, b, rfl, hy, hb⟩
  refine ⟨?_, hb⟩
  have lx := okB_yes hx
  rcases hy with ⟨rfl, hT, rfl⟩ | ⟨rfl, hT, rfl⟩
  · rw [if_pos ⟨hT.1.1, hT.2.2⟩, decide_eq_true (show _ ∧ _ from ⟨hT.1.1, hT.2.2⟩)]
  · have hn : ¬ (0 ≤ x ∧ tSum (mF ms) (mP ms) ms.length x ms.length ≤ 1000000000000) := fun hh => hT ⟨⟨hh.1, lx.2⟩, hm, hh.2⟩
    rw [if_neg hn, decide_eq_false hn]
theorem tier_orB (x : Int) (ms : List (Int × Int)) : orB (if 0 ≤ x ∧ tSum (mF ms) (mP ms) ms.length x ms.length ≤ 1000000000000 then tSum (mF ms) (mP ms) ms.length x ms.length else 0) (decide (0 ≤ x ∧ tSum (mF ms) (mP ms) ms.length x ms.length ≤ 1000000000000)) = tierV ms x := by
  unfold tierV
  by_cases c : x < 0
  · rw [if_pos c, decide_eq_false (by omega)]; rfl
  · rw [if_neg c]
    by_cases d : tSum (mF ms) (mP ms) ms.length x ms.length ≤ 1000000000000
    · rw [if_pos ⟨by omega, d⟩, decide_eq_true (show _ ∧ _ from ⟨by omega, d⟩), decide_eq_true d]
    · rw [if_neg (fun h => d h.2), decide_eq_false (fun h => d h.2), decide_eq_false d]; rfl
set_option maxRecDepth 20000 in
set_option maxHeartbeats 8000000 in
theorem saysTiers (o n : Int) (s : ByteArray) (ka : Option Addr) (kl kc : Nat) (ma : Option Addr) (ml mc : Nat) (p : Value) (w : World) (b off len cp : Nat) (hl : 0 < len) (x : Int) (ms : List (Int × Int)) (hb : b < w.heap.size) (hx : w.cell? ⟨b, off, none⟩ = some (.int .i64 x)) (ax : okB x = true) (hm : MOk (mF ms) (mP ms) ms.length) (hm5 : ms.length ≤ 5) (hml : ml = ms.length) (hms : MarksN All w ma ms.length ms) :
    Calls Tryz.prog 182 #[.agg #[], p, .agg #[.int .i64 o, .int .i64 n, .string s, .slice ka kl kc, .slice ma ml mc], .slice (some ⟨b, off, none⟩) len cp] w (SaysP (tierV ms x) w) := by
  have hA : Below w.heap.size w ((w.alloc (.cells #[] 159)).alloc (.cells #[.int .i64 o, .int .i64 n, .string s, .slice ka kl kc, .slice ma ml mc] 39)) := two_boxes w _ _
  have hsz : ((w.alloc (.cells #[] 159)).alloc (.cells #[.int .i64 o, .int .i64 n, .string s, .slice ka kl kc, .slice ma ml mc] 39)).heap.size = w.heap.size + 2 := by simp
  have hArg : ((w.alloc (.cells #[] 159)).alloc (.cells #[.int .i64 o, .int .i64 n, .string s, .slice ka kl kc, .slice ma ml mc] 39)).heap[w.heap.size + 1]? = some (.cells #[.int .i64 o, .int .i64 n, .string s, .slice ka kl kc, .slice ma ml mc] 39 (0, 0)) := by
    have := heap_alloc_new (w.alloc (.cells #[] 159)) (.cells #[.int .i64 o, .int .i64 n, .string s, .slice ka kl kc, .slice ma ml mc] 39)
    rw [World.size_alloc] at this
    exact this
  have HA := Lib.hid hA
  have HArg := Lib.hid hArg
  subst hml
  have x0 := (hA.cell (p := ⟨b, off, none⟩) hb).trans hx
  have ca4 : ((w.alloc (.cells #[] 159)).alloc (.cells #[.int .i64 o, .int .i64 n, .string s, .slice ka kl kc, .slice ma ms.length mc] 39)).cell? ⟨w.heap.size + 1, 4, none⟩ = some (Value.slice ma ms.length mc) := by rw [Lib.cell_of_heap HArg.out]; rfl
  have l0 : (0 : Int) < len := by omega
  have HM := Lib.hid (hms.kept (same_of_below hA))
  rw [← tier_orB]
  have hT : Hid (∀ W, MarksN All W ma ms.length ms → _) := fun W hW => tiersB x ms ma mc ax hm hm5 W hW
  have hO := Lib.hid (fun W => implOrBig (if 0 ≤ x ∧ tSum (mF ms) (mP ms) ms.length x ms.length ≤ 1000000000000 then tSum (mF ms) (mP ms) ms.length x ms.length else 0) (decide (0 ≤ x ∧ tSum (mF ms) (mP ms) ms.length x ms.length ≤ 1000000000000)) W)
  clear hA hx hArg hm hms
  generalize (if 0 ≤ x ∧ tSum (mF ms) (mP ms) ms.length x ms.length ≤ 1000000000000 then tSum (mF ms) (mP ms) ms.length x ms.length else 0) = tv at *
  generalize (decide (0 ≤ x ∧ tSum (mF ms) (mP ms) ms.length x ms.length ≤ 1000000000000)) = tb at *
  generalize orB tv tb = r at *
  obtain ⟨r1, r2⟩ := r
  dsimp only at *
  go_enter Tryz.func182, Tryz.ntmps182
  go_wp2_with fail
  generalize hW0 : ((w.alloc (.cells #[] 159)).alloc (.cells #[.int .i64 o, .int .i64 n, .string s, .slice ka kl kc, .slice ma ms.length mc] 39)) = W0 at *
  clear hW0
  have cT : ∀ dd os, Calls Tryz.prog 185 #[.int .i64 x, .slice ma ms.length mc] (Go.Sort.grow (redrawn W0 dd) os) fun e w'' => e = .returned (.tuple #[.int .i64 tv, .bool tb]) ∧ ∃ p : Regrown, w'' = Go.Sort.grow (redrawn W0 p.d) p.os := fun dd os => Calls.regrown_of (hT.out _ (HM.out.kept (same_of_below (below_regrown W0 dd os))))
  have cO : ∀ dd os, Calls Tryz.prog 158 #[.int .i64 tv, .bool tb] (Go.Sort.grow (redrawn W0 dd) os) fun e w'' => e = .returned (.tuple #[.int .i64 r1, .int .i64 r2]) ∧ ∃ p : Regrown, w'' = Go.Sort.grow (redrawn W0 p.d) p.os := fun dd os => Calls.regrown_of ((hO.out (Go.Sort.grow (redrawn W0 dd) os)).mono fun e w' h => ⟨h.1, h.2 ▸ Below.refl _ _⟩)
  have q0 := cell_regrown x0
  have q4 := cell_regrown ca4
  clear hsz
  refine wp_region_quiet_below (by kernel_rfl) (by kernel_rfl) ?_
  repeat (quiet_step (first | (go_at_call 185; exact cT _ _) | (go_at_call 158; exact cO _ _)))
  refine wpQuiet_nil ?_
  intro _ hw'
  obtain ⟨⟨dq, osq⟩, hw''⟩ := hw'
  subst hw''
  go_wp2
  go_ret2
  exact ⟨rfl, HA.out.trans ((below_regrown W0 dq osq).mono HA.out.size)⟩
set_option maxHeartbeats 4000000 in
theorem takeNo (k fu : Int) (eb : Nat) (na : Option Addr) (nl nc : Nat) (w : World) (h : fu < k) (hev : Ev w eb na nl nc fu) :
    Calls Tryz.prog 68 #[.pointer (some ⟨eb, 0, none⟩), .int .i64 k] w fun e w' => e = .returned (.bool false) ∧ w' = w := by
  have z : decide (fu < k) = true := decide_eq_true h
  obtain ⟨h1, h2, h3, h4⟩ := hev
  go_enter Tryz.func68, Tryz.ntmps68
  go_wp2
  go_ret
  exact ⟨rfl, rfl⟩
set_option maxHeartbeats 4000000 in
theorem takeYes (k fu : Int) (eb : Nat) (na : Option Addr) (nl nc : Nat) (w : World) (h : k ≤ fu) (k0 : 0 ≤ k) (f1 : fu ≤ 1000) (hev : Ev w eb na nl nc fu) :
    Calls Tryz.prog 68 #[.pointer (some ⟨eb, 0, none⟩), .int .i64 k] w fun e w' => e = .returned (.bool true) ∧ Ev w' eb na nl nc (fu - k) ∧ w.grownBy w' (some eb) := by
  have z : decide (fu < k) = false := decide_eq_false (by omega)
  have e1 : IntKind.i64.wrap (fu - k) = fu - k := IntWalk.i64_in _ (by omega)
  have HE := Lib.hid (hev.set (g := fu - k))
  have HG := Lib.hid (grown_set w ⟨eb, 1, none⟩ (.int .i64 (fu - k)))
  obtain ⟨h1, h2, h3, h4⟩ := hev
  go_enter Tryz.func68, Tryz.ntmps68
  go_wp2
  go_ret
  exact ⟨rfl, HE.out, HG.out⟩
end Go.Proofs.YtjphjnopdlfplaaGreatDoor

namespace Go.Proofs.YtjphjnopdlfplaaGreatDoor
open Go.RowKit
set_option linter.unusedVariables false
set_option linter.unusedSimpArgs false

theorem nil_says (o : Int) (h : 1 ≤ o ∧ o ≤ 10) (w : World) : (nilAhead 313 (opT o) (.agg #[]) "loop.example/stopover/impl.says").run Tryz.prog w = .ok (some false) w := by
  rcases ops10 h with rfl | rfl | rfl | rfl | rfl | rfl | rfl | rfl | rfl | rfl <;> kernel_rfl
theorem saysAll (o n : Int) (s : ByteArray) (ka : Option Addr) (kl kc : Nat) (ma : Option Addr) (mc : Nat) (ms : List (Int × Int)) (ns : List (ByteArray × Int)) (eb : Nat) (fu : Int) (na : Option Addr) (nl nc : Nat) (a : Option Addr) (m cp : Nat) (vs : List Int) (w : World)
    (h9 : o ≠ 9) (hin : 1 ≤ o ∧ o ≤ 10) (hH : HoldsN o n s ms) (hlk : (vs.length : Int) = kidsN o) (hv : ∀ x ∈ vs, okB x = true) (hi : IntsN All w a m vs) (hm : MarksN All w ma ms.length ms) (hm5 : ms.length ≤ 5) (hp : PairsN All w na nl ns) (hl : nl ≤ 1048576) (hev : Ev w eb na nl nc fu) :
    Calls Tryz.prog (saysF o) #[.agg #[], .pointer (some ⟨eb, 0, none⟩), .agg #[.int .i64 o, .int .i64 n, .string s, .slice ka kl kc, .slice ma ms.length mc], .slice a m cp] w (SaysP (doR ns o n s ms vs) w) := by
  have hml := hi.1
  rcases ops10 hin with rfl | rfl | rfl | rfl | rfl | rfl | rfl | rfl | rfl | rfl
  · exact saysNum _ n s ka kl kc ma ms.length mc _ w _
  · exact saysVar _ n s ka kl kc ma ms.length mc ns eb fu na nl nc _ w hp hl hev
  · have e : kidsN 3 = 2 := rfl
    have l2 : 1 < m := by omega
    obtain ⟨b, off, rfl, hb, hcs⟩ := hi.cells (by omega)
    exact saysAdd _ n s ka kl kc ma ms.length mc _ w b off m cp l2 (vs.getD 0 0) (vs.getD 1 0) hb (hcs 0 (by omega)) (hcs 1 l2) (getD_ok hv 0) (getD_ok hv 1)
  · have e : kidsN 4 = 2 := rfl
    have l2 : 1 < m := by omega
    obtain ⟨b, off, rfl, hb, hcs⟩ := hi.cells (by omega)
    exact saysSub _ n s ka kl kc ma ms.length mc _ w b off m cp l2 (vs.getD 0 0) (vs.getD 1 0) hb (hcs 0 (by omega)) (hcs 1 l2) (getD_ok hv 0) (getD_ok hv 1)
  · have e : kidsN 5 = 2 := rfl
    have l2 : 1 < m := by omega
    obtain ⟨b, off, rfl, hb, hcs⟩ := hi.cells (by omega)
    exact saysMul _ n s ka kl kc ma ms.length mc _ w b off m cp l2 (vs.getD 0 0) (vs.getD 1 0) hb (hcs 0 (by omega)) (hcs 1 l2) (getD_ok hv 0) (getD_ok hv 1)
  · have e : kidsN 6 = 3 := rfl
    have l3 : 2 < m := by omega
    obtain ⟨b, off, rfl, hb, hcs⟩ := hi.cells (by omega)
    exact saysPart _ n s ka kl kc ma ms.length mc _ w b off m cp l3 (vs.getD 0 0) (vs.getD 1 0) (vs.getD 2 0) hb (hcs 0 (by omega)) (hcs 1 (by omega)) (hcs 2 l3)
  · have e : kidsN 7 = 2 := rfl
    have l2 : 1 < m := by omega
    obtain ⟨b, off, rfl, hb, hcs⟩ := hi.cells (by omega)
    exact saysMin _ n s ka kl kc ma ms.length mc _ w b off m cp l2 (vs.getD 0 0) (vs.getD 1 0) hb (hcs 0 (by omega)) (hcs 1 l2) (getD_ok hv 0) (getD_ok hv 1)
  · have e : kidsN 8 = 2 := rfl
    have l2 : 1 < m := by omega
    obtain ⟨b, off, rfl, hb, hcs⟩ := hi.cells (by omega)
    exact saysMax _ n s ka kl kc ma ms.length mc _ w b off m cp l2 (vs.getD 0 0) (vs.getD 1 0) hb (hcs 0 (by omega)) (hcs 1 l2) (getD_ok hv 0) (getD_ok hv 1)
  · exact absurd rfl h9
  · have e : kidsN 10 = 1 := rfl
    have l1 : 0 < m := by omega
    obtain ⟨b, off, rfl, hb, hcs⟩ := hi.cells (by omega)
    have hmo : MOk (mF ms) (mP ms) ms.length := by unfold HoldsN at hH; rw [if_neg (by decide), if_neg (by decide), if_pos rfl] at hH; exact hH.2.2
    exact saysTiers _ n s ka kl kc ma ms.length mc _ w b off m cp l1 (vs.getD 0 0) ms hb (hcs 0 l1) (getD_ok hv 0) hmo hm5 rfl hm
set_option maxRecDepth 20000 in
set_option maxHeartbeats 8000000 in
theorem saysIf (ns : List (ByteArray × Int)) (n : Int) (s : ByteArray) (ks : List Tr) (ka : Option Addr) (kc : Nat) (ma : Option Addr) (ml mc : Nat) (vs : List Int) (a : Option Addr) (cp : Nat) (eb : Nat) (fr : Int) (na : Option Addr) (nl nc : Nat) (w : World)
    (ih : ∀ t ∈ ks, EvAt 53 ns t) (h4 : ks.length = 4) (hk : RowsT (fun b => b ≠ eb) w ka ks.length ks) (hoks : ∀ t ∈ ks, OkP t) (hi : IntsN (fun b => b ≠ eb) w a 2 vs) (hev : Ev w eb na nl nc fr) (hp : PairsN (fun b => b ≠ eb) w na nl ns) (hnl : nl ≤ 1048576) (f0 : 0 ≤ fr) (f1 : fr ≤ 1000) (sv : Said)
    (hsv : sv = (if vs.getD 0 0 < vs.getD 1 0 then (ks.map (evalT ns)).getD 2 noSaid else (ks.map (evalT ns)).getD 3 noSaid) fr) :
    Calls Tryz.prog 178 #[.agg #[], .pointer (some ⟨eb, 0, none⟩), .agg #[.int .i64 9, .int .i64 n, .string s, .slice ka ks.length kc, .slice ma ml mc], .slice a 2 cp] w
      fun e w' => e = .returned (.tuple #[.int .i64 sv.v, .int .i64 sv.c]) ∧ Hid (sv.c = 0 → Ev w' eb na nl nc sv.f) ∧ w.grownBy w' (some eb) := by
  have HSV0 := Lib.hid hsv
  have heb := hev.1
  obtain ⟨b, offk, rfl, hbn, hblk, hrow⟩ := hk.cells (by omega)
  have hA : Below w.heap.size w ((w.alloc (.cells #[] 158)).alloc (.cells #[.int .i64 9, .int .i64 n, .string s, .slice (some ⟨b, offk, none⟩) ks.length kc, .slice ma ml mc] 39)) := two_boxes w _ _
  have hsz : ((w.alloc (.cells #[] 158)).alloc (.cells #[.int .i64 9, .int .i64 n, .string s, .slice (some ⟨b, offk, none⟩) ks.length kc, .slice ma ml mc] 39)).heap.size = w.heap.size + 2 := by simp
  have hArg : ((w.alloc (.cells #[] 158)).alloc (.cells #[.int .i64 9, .int .i64 n, .string s, .slice (some ⟨b, offk, none⟩) ks.length kc, .slice ma ml mc] 39)).heap[w.heap.size + 1]? = some (.cells #[.int .i64 9, .int .i64 n, .string s, .slice (some ⟨b, offk, none⟩) ks.length kc, .slice ma ml mc] 39 (0, 0)) := by
    have := heap_alloc_new (w.alloc (.cells #[] 158)) (.cells #[.int .i64 9, .int .i64 n, .string s, .slice (some ⟨b, offk, none⟩) ks.length kc, .slice ma ml mc] 39)
    rw [World.size_alloc] at this
    exact this
  have HA := Lib.hid hA
  have HArg := Lib.hid hArg
  have HK := Lib.hid (hk.kept (same_of_below hA))
  have HI := Lib.hid (hi.kept (same_of_below hA))
  have HEV := Lib.hid (hev.kept hA)
  have HP := Lib.hid (hp.kept (same_of_below hA))
  have IH := Lib.hid ih
  have HOKS := Lib.hid hoks
  have H4 := Lib.hid h4
  clear hsv hA hArg hk hi hev hp ih hoks hrow hblk h4
  go_enter Tryz.func178, Tryz.ntmps178
  go_wp2_with fail
  generalize hW0 : ((w.alloc (.cells #[] 158)).alloc (.cells #[.int .i64 9, .int .i64 n, .string s, .slice (some ⟨b, offk, none⟩) ks.length kc, .slice ma ml mc] 39)) = W0 at *
  clear hW0
  obtain ⟨bb, off, rfl, hbl, hcs⟩ := HI.out.cells (by omega)
  have x0 := hcs 0 (by omega)
  rw [Nat.add_zero] at x0
  have x1 := hcs 1 (by omega)
  have ca3 : W0.cell? ⟨w.heap.size + 1, 3, none⟩ = some (Value.slice (some ⟨b, offk, none⟩) ks.length kc) := by rw [Lib.cell_of_heap HArg.out]; rfl
  clear hcs
  obtain ⟨k0, k1, k2, k3, rfl⟩ := four H4.out
  obtain ⟨b', offk', hbe, -, hblk, hrow⟩ := HK.out.cells (by simp)
  obtain ⟨rfl, rfl⟩ : b = b' ∧ offk = offk' := by simpa using hbe
  obtain ⟨g2, c2, t2⟩ := hrow 2 (by simp)
  obtain ⟨g3, c3, t3⟩ := hrow 3 (by simp)
  have hgd2 : ([k0, k1, k2, k3].map (evalT ns)).getD 2 noSaid = evalT ns k2 := rfl
  have hgd3 : ([k0, k1, k2, k3].map (evalT ns)).getD 3 noSaid = evalT ns k3 := rfl
  rw [hgd2, hgd3] at HSV0
  have T2 := Lib.hid t2
  have T3 := Lib.hid t3
  have FV : Hid (0 ≤ fr ∧ fr ≤ 1000) := ⟨f0, f1⟩
  have J2 : Hid (∀ m, Calls Tryz.prog 53 #[.pointer (some ⟨eb, 0, none⟩), g2.val] (W0.drewN m) (EvP ns k2 fr eb na nl nc (W0.drewN m))) := fun m => IH.out k2 (by simp) g2 eb _ na nl nc _ (T2.out.kept (same_of_below (belowN (Below.refl _ _) m))) (HOKS.out k2 (by simp)) (HEV.out.kept (belowN (Below.refl _ _) m)) (HP.out.kept (same_of_below (belowN (Below.refl _ _) m))) hnl FV.out.1 FV.out.2
  have J3 : Hid (∀ m, Calls Tryz.prog 53 #[.pointer (some ⟨eb, 0, none⟩), g3.val] (W0.drewN m) (EvP ns k3 fr eb na nl nc (W0.drewN m))) := fun m => IH.out k3 (by simp) g3 eb _ na nl nc _ (T3.out.kept (same_of_below (belowN (Below.refl _ _) m))) (HOKS.out k3 (by simp)) (HEV.out.kept (belowN (Below.refl _ _) m)) (HP.out.kept (same_of_below (belowN (Below.refl _ _) m))) hnl FV.out.1 FV.out.2
  generalize vs.getD 0 0 = v0 at *
  generalize vs.getD 1 0 = v1 at *
  have hl4 : ([k0, k1, k2, k3] : List Tr).length = 4 := rfl
  clear hrow t2 t3 hbe f0 f1 hgd2 hgd3
  rcases Int.lt_or_le v0 v1 with c | c
  · have z : decide (v0 < v1) = true := decide_eq_true c
    have HSV : Hid (sv = evalT ns k2 fr) := by show _ = _; rw [HSV0.out, if_pos c]
    obtain ⟨y0, y1, y2, y3, y4⟩ : CellsF W0 b (offk + 10) g2 := c2
    clear c c3
    unfold EvP at J2
    generalize evalT ns k2 fr = s2 at *
    obtain ⟨vv, vc, vf⟩ := s2
    dsimp only at *
    go_quiet (fail)
    go_wp2_with fail
    refine (J2.out _).mono ?_
    rintro e w3 ⟨rfl, hev3, hg3⟩
    go_wp2
    go_ret2
    refine ⟨?_, fun h => ?_, grown_trans (grown_any HA.out) (grown_trans (grown_any (belowN (Below.refl _ _) nq)) hg3)⟩
    · show Ending.returned (.tuple #[.int .i64 vv, .int .i64 vc]) = _
      rw [HSV.out]
    · rw [HSV.out] at h ⊢; exact hev3.out h
  · have z : decide (v0 < v1) = false := decide_eq_false (by omega)
    have HSV : Hid (sv = evalT ns k3 fr) := by show _ = _; rw [HSV0.out, if_neg (by omega)]
    obtain ⟨y0, y1, y2, y3, y4⟩ : CellsF W0 b (offk + 15) g3 := c3
    clear c c2
    unfold EvP at J3
    generalize evalT ns k3 fr = s2 at *
    obtain ⟨vv, vc, vf⟩ := s2
    dsimp only at *
    go_quiet (fail)
    go_wp2_with fail
    refine (J3.out _).mono ?_
    rintro e w3 ⟨rfl, hev3, hg3⟩
    go_wp2
    go_ret2
    refine ⟨?_, fun h => ?_, grown_trans (grown_any HA.out) (grown_trans (grown_any (belowN (Below.refl _ _) nq)) hg3)⟩
    · show Ending.returned (.tuple #[.int .i64 vv, .int .i64 vc]) = _
      rw [HSV.out]
    · rw [HSV.out] at h ⊢; exact hev3.out h
end Go.Proofs.YtjphjnopdlfplaaGreatDoor

namespace Go.Proofs.YtjphjnopdlfplaaGreatDoor
open Go.RowKit
set_option linter.unusedVariables false
set_option linter.unusedSimpArgs false

set_option maxHeartbeats 4000000 in
theorem first9 (n : Int) (s : ByteArray) (b off kc : Nat) (ma : Option Addr) (m mc : Nat) (w : World) (hc : 4 ≤ kc) :
    Calls Tryz.prog 75 #[.agg #[.int .i64 9, .int .i64 n, .string s, .slice (some ⟨b, off, none⟩) 4 kc, .slice ma m mc]] w fun e w' => e = .returned (.slice (some ⟨b, off, none⟩) 2 kc) ∧ Below w.heap.size w w' := by
  have h2 : (2 : Int) ≤ (kc : Int) := by omega
  have h2n : 2 ≤ kc := by omega
  go_enter Tryz.func75, Tryz.ntmps75
  go_wp2
  go_ret
  exact ⟨rfl, (Below.refl _ _).alloc (Nat.le_refl _) _⟩
set_option maxHeartbeats 4000000 in
theorem firstN (o n : Int) (s : ByteArray) (ka : Option Addr) (k kc : Nat) (ma : Option Addr) (m mc : Nat) (w : World) (h9 : o ≠ 9) :
    Calls Tryz.prog 75 #[.agg #[.int .i64 o, .int .i64 n, .string s, .slice ka k kc, .slice ma m mc]] w fun e w' => e = .returned (.slice ka k kc) ∧ Below w.heap.size w w' := by
  have z9 : (o == 9) = false := by simpa using h9
  clear h9
  go_enter Tryz.func75, Tryz.ntmps75
  go_wp2
  go_ret
  exact ⟨rfl, (Below.refl _ _).alloc (Nat.le_refl _) _⟩

theorem first9' (n : Int) (s : ByteArray) (ka : Option Addr) (k kc : Nat) (ma : Option Addr) (m mc : Nat) (w : World) (h4 : k = 4) (hka : ∃ b off, ka = some ⟨b, off, none⟩) (hc : k ≤ kc) :
    Calls Tryz.prog 75 #[.agg #[.int .i64 9, .int .i64 n, .string s, .slice ka k kc, .slice ma m mc]] w fun e w' => e = .returned (.slice ka 2 kc) ∧ Below w.heap.size w w' := by
  subst h4
  obtain ⟨b, off, rfl⟩ := hka
  exact first9 n s b off kc ma m mc w hc
theorem IntsN.monoN {N : Nat → Prop} {w : World} {a : Option Addr} {len : Nat} {l : List Int} (h : IntsN N w a len l) : IntsN All w a len l := by
  obtain ⟨h1, h2 | ⟨b, off, k1, k2, k3, k4⟩⟩ := h
  · exact ⟨h1, Or.inl h2⟩
  · exact ⟨h1, Or.inr ⟨b, off, k1, trivial, k3, k4⟩⟩
set_option maxRecDepth 20000 in
set_option maxHeartbeats 16000000 in
theorem ofOpI (ns : List (ByteArray × Int)) (o n : Int) (s : ByteArray) (ks : List Tr) (ms : List (Int × Int)) (h9 : o ≠ 9) (ih : ∀ t ∈ ks, EvAt 53 ns t) : EvAt 53 ns (.node o n s ks ms) := by
  obtain ⟨it0, hi, hz0, hz1, hz2⟩ := info_parts infoIntE
  intro f eb fu na nl nc w h hok hev hp hnl f0 f1
  obtain ⟨e1, e2, e3, hm, hk, hc1, hc2⟩ := trF_iff.1 h
  obtain ⟨fo, fn, fs, ka, kl, kc, ma, ml, mc⟩ := f
  dsimp only at e1 e2 e3 hm hk hc1 hc2
  have q1 := e1.symm
  have q2 := e2.symm
  have q3 := e3.symm
  clear e1 e2 e3
  subst q1 q2 q3
  obtain rfl := hk.1
  obtain rfl := hm.1
  obtain ⟨hpl, hoks⟩ := okP_parts hok
  have hw29 : wL ks ≤ 29 := by have := okP_w hok; rw [wT] at this; omega
  have hkb : ks.length ≤ 29 := by have := len_wL ks; omega
  have hm5 := ms_len hpl
  have hin := op_in hpl
  have hA : Below w.heap.size w (w.alloc (.cells #[.int .i64 o, .int .i64 n, .string s, .slice ka ks.length kc, .slice ma ms.length mc] 39)) := (Below.refl _ _).alloc (Nat.le_refl _) _
  have hArg : (w.alloc (.cells #[.int .i64 o, .int .i64 n, .string s, .slice ka ks.length kc, .slice ma ms.length mc] 39)).heap[w.heap.size]? = some (.cells #[.int .i64 o, .int .i64 n, .string s, .slice ka ks.length kc, .slice ma ms.length mc] 39 (0, 0)) := heap_alloc_new w _
  have heb := hev.1
  have hF : Hid (∀ W, Calls Tryz.prog 75 #[.agg #[.int .i64 o, .int .i64 n, .string s, .slice ka ks.length kc, .slice ma ms.length mc]] W fun e w' => e = .returned (.slice ka ks.length kc) ∧ Below W.heap.size W w') := fun W => firstN o n s ka ks.length kc ma ms.length mc W h9
  have hqo := seqF_ok ((ks.map (evalT ns)).take ks.length) fu f0 (fun g hg fu hf => by
    obtain ⟨t, ht, rfl⟩ := List.mem_map.1 (List.mem_of_mem_take hg)
    exact eval_ok ns _ t (Nat.le_refl _) (hoks t ht) fu hf)
  have hql : ((ks.map (evalT ns)).take ks.length).length = ks.length := by rw [List.length_take, List.length_map]; omega
  rw [hql] at hqo
  have HQO := Lib.hid hqo
  have HE := Lib.hid (evalN (ns := ns) (o := o) (n := n) (s := s) (ks := ks) (ms := ms) (fu := fu) rfl)
  rw [if_neg h9] at HE
  have IH := Lib.hid ih
  have HM := Lib.hid hm
  have HR := Lib.hid hk
  have HPL := Lib.hid hpl
  have HOKS := Lib.hid hoks
  have HP := Lib.hid hp
  have HEV := Lib.hid hev
  have HA := Lib.hid hA
  have HArg := Lib.hid hArg
  have HIN := Lib.hid hin
  have HM5 := Lib.hid hm5
  have em : IntKind.i64.wrap (1 + (ms.length : Int)) = 1 + (ms.length : Int) := IntWalk.i64_in _ (by omega)
  have HGL : Hid ((ks.map (evalT ns)).length = ks.length) := by show _ = _; simp
  have HGI : Hid (∀ k, (h : k < ks.length) → (ks.map (evalT ns))[k]? = some (evalT ns ks[k])) := fun k h => by simp [h]
  clear h hm hk hc1 hc2 hpl hoks hok hA hArg hql hp hqo ih hev hin
  unfold EvP
  unfold Fld.val
  dsimp only
  have z9 : (o == 9) = false := by simpa using h9
  have H9 := Lib.hid h9
  clear h9
  generalize hgs : ks.map (evalT ns) = gs at *
  have HGS := Lib.hid hgs
  clear hgs
  generalize hsv0 : evalT ns (.node o n s ks ms) fu = sv at *
  clear hsv0
  go_enter Tryz.func53, Tryz.ntmps53
  go_wp2_with fail
  generalize hW0 : (w.alloc (.cells #[.int .i64 o, .int .i64 n, .string s, .slice ka ks.length kc, .slice ma ms.length mc] 39)) = W0 at *
  clear hW0
  have sz0 : w.heap.size < W0.heap.size := (Array.getElem?_eq_some_iff.1 HArg.out).1
  refine (hF.out W0).mono ?_
  rintro e wf ⟨rfl, df⟩
  have szf : w.heap.size < wf.heap.size := by have := df.size; omega
  have HArgf := Lib.hid ((df.block _ sz0).trans HArg.out)
  have HBf : Hid (Below w.heap.size w wf) := HA.out.trans (df.mono HA.out.size)
  have HEVf := Lib.hid (HEV.out.kept HBf.out)
  clear df
  go_wp2_with fail
  go_loopw [6, 14] (fun vl vi wr => ∃ (k c : Nat) (a : Option Addr) (vs : List Int) (fr : Int), k ≤ ks.length ∧ vi = .int .i64 k ∧ vl = .slice a k c ∧ wr.ownsRow wf.heap.size 3 1 (.slice a k c) k (vs.map (Value.int .i64)) ∧ Hid (seqF (gs.take k) fu = (vs, 0, fr)) ∧ 0 ≤ fr ∧ fr ≤ fu ∧ Hid (Ev wr eb na nl nc fr) ∧ wf.grownBy wr (some eb)) (fun _ vi _ => ks.length - (intOf vi).toNat)
  case atStart => exact ⟨0, 0, none, [], fu, Nat.zero_le _, rfl, rfl, World.ownsRow_nil _ _ _ _, by show _ = _; rw [List.take_zero, seqF], f0, Int.le_refl _, HEVf, grown_any (Below.refl _ _)⟩
  case round =>
    obtain ⟨k, c, a, vs, fr, hk, rfl, rfl, hown, hsq, r0, r1, hev, hg⟩ := hrel
    have HAr := Lib.hid ((hg.block w.heap.size szf (by intro e; simp only [Option.some.injEq] at e; omega)).trans HArgf.out)
    have HGW : Hid (w.grownBy wr (some eb)) := grown_trans (grown_any HBf.out) hg
    rcases Nat.lt_or_ge k ks.length with hlt | hge
    · have hlk : k < ks.length := by omega
      have k1 : (k : Int) < ks.length := by omega
      have k2 : (k : Int) < ks.length := by omega
      have k0 : (0 : Int) ≤ k := by omega
      obtain ⟨b, off, rfl, -, hbl, hrow⟩ := (HR.out.kept (same_ne HGW.out)).cells (by omega)
      obtain ⟨f, ⟨y0, y1, y2, y3, y4⟩, ht⟩ := hrow k hlk
      have hXB : Below wr.heap.size wr (wr.alloc (.cells #[.int .i64 f.op, .int .i64 f.num, .string f.name, .slice f.ka f.kl f.kc, .slice f.ma f.ml f.mc] 39)) := (Below.refl _ _).alloc (Nat.le_refl _) _
      have hcall := Lib.hid (IH.out ks[k] (List.getElem_mem _) f eb fr na nl nc _ (ht.kept (same_of_below hXB)) (HOKS.out _ (List.getElem_mem _)) (hev.out.kept hXB) ((HP.out.kept (same_ne HGW.out)).kept (same_of_below hXB)) hnl r0 (by omega))
      have HXB := Lib.hid hXB
      have hgl := HGL.out
      have hgk : gs[k]'(by omega) = evalT ns ks[k] := by
        have h1 := HGI.out k hlk
        rw [List.getElem?_eq_getElem (by omega)] at h1
        exact Option.some.inj h1
      have hT : gs.take (k + 1) = gs.take k ++ [evalT ns ks[k]] := by rw [List.take_succ_eq_append_getElem (by omega), hgk]
      have HAP := seqF_app (gs.take k) (evalT ns ks[k]) fu (by rw [hsq.out])
      rw [← hT, hsq.out] at HAP
      have hso := eval_ok ns _ ks[k] (Nat.le_refl _) (HOKS.out _ (List.getElem_mem (l := ks) (n := k) hlk)) fr r0
      have HFA : Hid ((evalT ns ks[k] fr).c ≠ 0 → (seqF (gs.take ks.length) fu).2.1 = (evalT ns ks[k] fr).c) := fun hne => by
        have h1 : (seqF (gs.take (k + 1)) fu).2.1 = (evalT ns ks[k] fr).c := by rw [HAP, if_neg hne]
        rw [take_at gs k ks.length (by omega), seqF_fail _ _ _ (by rw [h1]; exact hne), h1]
      have HOW := Lib.hid hown
      have HAP2 := Lib.hid HAP
      have HG := Lib.hid hg
      clear hrow hbl ht HAP hT hgk hgl hown hXB hg
      unfold EvP at hcall
      obtain ⟨⟨so1, so2⟩, so3, so4, so5⟩ : (Amt (evalT ns ks[k] fr).v) ∧ (0 ≤ (evalT ns ks[k] fr).c ∧ (evalT ns ks[k] fr).c ≤ 4) ∧ (0 ≤ (evalT ns ks[k] fr).f ∧ (evalT ns ks[k] fr).f ≤ fr) ∧ True := ⟨okB_yes hso.1, hso.2.1, hso.2.2.1, trivial⟩
      clear hso
      generalize hsv : evalT ns ks[k] fr = sk at *
      obtain ⟨v, cd, fn⟩ := sk
      dsimp only at *
      clear hsv
      go_wp2_with fail
      refine hcall.out.mono ?_
      rintro e w2 ⟨rfl, hev2, hg2⟩
      clear y0 y1 y2 y3 y4 hcall
      have hgx : wr.grownBy w2 (some eb) := grown_trans (grown_any HXB.out) hg2
      have hown2 : Hid (w2.ownsRow wf.heap.size 3 1 (.slice a k c) k (vs.map (Value.int .i64))) := HOW.out.kept (row := some eb) hgx (Or.inr (fun e => by have := (HOW.out.lt eb e).1; have := HBf.out.size; omega))
      have HG2 := Lib.hid (grown_trans HG.out hgx)
      have HGW2 := Lib.hid (grown_trans HGW.out hgx)
      have hz2' : wf.heap.size ≤ w2.heap.size := HG2.out.size
      clear hg2 hgx
      by_cases hc : cd = 0
      · subst hc
        have HE2 := Lib.hid (hev2.out rfl)
        have HSQ : Hid (seqF (gs.take (k + 1)) fu = (vs ++ [v], 0, fn)) := by show _ = _; rw [HAP2.out, if_pos rfl]
        go_wp2_with (at_builtin; refine wpList_append_lies ?pw ?p1 ?ps ?px 71 ?p2 wf.heap.size 3 it0 (.int .i64 0) 1 8 ?p3 ?p4 ?p5 ?p6 ?p7 ?p8 ?p9 (.slice a k c) k (vs.map (Value.int .i64)) ?p10 ?ph1 ⟨w2.heap.size, 0, none⟩ 1 1 [.int .i64 v] ?p11 ?p12 ?ph2 ?ph3 ?pc1 ?pc2 ?pc3 ?pc4 (w2.heap.size + 1) ?pc5 ?_; (case p1 => rfl); (case p2 => rfl); (case p10 => rfl); (case p11 => rfl); (case ph1 => exact hown2.out.alloc _); (case p3 => exact Tryz.underlying71); (case p4 => exact hi); (case p5 => exact hz0); (case p6 => exact hz1); (case p7 => exact hz2); (case p8 => rfl); (case p9 => decide); (case p12 => rfl); (case ph2 => exact World.news_of_block (heap_alloc_new w2 _)); (case ph3 => intro u hu; simp at hu; subst hu; rfl); (case pc1 => decide); (case pc2 => unfold maxLen; omega); (case pc3 => omega); (case pc4 => simp only [World.size_alloc]; omega); (case pc5 => simp only [World.size_alloc]); intro g2 cp2 wz hownZ hgrowZ hatZ hltZ)
        have hbx : Below w2.heap.size w2 (w2.alloc (.cells #[.int .i64 v] 3)) := (Below.refl _ _).alloc (Nat.le_refl _) _
        have hbw := HBf.out.size
        have hnb : ∀ i, i < wf.heap.size → some i ≠ (Value.slice a k c).ownBlock := fun i hi e => by have := (hown2.out.lt i e.symm).1; omega
        have hE3 : Hid (Ev wz eb na nl nc fn) := (HE2.out.kept hbx).blk (hgrowZ.block eb (by have := hbx.size; omega) (hnb eb (by omega))) hgrowZ.size
        have hgz : wf.grownBy wz (some eb) := ⟨hgrowZ.os.trans (hbx.os.trans HG2.out.os), hgrowZ.tape.trans (hbx.tape.trans HG2.out.tape), hgrowZ.output.trans (hbx.output.trans HG2.out.output), Nat.le_trans HG2.out.size (Nat.le_trans hbx.size hgrowZ.size), fun i hi hne => (hgrowZ.block i (by have := hbx.size; omega) (hnb i hi)).trans ((hbx.block i (by omega)).trans (HG2.out.block i hi hne))⟩
        have hownV : wz.ownsRow wf.heap.size 3 1 (.slice (some ⟨g2, 0, none⟩) (k + 1) cp2) (k + 1) ((vs ++ [v]).map (Value.int .i64)) := by rw [List.map_append]; exact hownZ
        go_wp2_with fail
        go_roundw
        case rel => exact ⟨k + 1, cp2, some ⟨g2, 0, none⟩, vs ++ [v], fn, by omega, by go_num, rfl, hownV, HSQ, so4.1, by omega, hE3, hgz⟩
        case measure => simp [intOf]; omega
      · have z : (cd != 0) = true := by simpa using hc
        have HFAc : Hid ((seqF (gs.take ks.length) fu).2.1 = cd) := HFA.out hc
        have HSV : Hid (sv = ⟨0, cd, (seqF (gs.take ks.length) fu).2.2⟩) := by show _ = _; rw [HE.out, if_pos (by rw [HFAc.out]; exact hc), HFAc.out]
        have HC := Lib.hid hc
        clear hc
        go_wp2
        go_ret2
        refine ⟨?_, fun h => ?_, HGW2.out⟩
        · show Ending.returned (.tuple #[.int .i64 0, .int .i64 cd]) = _
          rw [HSV.out]
        · rw [HSV.out] at h; exact absurd h HC.out
    · obtain rfl : k = ks.length := by omega
      have HQ := hsq
      have hqo := HQO.out
      rw [HQ.out] at hqo
      obtain ⟨-, -, hqv2, hql2⟩ := hqo
      dsimp only at hqv2 hql2
      have HVS := Lib.hid hqv2
      have HVL := Lib.hid (hql2 rfl)
      have HSE := Lib.hid HE.out
      rw [HQ.out] at HSE
      rw [if_neg (by simp)] at HSE
      dsimp only at HSE
      have HI := Lib.hid (ints_own (N := fun b => b ≠ eb) hown (fun b hb => by have := HBf.out.size; omega))
      have ca4 : wr.cell? ⟨w.heap.size, 4, none⟩ = some (Value.slice ma ms.length mc) := by rw [Lib.cell_of_heap HAr.out]; rfl
      clear hown hg hqv2 hql2 hge
      rcases Int.lt_or_le fr (1 + (ms.length : Int)) with hb | hb
      · have HSV : Hid (sv = ⟨0, 1, fr⟩) := by show _ = _; rw [HSE.out, if_pos hb]
        have HB := Lib.hid (takeNo (1 + (ms.length : Int)) fr eb na nl nc wr hb hev.out)
        go_wp2_with fail
        refine HB.out.mono ?_
        rintro e w2 ⟨rfl, rfl⟩
        go_wp2
        go_ret2
        refine ⟨?_, fun h => ?_, HGW.out⟩
        · show Ending.returned (.tuple #[.int .i64 0, .int .i64 1]) = _
          rw [HSV.out]
        · rw [HSV.out] at h; cases h
      have HB := Lib.hid (takeYes (1 + (ms.length : Int)) fr eb na nl nc wr hb (by omega) (by omega) hev.out)
      rw [if_neg (by omega)] at HSE
      go_wp2_with fail
      refine HB.out.mono ?_
      rintro e w2 ⟨rfl, hev2, hg2⟩
      have HEV2 := Lib.hid hev2
      have HG2 := Lib.hid (grown_trans HGW.out hg2)
      have HI2 := Lib.hid (HI.out.kept (same_ne hg2))
      have HA2 := Lib.hid ((hg2.block w.heap.size (Array.getElem?_eq_some_iff.1 HAr.out).1 (by intro e; simp only [Option.some.injEq] at e; omega)).trans HAr.out)
      have ca0 : w2.cell? ⟨w.heap.size, 0, none⟩ = some (Value.int .i64 o) := by rw [Lib.cell_of_heap HA2.out]; rfl
      have ca1 : w2.cell? ⟨w.heap.size, 1, none⟩ = some (Value.int .i64 n) := by rw [Lib.cell_of_heap HA2.out]; rfl
      have ca2 : w2.cell? ⟨w.heap.size, 2, none⟩ = some (Value.string s) := by rw [Lib.cell_of_heap HA2.out]; rfl
      have ca3 : w2.cell? ⟨w.heap.size, 3, none⟩ = some (Value.slice ka ks.length kc) := by rw [Lib.cell_of_heap HA2.out]; rfl
      have ca4' : w2.cell? ⟨w.heap.size, 4, none⟩ = some (Value.slice ma ms.length mc) := by rw [Lib.cell_of_heap HA2.out]; rfl
      clear ca4 hev2 hg2 HB hev
      rw [if_neg H9.out] at HSE
      have HLV : Hid ((vs.length : Int) = kidsN o) := by have h1 := HPL.out.1; have h2 := HVL.out; show _ = _; omega
      have hTS : Hid (∀ W, Below w2.heap.size w2 W → Calls Tryz.prog (saysF o) #[.agg #[], .pointer (some ⟨eb, 0, none⟩), .agg #[.int .i64 o, .int .i64 n, .string s, .slice ka ks.length kc, .slice ma ms.length mc], .slice a ks.length c] W (SaysP (doR ns o n s ms vs) W)) := fun W hW =>
        saysAll o n s ka ks.length kc ma mc ms ns eb _ na nl nc a ks.length c vs W H9.out HIN.out HPL.out.2 HLV.out HVS.out ((HI2.out.kept (same_of_below hW)).monoN) (((HM.out.kept (same_ne HG2.out)).kept (same_of_below hW)).mono (fun _ _ => trivial)) HM5.out (((HP.out.kept (same_ne HG2.out)).kept (same_of_below hW)).mono (fun _ _ => trivial)) hnl (HEV2.out.kept hW)
      unfold SaysP at hTS
      generalize doR ns o n s ms vs = r at *
      obtain ⟨r1, r2⟩ := r
      dsimp only at *
      have cS : ∀ dd os, Calls Tryz.prog (saysF o) #[.agg #[], .pointer (some ⟨eb, 0, none⟩), .agg #[.int .i64 o, .int .i64 n, .string s, .slice ka ks.length kc, .slice ma ms.length mc], .slice a ks.length c] (Go.Sort.grow (redrawn w2 dd) os) fun e w'' => e = .returned (.tuple #[.int .i64 r1, .int .i64 r2]) ∧ ∃ p : Regrown, w'' = Go.Sort.grow (redrawn w2 p.d) p.os := fun dd os => Calls.regrown_of (hTS.out _ (below_regrown w2 dd os))
      have cO : ∀ dd os, Calls Tryz.prog 76 #[.int .i64 o] (Go.Sort.grow (redrawn w2 dd) os) fun e w'' => e = .returned (.iface (opT o) (.agg #[])) ∧ ∃ p : Regrown, w'' = Go.Sort.grow (redrawn w2 p.d) p.os := fun dd os => Calls.regrown_of (opOf o _ HIN.out)
      have mk := fun W => meth_says o HIN.out W
      have nk := fun W => nil_says o HIN.out W
      have fk := fun a W => call_says o HIN.out a W
      have y0 := cell_regrown ca0
      have y1 := cell_regrown ca1
      have y2 := cell_regrown ca2
      have y3 := cell_regrown ca3
      have y4 := cell_regrown ca4'
      clear ca0 ca1 ca2 ca3 ca4'
      go_wp2_with fail
      refine wp_region_quiet_below (by kernel_rfl) (by kernel_rfl) ?_
      repeat (quiet_step (first | (go_at_call 76; exact cO _ _) | exact cS _ _))
      refine wpQuiet_nil ?_
      intro _ hw'
      obtain ⟨⟨dq, osq⟩, hw''⟩ := hw'
      subst hw''
      go_wp2
      go_ret2
      refine ⟨?_, fun _ => ?_, grown_trans HG2.out (grown_any (below_regrown w2 dq osq))⟩
      · show Ending.returned (.tuple #[.int .i64 r1, .int .i64 r2]) = _
        rw [HSE.out]
      · rw [HSE.out]; exact HEV2.out.kept (below_regrown w2 dq osq)
set_option maxRecDepth 20000 in
set_option maxHeartbeats 16000000 in
theorem ofIfI (ns : List (ByteArray × Int)) (n : Int) (s : ByteArray) (ks : List Tr) (ms : List (Int × Int)) (ih : ∀ t ∈ ks, EvAt 53 ns t) : EvAt 53 ns (.node 9 n s ks ms) := by
  obtain ⟨it0, hi, hz0, hz1, hz2⟩ := info_parts infoIntE
  intro f eb fu na nl nc w h hok hev hp hnl f0 f1
  obtain ⟨e1, e2, e3, hm, hk, hc1, hc2⟩ := trF_iff.1 h
  obtain ⟨fo, fn, fs, ka, kl, kc, ma, ml, mc⟩ := f
  dsimp only at e1 e2 e3 hm hk hc1 hc2
  have q1 := e1.symm
  have q2 := e2.symm
  have q3 := e3.symm
  clear e1 e2 e3
  subst q1 q2 q3
  obtain rfl := hk.1
  obtain rfl := hm.1
  obtain ⟨hpl, hoks⟩ := okP_parts hok
  have hw29 : wL ks ≤ 29 := by have := okP_w hok; rw [wT] at this; omega
  have hkb : ks.length ≤ 29 := by have := len_wL ks; omega
  have hm5 := ms_len hpl
  have hin := op_in hpl
  have hA : Below w.heap.size w (w.alloc (.cells #[.int .i64 9, .int .i64 n, .string s, .slice ka ks.length kc, .slice ma ms.length mc] 39)) := (Below.refl _ _).alloc (Nat.le_refl _) _
  have hArg : (w.alloc (.cells #[.int .i64 9, .int .i64 n, .string s, .slice ka ks.length kc, .slice ma ms.length mc] 39)).heap[w.heap.size]? = some (.cells #[.int .i64 9, .int .i64 n, .string s, .slice ka ks.length kc, .slice ma ms.length mc] 39 (0, 0)) := heap_alloc_new w _
  have heb := hev.1
  have hk4 := if_kids hpl
  have HK4 := Lib.hid hk4
  have hka : ∃ b off, ka = some ⟨b, off, none⟩ := by obtain ⟨b, off, rfl, -, -, -⟩ := hk.cells (by omega); exact ⟨b, off, rfl⟩
  have hF : Hid (∀ W, Calls Tryz.prog 75 #[.agg #[.int .i64 9, .int .i64 n, .string s, .slice ka ks.length kc, .slice ma ms.length mc]] W fun e w' => e = .returned (.slice ka 2 kc) ∧ Below W.heap.size W w') := fun W => first9' n s ka ks.length kc ma ms.length mc W hk4 hka hc1
  have hkk : 2 ≤ ks.length := by omega
  have hqo := seqF_ok ((ks.map (evalT ns)).take 2) fu f0 (fun g hg fu hf => by
    obtain ⟨t, ht, rfl⟩ := List.mem_map.1 (List.mem_of_mem_take hg)
    exact eval_ok ns _ t (Nat.le_refl _) (hoks t ht) fu hf)
  have hql : ((ks.map (evalT ns)).take 2).length = 2 := by rw [List.length_take, List.length_map]; omega
  rw [hql] at hqo
  have HQO := Lib.hid hqo
  have HE := Lib.hid (evalN (ns := ns) (o := 9) (n := n) (s := s) (ks := ks) (ms := ms) (fu := fu) rfl)
  rw [if_pos rfl] at HE
  have IH := Lib.hid ih
  have HM := Lib.hid hm
  have HR := Lib.hid hk
  have HPL := Lib.hid hpl
  have HOKS := Lib.hid hoks
  have HP := Lib.hid hp
  have HEV := Lib.hid hev
  have HA := Lib.hid hA
  have HArg := Lib.hid hArg
  have HIN := Lib.hid hin
  have HM5 := Lib.hid hm5
  have em : IntKind.i64.wrap (1 + (ms.length : Int)) = 1 + (ms.length : Int) := IntWalk.i64_in _ (by omega)
  have HGL : Hid ((ks.map (evalT ns)).length = ks.length) := by show _ = _; simp
  have HGI : Hid (∀ k, (h : k < ks.length) → (ks.map (evalT ns))[k]? = some (evalT ns ks[k])) := fun k h => by simp [h]
  clear h hm hk hc1 hc2 hpl hoks hok hA hArg hql hp hqo ih hev hin hk4 hka
  unfold EvP
  unfold Fld.val
  dsimp only
  generalize hgs : ks.map (evalT ns) = gs at *
  have HGS := Lib.hid hgs
  clear hgs
  generalize hsv0 : evalT ns (.node 9 n s ks ms) fu = sv at *
  clear hsv0
  go_enter Tryz.func53, Tryz.ntmps53
  go_wp2_with fail
  generalize hW0 : (w.alloc (.cells #[.int .i64 9, .int .i64 n, .string s, .slice ka ks.length kc, .slice ma ms.length mc] 39)) = W0 at *
  clear hW0
  have sz0 : w.heap.size < W0.heap.size := (Array.getElem?_eq_some_iff.1 HArg.out).1
  refine (hF.out W0).mono ?_
  rintro e wf ⟨rfl, df⟩
  have szf : w.heap.size < wf.heap.size := by have := df.size; omega
  have HArgf := Lib.hid ((df.block _ sz0).trans HArg.out)
  have HBf : Hid (Below w.heap.size w wf) := HA.out.trans (df.mono HA.out.size)
  have HEVf := Lib.hid (HEV.out.kept HBf.out)
  clear df
  go_wp2_with fail
  go_loopw [6, 14] (fun vl vi wr => ∃ (k c : Nat) (a : Option Addr) (vs : List Int) (fr : Int), k ≤ 2 ∧ vi = .int .i64 k ∧ vl = .slice a k c ∧ wr.ownsRow wf.heap.size 3 1 (.slice a k c) k (vs.map (Value.int .i64)) ∧ Hid (seqF (gs.take k) fu = (vs, 0, fr)) ∧ 0 ≤ fr ∧ fr ≤ fu ∧ Hid (Ev wr eb na nl nc fr) ∧ wf.grownBy wr (some eb)) (fun _ vi _ => 2 - (intOf vi).toNat)
  case atStart => exact ⟨0, 0, none, [], fu, Nat.zero_le _, rfl, rfl, World.ownsRow_nil _ _ _ _, by show _ = _; rw [List.take_zero, seqF], f0, Int.le_refl _, HEVf, grown_any (Below.refl _ _)⟩
  case round =>
    obtain ⟨k, c, a, vs, fr, hk, rfl, rfl, hown, hsq, r0, r1, hev, hg⟩ := hrel
    have HAr := Lib.hid ((hg.block w.heap.size szf (by intro e; simp only [Option.some.injEq] at e; omega)).trans HArgf.out)
    have HGW : Hid (w.grownBy wr (some eb)) := grown_trans (grown_any HBf.out) hg
    rcases Nat.lt_or_ge k 2 with hlt | hge
    · have hlk : k < ks.length := by omega
      have k1 : (k : Int) < 2 := by omega
      have k2 : (k : Int) < ks.length := by omega
      have k0 : (0 : Int) ≤ k := by omega
      obtain ⟨b, off, rfl, -, hbl, hrow⟩ := (HR.out.kept (same_ne HGW.out)).cells (by omega)
      obtain ⟨f, ⟨y0, y1, y2, y3, y4⟩, ht⟩ := hrow k hlk
      have hXB : Below wr.heap.size wr (wr.alloc (.cells #[.int .i64 f.op, .int .i64 f.num, .string f.name, .slice f.ka f.kl f.kc, .slice f.ma f.ml f.mc] 39)) := (Below.refl _ _).alloc (Nat.le_refl _) _
      have hcall := Lib.hid (IH.out ks[k] (List.getElem_mem _) f eb fr na nl nc _ (ht.kept (same_of_below hXB)) (HOKS.out _ (List.getElem_mem _)) (hev.out.kept hXB) ((HP.out.kept (same_ne HGW.out)).kept (same_of_below hXB)) hnl r0 (by omega))
      have HXB := Lib.hid hXB
      have hgl := HGL.out
      have hgk : gs[k]'(by omega) = evalT ns ks[k] := by
        have h1 := HGI.out k hlk
        rw [List.getElem?_eq_getElem (by omega)] at h1
        exact Option.some.inj h1
      have hT : gs.take (k + 1) = gs.take k ++ [evalT ns ks[k]] := by rw [List.take_succ_eq_append_getElem (by omega), hgk]
      have HAP := seqF_app (gs.take k) (evalT ns ks[k]) fu (by rw [hsq.out])
      rw [← hT, hsq.out] at HAP
      have hso := eval_ok ns _ ks[k] (Nat.le_refl _) (HOKS.out _ (List.getElem_mem (l := ks) (n := k) hlk)) fr r0
      have HFA : Hid ((evalT ns ks[k] fr).c ≠ 0 → (seqF (gs.take 2) fu).2.1 = (evalT ns ks[k] fr).c) := fun hne => by
        have h1 : (seqF (gs.take (k + 1)) fu).2.1 = (evalT ns ks[k] fr).c := by rw [HAP, if_neg hne]
        rw [take_at gs k 2 (by omega), seqF_fail _ _ _ (by rw [h1]; exact hne), h1]
      have HOW := Lib.hid hown
      have HAP2 := Lib.hid HAP
      have HG := Lib.hid hg
      clear hrow hbl ht HAP hT hgk hgl hown hXB hg
      unfold EvP at hcall
      obtain ⟨⟨so1, so2⟩, so3, so4, so5⟩ : (Amt (evalT ns ks[k] fr).v) ∧ (0 ≤ (evalT ns ks[k] fr).c ∧ (evalT ns ks[k] fr).c ≤ 4) ∧ (0 ≤ (evalT ns ks[k] fr).f ∧ (evalT ns ks[k] fr).f ≤ fr) ∧ True := ⟨okB_yes hso.1, hso.2.1, hso.2.2.1, trivial⟩
      clear hso
      generalize hsv : evalT ns ks[k] fr = sk at *
      obtain ⟨v, cd, fn⟩ := sk
      dsimp only at *
      clear hsv
      go_wp2_with fail
      refine hcall.out.mono ?_
      rintro e w2 ⟨rfl, hev2, hg2⟩
      clear y0 y1 y2 y3 y4 hcall
      have hgx : wr.grownBy w2 (some eb) := grown_trans (grown_any HXB.out) hg2
      have hown2 : Hid (w2.ownsRow wf.heap.size 3 1 (.slice a k c) k (vs.map (Value.int .i64))) := HOW.out.kept (row := some eb) hgx (Or.inr (fun e => by have := (HOW.out.lt eb e).1; have := HBf.out.size; omega))
      have HG2 := Lib.hid (grown_trans HG.out hgx)
      have HGW2 := Lib.hid (grown_trans HGW.out hgx)
      have hz2' : wf.heap.size ≤ w2.heap.size := HG2.out.size
      clear hg2 hgx
      by_cases hc : cd = 0
      · subst hc
        have HE2 := Lib.hid (hev2.out rfl)
        have HSQ : Hid (seqF (gs.take (k + 1)) fu = (vs ++ [v], 0, fn)) := by show _ = _; rw [HAP2.out, if_pos rfl]
        go_wp2_with (at_builtin; refine wpList_append_lies ?pw ?p1 ?ps ?px 71 ?p2 wf.heap.size 3 it0 (.int .i64 0) 1 8 ?p3 ?p4 ?p5 ?p6 ?p7 ?p8 ?p9 (.slice a k c) k (vs.map (Value.int .i64)) ?p10 ?ph1 ⟨w2.heap.size, 0, none⟩ 1 1 [.int .i64 v] ?p11 ?p12 ?ph2 ?ph3 ?pc1 ?pc2 ?pc3 ?pc4 (w2.heap.size + 1) ?pc5 ?_; (case p1 => rfl); (case p2 => rfl); (case p10 => rfl); (case p11 => rfl); (case ph1 => exact hown2.out.alloc _); (case p3 => exact Tryz.underlying71); (case p4 => exact hi); (case p5 => exact hz0); (case p6 => exact hz1); (case p7 => exact hz2); (case p8 => rfl); (case p9 => decide); (case p12 => rfl); (case ph2 => exact World.news_of_block (heap_alloc_new w2 _)); (case ph3 => intro u hu; simp at hu; subst hu; rfl); (case pc1 => decide); (case pc2 => unfold maxLen; omega); (case pc3 => omega); (case pc4 => simp only [World.size_alloc]; omega); (case pc5 => simp only [World.size_alloc]); intro g2 cp2 wz hownZ hgrowZ hatZ hltZ)
        have hbx : Below w2.heap.size w2 (w2.alloc (.cells #[.int .i64 v] 3)) := (Below.refl _ _).alloc (Nat.le_refl _) _
        have hbw := HBf.out.size
        have hnb : ∀ i, i < wf.heap.size → some i ≠ (Value.slice a k c).ownBlock := fun i hi e => by have := (hown2.out.lt i e.symm).1; omega
        have hE3 : Hid (Ev wz eb na nl nc fn) := (HE2.out.kept hbx).blk (hgrowZ.block eb (by have := hbx.size; omega) (hnb eb (by omega))) hgrowZ.size
        have hgz : wf.grownBy wz (some eb) := ⟨hgrowZ.os.trans (hbx.os.trans HG2.out.os), hgrowZ.tape.trans (hbx.tape.trans HG2.out.tape), hgrowZ.output.trans (hbx.output.trans HG2.out.output), Nat.le_trans HG2.out.size (Nat.le_trans hbx.size hgrowZ.size), fun i hi hne => (hgrowZ.block i (by have := hbx.size; omega) (hnb i hi)).trans ((hbx.block i (by omega)).trans (HG2.out.block i hi hne))⟩
        have hownV : wz.ownsRow wf.heap.size 3 1 (.slice (some ⟨g2, 0, none⟩) (k + 1) cp2) (k + 1) ((vs ++ [v]).map (Value.int .i64)) := by rw [List.map_append]; exact hownZ
        go_wp2_with fail
        go_roundw
        case rel => exact ⟨k + 1, cp2, some ⟨g2, 0, none⟩, vs ++ [v], fn, by omega, by go_num, rfl, hownV, HSQ, so4.1, by omega, hE3, hgz⟩
        case measure => simp [intOf]; omega
      · have z : (cd != 0) = true := by simpa using hc
        have HFAc : Hid ((seqF (gs.take 2) fu).2.1 = cd) := HFA.out hc
        have HSV : Hid (sv = ⟨0, cd, (seqF (gs.take 2) fu).2.2⟩) := by show _ = _; rw [HE.out, if_pos (by rw [HFAc.out]; exact hc), HFAc.out]
        have HC := Lib.hid hc
        clear hc
        go_wp2
        go_ret2
        refine ⟨?_, fun h => ?_, HGW2.out⟩
        · show Ending.returned (.tuple #[.int .i64 0, .int .i64 cd]) = _
          rw [HSV.out]
        · rw [HSV.out] at h; exact absurd h HC.out
    · obtain rfl : k = 2 := by omega
      have HQ := hsq
      have hqo := HQO.out
      rw [HQ.out] at hqo
      obtain ⟨-, -, hqv2, hql2⟩ := hqo
      dsimp only at hqv2 hql2
      have HVS := Lib.hid hqv2
      have HVL := Lib.hid (hql2 rfl)
      have HSE := Lib.hid HE.out
      rw [HQ.out] at HSE
      rw [if_neg (by simp)] at HSE
      dsimp only at HSE
      have HI := Lib.hid (ints_own (N := fun b => b ≠ eb) hown (fun b hb => by have := HBf.out.size; omega))
      have ca4 : wr.cell? ⟨w.heap.size, 4, none⟩ = some (Value.slice ma ms.length mc) := by rw [Lib.cell_of_heap HAr.out]; rfl
      clear hown hg hqv2 hql2 hge
      rcases Int.lt_or_le fr (1 + (ms.length : Int)) with hb | hb
      · have HSV : Hid (sv = ⟨0, 1, fr⟩) := by show _ = _; rw [HSE.out, if_pos hb]
        have HB := Lib.hid (takeNo (1 + (ms.length : Int)) fr eb na nl nc wr hb hev.out)
        go_wp2_with fail
        refine HB.out.mono ?_
        rintro e w2 ⟨rfl, rfl⟩
        go_wp2
        go_ret2
        refine ⟨?_, fun h => ?_, HGW.out⟩
        · show Ending.returned (.tuple #[.int .i64 0, .int .i64 1]) = _
          rw [HSV.out]
        · rw [HSV.out] at h; cases h
      have HB := Lib.hid (takeYes (1 + (ms.length : Int)) fr eb na nl nc wr hb (by omega) (by omega) hev.out)
      rw [if_neg (by omega)] at HSE
      go_wp2_with fail
      refine HB.out.mono ?_
      rintro e w2 ⟨rfl, hev2, hg2⟩
      have HEV2 := Lib.hid hev2
      have HG2 := Lib.hid (grown_trans HGW.out hg2)
      have HI2 := Lib.hid (HI.out.kept (same_ne hg2))
      have HA2 := Lib.hid ((hg2.block w.heap.size (Array.getElem?_eq_some_iff.1 HAr.out).1 (by intro e; simp only [Option.some.injEq] at e; omega)).trans HAr.out)
      have ca0 : w2.cell? ⟨w.heap.size, 0, none⟩ = some (Value.int .i64 9) := by rw [Lib.cell_of_heap HA2.out]; rfl
      have ca1 : w2.cell? ⟨w.heap.size, 1, none⟩ = some (Value.int .i64 n) := by rw [Lib.cell_of_heap HA2.out]; rfl
      have ca2 : w2.cell? ⟨w.heap.size, 2, none⟩ = some (Value.string s) := by rw [Lib.cell_of_heap HA2.out]; rfl
      have ca3 : w2.cell? ⟨w.heap.size, 3, none⟩ = some (Value.slice ka ks.length kc) := by rw [Lib.cell_of_heap HA2.out]; rfl
      have ca4' : w2.cell? ⟨w.heap.size, 4, none⟩ = some (Value.slice ma ms.length mc) := by rw [Lib.cell_of_heap HA2.out]; rfl
      clear ca4 hev2 hg2 HB hev
      rw [if_pos trivial] at HSE
      rw [← HGS.out] at HSE
      have FV : Hid (0 ≤ fr - (1 + (ms.length : Int)) ∧ fr - (1 + (ms.length : Int)) ≤ 1000) := ⟨by omega, by omega⟩
      have hTS : Hid (∀ W, Below w2.heap.size w2 W → Calls Tryz.prog (saysF 9) #[.agg #[], .pointer (some ⟨eb, 0, none⟩), .agg #[.int .i64 9, .int .i64 n, .string s, .slice ka ks.length kc, .slice ma ms.length mc], .slice a 2 c] W fun e w' => e = .returned (.tuple #[.int .i64 sv.v, .int .i64 sv.c]) ∧ Hid (sv.c = 0 → Ev w' eb na nl nc sv.f) ∧ W.grownBy w' (some eb)) := fun W hW =>
        saysIf ns n s ks ka kc ma ms.length mc vs a c eb _ na nl nc W IH.out HK4.out ((HR.out.kept (same_ne HG2.out)).kept (same_of_below hW)) HOKS.out (HI2.out.kept (same_of_below hW)) (HEV2.out.kept hW) ((HP.out.kept (same_ne HG2.out)).kept (same_of_below hW)) hnl FV.out.1 FV.out.2 sv HSE.out
      obtain ⟨sv1, sv2, sv3⟩ := sv
      dsimp only at *
      have mk := fun W => meth_says 9 HIN.out W
      have nk := fun W => nil_says 9 HIN.out W
      have fk := fun a W => call_says 9 HIN.out a W
      have sz2 : w.heap.size < w2.heap.size := (Array.getElem?_eq_some_iff.1 HA2.out).1
      go_wp2_with fail
      go_region_with (first
        | (go_at_call 76; refine (opOf 9 _ HIN.out).mono ?_; rintro e w3 ⟨rfl, d3⟩; have d3' : Below w2.heap.size w2 w3 := ⟨d3.os, d3.tape, d3.output, d3.size, d3.block⟩; have e0' := (d3'.cell (p := ⟨w.heap.size, 0, none⟩) sz2).trans ca0; have e1' := (d3'.cell (p := ⟨w.heap.size, 1, none⟩) sz2).trans ca1; have e2' := (d3'.cell (p := ⟨w.heap.size, 2, none⟩) sz2).trans ca2; have e3' := (d3'.cell (p := ⟨w.heap.size, 3, none⟩) sz2).trans ca3; have e4' := (d3'.cell (p := ⟨w.heap.size, 4, none⟩) sz2).trans ca4')
        | (refine (hTS.out _ d3').mono ?_; rintro e w4 ⟨rfl, hev4, hg4⟩))
      all_goals
        go_wp2
        go_ret2
        exact ⟨rfl, hev4, grown_trans HG2.out (grown_trans (grown_any d3') hg4)⟩
theorem ofCI (ns : List (ByteArray × Int)) : ∀ (k : Nat) (t : Tr), wT t ≤ k → EvAt 53 ns t
  | 0, .node o n s ks ms, hw => by rw [wT] at hw; omega
  | k + 1, .node o n s ks ms, hw => by
    rw [wT] at hw
    have ih : ∀ t ∈ ks, EvAt 53 ns t := fun t ht => ofCI ns k t (by have := wL_mem ht; omega)
    by_cases h9 : o = 9
    · subst h9; exact ofIfI ns n s ks ms ih
    · exact ofOpI ns o n s ks ms h9 ih
end Go.Proofs.YtjphjnopdlfplaaGreatDoor
