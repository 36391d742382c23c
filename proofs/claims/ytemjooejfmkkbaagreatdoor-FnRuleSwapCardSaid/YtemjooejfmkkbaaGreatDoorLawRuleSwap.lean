/-
  The law FnRuleSwap's own walk.
-/
import Derived.Test.YtemjooejfmkkbaaGreatDoorJ44
import Derived.Test.YtemjooejfmkkbaaGreatDoorFuelMath
import Derived.Test.YtemjooejfmkkbaaGreatDoorJ24
import Derived.Lib.QuietBelow
import Derived.Deep.RegionWith
import Derived.Deep.RegionLaw
import Derived.Deep.DeepMust
namespace Go.Proofs.YtemjooejfmkkbaaGreatDoor
open Go.RowKit
set_option linter.unusedVariables false
set_option linter.unusedSimpArgs false

theorem joinS_two (sep : UInt8) (x y : ByteArray) : (joinS sep [x, y]).length = x.size + 1 + y.size := by
  unfold joinS
  rw [List.map_cons, Lib.join_length]
  have hx : x.data.toList.length = x.size := by simp
  have hy : y.data.toList.length = y.size := by simp
  simp only [Lib.lens, List.map_cons, List.map_nil, List.sum_cons, List.sum_nil, List.length_cons, List.length_nil]
  omega
theorem swap_okR {o n : Int} {s : ByteArray} {a b : Tr} {ms : List (Int × Int)} (h : okR (.node o n s [a, b] ms)) (ho : o = 3 ∨ o = 5 ∨ o = 7 ∨ o = 8) : okR (.node o 0 ⟨#[]⟩ [b, a] []) := by
  obtain ⟨h1, h2⟩ := h
  refine ⟨swap_parts ho h1, ?_⟩
  have hp := (okP_parts (okR_P h1)).1.2
  unfold HoldsN at hp
  rw [if_neg (by omega), if_neg (by omega), if_neg (by omega)] at hp
  have hm := hp.2.2
  rw [textT, if_neg (by omega), if_neg (by omega)] at h2 ⊢
  simp only [textsL, List.length_append, List.length_cons, List.length_nil, joinS_two, hm, if_true] at h2 ⊢
  omega
/-- P14, of both answers. -/
theorem swap_both (ns : List (ByteArray × Int)) {o n : Int} {s : ByteArray} {a b : Tr} {ms : List (Int × Int)} (h : okR (.node o n s [a, b] ms)) (h4 : o ≠ 4) :
    okR (.node o 0 ⟨#[]⟩ [b, a] []) ∧ ((ruleOfV (.node o n s [a, b] ms) ns 1000).2 = 0 ↔ (ruleOfV (.node o 0 ⟨#[]⟩ [b, a] []) ns 1000).2 = 0) ∧ ((ruleOfV (.node o n s [a, b] ms) ns 1000).2 = 0 → (ruleOfV (.node o n s [a, b] ms) ns 1000).1 = (ruleOfV (.node o 0 ⟨#[]⟩ [b, a] []) ns 1000).1) := by
  have ho := swap_op (okR_P h.1) h4
  have h' := swap_okR h ho
  have e := swap_law ns (okR_P h.1) (okR_P h'.1) ho
  refine ⟨h', ?_⟩
  unfold ruleOfV
  rw [if_pos ⟨h, by decide, by decide⟩, if_pos ⟨h', by decide, by decide⟩]
  exact e
theorem tree_top {w : World} {t : Tr} {f : Fld} (h : TrF All w t f) : f.op = t.op ∧ f.kl = t.kids.length := by
  obtain ⟨o, n, s, ks, ms⟩ := t
  obtain ⟨e1, -, -, -, hk, -⟩ := trF_iff.1 h
  exact ⟨e1, hk.1⟩

/-- What holds between the operations that lay a turned rule. -/
structure SWJ (w0 : World) (M : Nat → Value) (T Z : Array Value) (yc : Value → Array Value) (L : Nat → Bool) (f : Nat → Value) (W : World) : Prop where
  below : Below w0.heap.size w0 W
  pre : ∀ i, i < 10 → L i = true → f i = M i
  kid : L 10 = true → ∃ g, f 10 = .slice (some ⟨g, 0, none⟩) 2 2 ∧ w0.heap.size ≤ g ∧ W.heap[g]? = some (.cells T 38 (0, 0)) ∧ (L 12 = true → ∃ b, f 12 = .pointer (some ⟨b, 0, none⟩) ∧ g ≠ b)
  bld : L 11 = true → f 11 = .agg (yc (f 10))
  box : L 12 = true → ∃ b, f 12 = .pointer (some ⟨b, 0, none⟩) ∧ w0.heap.size ≤ b ∧ W.heap[b]? = some (.cells (if L 13 then yc (f 10) else Z) 38 (0, 0))
section
variable {w0 : World} {M : Nat → Value} {T Z : Array Value} {yc : Value → Array Value} {L : Nat → Bool} {f : Nat → Value} {W : World}
theorem SWJ.start (h : Below w0.heap.size w0 W) : SWJ w0 M T Z yc (fun _ => false) f W := ⟨h, fun _ _ a => (by cases a), fun a => (by cases a), fun a => (by cases a), fun a => (by cases a)⟩
theorem SWJ.read (h : SWJ w0 M T Z yc L f W) {i : Nat} (hi : i < 10) {v : Value} (hv : v = M i) : SWJ w0 M T Z yc (upd L i true) (upd f i v) W := by
  have u : ∀ {α : Type} (g : Nat → α) (x : α) (j : Nat), 10 ≤ j → upd g i x j = g j := fun g x j hj => upd_ne g x (by omega)
  refine ⟨h.below, fun j hj hL => ?_, ?_, ?_, ?_⟩
  · by_cases e : j = i
    · subst e; rw [upd_self]; exact hv
    · rw [upd_ne _ _ e] at hL ⊢; exact h.pre j hj hL
  · rw [u _ _ 10 (by omega), u _ _ 10 (by omega), u _ _ 12 (by omega), u _ _ 12 (by omega)]; exact h.kid
  · rw [u _ _ 10 (by omega), u _ _ 11 (by omega), u _ _ 11 (by omega)]; exact h.bld
  · rw [u _ _ 10 (by omega), u _ _ 12 (by omega), u _ _ 12 (by omega), u _ _ 13 (by omega)]; exact h.box
theorem SWJ.kids (h : SWJ w0 M T Z yc L f W) (h11 : L 11 = false) (h13 : L 13 = false) : SWJ w0 M T Z yc (upd L 10 true) (upd f 10 (.slice (some ⟨W.heap.size, 0, none⟩) 2 2)) (W.alloc (.cells T 38)) := by
  have u : ∀ {α : Type} (g : Nat → α) (x : α) (j : Nat), j ≠ 10 → upd g 10 x j = g j := fun g x j hj => upd_ne g x hj
  refine ⟨h.below.alloc h.below.size _, fun j hj hL => ?_, fun _ => ⟨W.heap.size, upd_self _ _ _, h.below.size, heap_alloc_new W _, ?_⟩, ?_, ?_⟩
  · rw [u _ _ _ (by omega)] at hL ⊢; exact h.pre j hj hL
  · rw [u _ _ 12 (by decide), u _ _ 12 (by decide)]
    intro h12
    obtain ⟨b, e, -, hb⟩ := h.box h12
    have := (Array.getElem?_eq_some_iff.1 hb).1
    exact ⟨b, e, by omega⟩
  · rw [u _ _ 11 (by decide), h11]; exact fun a => by cases a
  · rw [u _ _ 12 (by decide), u _ _ 12 (by decide), u _ _ 13 (by decide), h13]
    intro h12
    obtain ⟨b, e, hb0, hb⟩ := h.box h12
    rw [h13] at hb
    have := (Array.getElem?_eq_some_iff.1 hb).1
    exact ⟨b, e, hb0, (Lib.alloc_old W _ b this).trans hb⟩
theorem SWJ.build (h : SWJ w0 M T Z yc L f W) {v : Value} (hv : v = .agg (yc (f 10))) : SWJ w0 M T Z yc (upd L 11 true) (upd f 11 v) W := by
  have u : ∀ {α : Type} (g : Nat → α) (x : α) (j : Nat), j ≠ 11 → upd g 11 x j = g j := fun g x j hj => upd_ne g x hj
  refine ⟨h.below, fun j hj hL => ?_, ?_, fun _ => ?_, ?_⟩
  · rw [u _ _ _ (by omega)] at hL ⊢; exact h.pre j hj hL
  · rw [u _ _ 10 (by decide), u _ _ 10 (by decide), u _ _ 12 (by decide), u _ _ 12 (by decide)]; exact h.kid
  · rw [u _ _ 10 (by decide), upd_self]; exact hv
  · rw [u _ _ 10 (by decide), u _ _ 12 (by decide), u _ _ 12 (by decide), u _ _ 13 (by decide)]; exact h.box
theorem SWJ.new (h : SWJ w0 M T Z yc L f W) (h13 : L 13 = false) : SWJ w0 M T Z yc (upd L 12 true) (upd f 12 (.pointer (some ⟨W.heap.size, 0, none⟩))) (W.alloc (.cells Z 38)) := by
  have u : ∀ {α : Type} (g : Nat → α) (x : α) (j : Nat), j ≠ 12 → upd g 12 x j = g j := fun g x j hj => upd_ne g x hj
  refine ⟨h.below.alloc h.below.size _, fun j hj hL => ?_, ?_, ?_, fun _ => ⟨W.heap.size, upd_self _ _ _, h.below.size, ?_⟩⟩
  · rw [u _ _ _ (by omega)] at hL ⊢; exact h.pre j hj hL
  · rw [u _ _ 10 (by decide), u _ _ 10 (by decide), upd_self, upd_self]
    intro h10
    obtain ⟨g, e, hg0, hg, -⟩ := h.kid h10
    have := (Array.getElem?_eq_some_iff.1 hg).1
    exact ⟨g, e, hg0, (Lib.alloc_old W _ g this).trans hg, fun _ => ⟨_, rfl, by omega⟩⟩
  · rw [u _ _ 10 (by decide), u _ _ 11 (by decide), u _ _ 11 (by decide)]; exact h.bld
  · rw [u _ _ 10 (by decide), u _ _ 13 (by decide), h13]
    exact heap_alloc_new W _
theorem SWJ.store (h : SWJ w0 M T Z yc L f W) {b : Nat} (h10 : L 10 = true) (h12 : L 12 = true) (h13 : L 13 = false) (hb : f 12 = .pointer (some ⟨b, 0, none⟩)) (v : Value) : SWJ w0 M T Z yc (upd L 13 true) (upd f 13 v) (W.setRow b (yc (f 10))) := by
  have u : ∀ {α : Type} (g : Nat → α) (x : α) (j : Nat), j ≠ 13 → upd g 13 x j = g j := fun g x j hj => upd_ne g x hj
  obtain ⟨b', e', hb0, hbh⟩ := h.box h12
  obtain rfl : b' = b := by rw [e'] at hb; injection hb with hb; injection hb with hb; injection hb
  refine ⟨h.below.trans ⟨rfl, rfl, rfl, by simp, fun i hi => setRow_other _ _ _ _ (by omega)⟩, fun j hj hL => ?_, ?_, ?_, fun _ => ⟨b', by rw [u _ _ 12 (by decide)]; exact hb, hb0, ?_⟩⟩
  · rw [u _ _ _ (by omega)] at hL ⊢; exact h.pre j hj hL
  · rw [u _ _ 10 (by decide), u _ _ 10 (by decide), u _ _ 12 (by decide), u _ _ 12 (by decide)]
    intro _
    obtain ⟨g, e, hg0, hg, hne⟩ := h.kid h10
    obtain ⟨b2, e2, hn⟩ := hne h12
    obtain rfl : b2 = b' := by rw [e2] at hb; injection hb with hb; injection hb with hb; injection hb
    exact ⟨g, e, hg0, (setRow_other _ _ _ _ hn).trans hg, fun _ => ⟨b2, e2, hn⟩⟩
  · rw [u _ _ 10 (by decide), u _ _ 11 (by decide), u _ _ 11 (by decide)]; exact h.bld
  · rw [u _ _ 10 (by decide), upd_self, if_pos rfl]
    exact setRow_heap _ _ _ _ _ _ hbh
end
set_option maxRecDepth 20000 in
set_option maxHeartbeats 16000000 in
theorem lawRuleSwap (a0 : Option Addr) (len0 cap0 : Nat) (z0 : List Int) (w : World) (w0 : IsRow .u8 w a0 len0 cap0 z0) (hL : Laid w) :
    Calls Tryz.prog 10 #[.slice a0 len0 cap0] w fun e w' => e = .returned (.bool true) ∧ Below w.heap.size w w' := by
  rcases Nat.lt_or_ge 1048576 len0 with hb0 | hb0
  · clear w0
    go_enter Tryz.func10, Tryz.ntmps10
    go_wp2
    go_ret
    exact ⟨rfl, Below.refl _ _⟩
  have hd := drawRuleOf a0 len0 cap0 z0 w w0
  unfold DrawnRO Fld.val at hd
  have HD := Lib.hid hd
  have HL := Lib.hid hL
  clear w0 hd hL
  go_enter Tryz.func10, Tryz.ntmps10
  go_wp2_with fail
  refine HD.out.mono ?_
  rintro e w1 ⟨t, f, ns, na, nl, nc, fu, rfl, ht, hsz, hp, hn6, hfu, d1⟩
  have hXb := heap_alloc_new w1 (.cells #[.int .i64 0, .int .i64 0, .string ⟨#[]⟩, .slice none 0 0, .slice none 0 0] 38)
  obtain ⟨W2, hW2, hX2, hB2⟩ := box_rule (w1 := w1) f
  obtain ⟨y0, y1, y2, y3, y4⟩ := box_cells (w1 := w1) hX2 (Below.refl _ _)
  have hT2 := ht.kept (same_of_below (N := All) hB2)
  have hP2 := hp.kept (same_of_below (N := All) hB2)
  have hBw := d1.trans (hB2.mono d1.size)
  have HT2 := Lib.hid hT2
  have HP2 := Lib.hid hP2
  have HX2 := Lib.hid hX2
  have HBW := Lib.hid hBw
  have HSZ : Hid (szT t ≤ 1048576) := Lib.hid (by omega)
  have HFU := Lib.hid hfu
  clear HD ht hp d1 hT2 hP2 hX2 hBw hB2 hsz hfu
  rw [hW2] at y0 y1 y2 y3 y4
  have HW2 := Lib.hid hW2
  clear hW2
  go_wp2_with (first
    | (refine wpList_store_row rfl 38 _ _ rfl w1.heap.size #[.int .i64 f.op, .int .i64 f.num, .string f.name, .slice f.ka f.kl f.kc, .slice f.ma f.ml f.mc] rfl rfl 38 #[.int .i64 0, .int .i64 0, .string ⟨#[]⟩, .slice none 0 0, .slice none 0 0] hXb ruleSize rfl (by simp [Value.oneCell']) ?_)
    | fail)
  clear hXb y0 y1 y2 y3 y4
  rw [← HW2.out]
  clear HW2
  have L2 := laid_stays HL.out HBW.out
  have hI := implRuleOf t f ns na nl nc fu W2 HT2.out HSZ.out HP2.out (by omega) L2
  unfold Fld.val at hI
  have HI := Lib.hid hI
  clear hI
  refine HI.out.mono ?_
  rintro e w3 ⟨rfl, d3⟩
  generalize hX : w1.heap.size = X at *
  have HXe := Lib.hid hX
  clear hX
  obtain ⟨y0, y1, y2, y3, y4⟩ := box_cells (w1 := w1) HX2.out d3
  have D3 := Lib.hid d3
  have hS := specRuleOf t f ns na nl nc fu w3 (HT2.out.kept (same_of_below D3.out)) HSZ.out (HP2.out.kept (same_of_below D3.out)) (by omega)
  unfold Fld.val at hS
  have HS := Lib.hid hS
  clear d3 hS HI
  obtain ⟨n, k, hnk⟩ : ∃ n k, ruleOfV t ns fu = (n, k) := ⟨_, _, rfl⟩
  rw [hnk] at HS ⊢
  have HNK := Lib.hid hnk
  clear hnk
  dsimp only at HS ⊢
  go_wp2_with fail
  refine HS.out.mono ?_
  rintro e w4 ⟨rfl, d4⟩
  clear HS y0 y1 y2 y3 y4
  have D4 : Hid (Below W2.heap.size W2 w4) := D3.out.trans (d4.mono D3.out.size)
  clear d4 D3
  obtain ⟨y0, y1, y2, y3, y4⟩ := box_cells (w1 := w1) HX2.out D4.out
  have L4 := laid_stays (laid_stays HL.out HBW.out) D4.out
  have HL4 := Lib.hid L4
  have T4 := HT2.out.kept (same_of_below D4.out)
  have HT4 := Lib.hid T4
  clear L4 T4
  obtain ⟨ok, hok⟩ : ∃ ok, decide (okR t) = ok := ⟨_, rfl⟩
  have HOKE := Lib.hid hok
  obtain ⟨e1, e2⟩ := tree_top HT4.out
  have HP4 := Lib.hid (HP2.out.kept (same_of_below D4.out))
  cases ok with
  | false =>
    clear hok e1 e2
    have cA : ∀ dd os, Calls Tryz.prog 37 #[.agg #[.int .i64 f.op, .int .i64 f.num, .string f.name, .slice f.ka f.kl f.kc, .slice f.ma f.ml f.mc]] (Go.Sort.grow (redrawn w4 dd) os) fun e w'' => e = .returned (.bool false) ∧ ∃ p : Regrown, w'' = Go.Sort.grow (redrawn w4 p.d) p.os := fun dd os => Calls.regrown_of (by have hq := implRuleOk (HT4.out.kept (same_of_below (below_regrown w4 dd os))) HSZ.out (laid_stays HL4.out (below_regrown w4 dd os)); rw [HOKE.out] at hq; unfold Fld.val at hq; exact hq)
    have cB : ∀ dd os, Calls Tryz.prog 38 #[.agg #[.int .i64 f.op, .int .i64 f.num, .string f.name, .slice f.ka f.kl f.kc, .slice f.ma f.ml f.mc]] (Go.Sort.grow (redrawn w4 dd) os) fun e w'' => e = .returned (.bool false) ∧ ∃ p : Regrown, w'' = Go.Sort.grow (redrawn w4 p.d) p.os := fun dd os => Calls.regrown_of (by have hq := specRuleOk (HT4.out.kept (same_of_below (below_regrown w4 dd os))) HSZ.out; rw [HOKE.out] at hq; unfold Fld.val at hq; exact hq)
    have r0 := cell_regrown y0
    have r1 := cell_regrown y1
    have r2 := cell_regrown y2
    have r3 := cell_regrown y3
    have r4 := cell_regrown y4
    go_wp2_with fail
    refine wp_region_quiet_below (by kernel_rfl) (by kernel_rfl) ?_
    repeat (quiet_step (first | exact cA _ _ | exact cB _ _))
    refine wpQuiet_nil ?_
    intro _ hw'
    obtain ⟨⟨dq, osq⟩, hw''⟩ := hw'
    subst hw''
    clear cA cB r0 r1 r2 r3 r4
    have D6 : Below w4.heap.size w4 (Go.Sort.grow (redrawn w4 dq) osq) := below_regrown w4 dq osq
    have D6' : Below W2.heap.size W2 (Go.Sort.grow (redrawn w4 dq) osq) := D4.out.trans (D6.mono D4.out.size)
    have HB6 : Hid (Below w.heap.size w (Go.Sort.grow (redrawn w4 dq) osq)) := HBW.out.trans (D6'.mono HBW.out.size)
    obtain ⟨z0, z1, z2, z3, z4⟩ := box_cells (w1 := w1) HX2.out D6'
    have HT6 := Lib.hid (HT4.out.kept (same_of_below D6))
    have HL6 := Lib.hid (laid_stays HL4.out D6)
    clear y0 y1 y2 y3 y4 D6 D6'
    generalize Go.Sort.grow (redrawn w4 dq) osq = w6 at *
    have cA6 : ∀ dd os, Calls Tryz.prog 37 #[.agg #[.int .i64 f.op, .int .i64 f.num, .string f.name, .slice f.ka f.kl f.kc, .slice f.ma f.ml f.mc]] (Go.Sort.grow (redrawn w6 dd) os) fun e w'' => e = .returned (.bool false) ∧ ∃ p : Regrown, w'' = Go.Sort.grow (redrawn w6 p.d) p.os := fun dd os => Calls.regrown_of (by have hq := implRuleOk (HT6.out.kept (same_of_below (below_regrown w6 dd os))) HSZ.out (laid_stays HL6.out (below_regrown w6 dd os)); rw [HOKE.out] at hq; unfold Fld.val at hq; exact hq)
    have cB6 : ∀ dd os, Calls Tryz.prog 38 #[.agg #[.int .i64 f.op, .int .i64 f.num, .string f.name, .slice f.ka f.kl f.kc, .slice f.ma f.ml f.mc]] (Go.Sort.grow (redrawn w6 dd) os) fun e w'' => e = .returned (.bool false) ∧ ∃ p : Regrown, w'' = Go.Sort.grow (redrawn w6 p.d) p.os := fun dd os => Calls.regrown_of (by have hq := specRuleOk (HT6.out.kept (same_of_below (below_regrown w6 dd os))) HSZ.out; rw [HOKE.out] at hq; unfold Fld.val at hq; exact hq)
    have r0 := cell_regrown z0
    have r1 := cell_regrown z1
    have r2 := cell_regrown z2
    have r3 := cell_regrown z3
    have r4 := cell_regrown z4
    go_wp2_with fail
    refine wp_region_quiet_below (by kernel_rfl) (by kernel_rfl) ?_
    repeat (quiet_step (first | exact cA6 _ _ | exact cB6 _ _))
    refine wpQuiet_nil ?_
    intro _ hw'
    obtain ⟨⟨dq, osq⟩, hw''⟩ := hw'
    subst hw''
    go_wp2
    go_ret
    exact ⟨rfl, HB6.out.trans ((below_regrown w6 dq osq).mono HB6.out.size)⟩
  | true =>
    have hokt : okR t := by simpa using hok
    clear hok
    by_cases h2 : t.kids.length = 2
    rotate_left
    · have g2 : ((f.kl : Int) != 2) = true := by rw [e2]; simp; omega
      clear e1 e2 h2 hokt
      have cA : ∀ dd os, Calls Tryz.prog 37 #[.agg #[.int .i64 f.op, .int .i64 f.num, .string f.name, .slice f.ka f.kl f.kc, .slice f.ma f.ml f.mc]] (Go.Sort.grow (redrawn w4 dd) os) fun e w'' => e = .returned (.bool true) ∧ ∃ p : Regrown, w'' = Go.Sort.grow (redrawn w4 p.d) p.os := fun dd os => Calls.regrown_of (by have hq := implRuleOk (HT4.out.kept (same_of_below (below_regrown w4 dd os))) HSZ.out (laid_stays HL4.out (below_regrown w4 dd os)); rw [HOKE.out] at hq; unfold Fld.val at hq; exact hq)
      have cB : ∀ dd os, Calls Tryz.prog 38 #[.agg #[.int .i64 f.op, .int .i64 f.num, .string f.name, .slice f.ka f.kl f.kc, .slice f.ma f.ml f.mc]] (Go.Sort.grow (redrawn w4 dd) os) fun e w'' => e = .returned (.bool true) ∧ ∃ p : Regrown, w'' = Go.Sort.grow (redrawn w4 p.d) p.os := fun dd os => Calls.regrown_of (by have hq := specRuleOk (HT4.out.kept (same_of_below (below_regrown w4 dd os))) HSZ.out; rw [HOKE.out] at hq; unfold Fld.val at hq; exact hq)
      have r0 := cell_regrown y0
      have r1 := cell_regrown y1
      have r2 := cell_regrown y2
      have r3 := cell_regrown y3
      have r4 := cell_regrown y4
      go_wp2_with fail
      refine wp_region_quiet_below (by kernel_rfl) (by kernel_rfl) ?_
      repeat (quiet_step (first | exact cA _ _ | exact cB _ _))
      refine wpQuiet_nil ?_
      intro _ hw'
      obtain ⟨⟨dq, osq⟩, hw''⟩ := hw'
      subst hw''
      clear cA cB r0 r1 r2 r3 r4
      have D6 : Below w4.heap.size w4 (Go.Sort.grow (redrawn w4 dq) osq) := below_regrown w4 dq osq
      have D6' : Below W2.heap.size W2 (Go.Sort.grow (redrawn w4 dq) osq) := D4.out.trans (D6.mono D4.out.size)
      have HB6 : Hid (Below w.heap.size w (Go.Sort.grow (redrawn w4 dq) osq)) := HBW.out.trans (D6'.mono HBW.out.size)
      obtain ⟨z0, z1, z2, z3, z4⟩ := box_cells (w1 := w1) HX2.out D6'
      have HT6 := Lib.hid (HT4.out.kept (same_of_below D6))
      have HL6 := Lib.hid (laid_stays HL4.out D6)
      clear y0 y1 y2 y3 y4 D6 D6'
      generalize Go.Sort.grow (redrawn w4 dq) osq = w6 at *
      have cA6 : ∀ dd os, Calls Tryz.prog 37 #[.agg #[.int .i64 f.op, .int .i64 f.num, .string f.name, .slice f.ka f.kl f.kc, .slice f.ma f.ml f.mc]] (Go.Sort.grow (redrawn w6 dd) os) fun e w'' => e = .returned (.bool true) ∧ ∃ p : Regrown, w'' = Go.Sort.grow (redrawn w6 p.d) p.os := fun dd os => Calls.regrown_of (by have hq := implRuleOk (HT6.out.kept (same_of_below (below_regrown w6 dd os))) HSZ.out (laid_stays HL6.out (below_regrown w6 dd os)); rw [HOKE.out] at hq; unfold Fld.val at hq; exact hq)
      have cB6 : ∀ dd os, Calls Tryz.prog 38 #[.agg #[.int .i64 f.op, .int .i64 f.num, .string f.name, .slice f.ka f.kl f.kc, .slice f.ma f.ml f.mc]] (Go.Sort.grow (redrawn w6 dd) os) fun e w'' => e = .returned (.bool true) ∧ ∃ p : Regrown, w'' = Go.Sort.grow (redrawn w6 p.d) p.os := fun dd os => Calls.regrown_of (by have hq := specRuleOk (HT6.out.kept (same_of_below (below_regrown w6 dd os))) HSZ.out; rw [HOKE.out] at hq; unfold Fld.val at hq; exact hq)
      have r0 := cell_regrown z0
      have r1 := cell_regrown z1
      have r2 := cell_regrown z2
      have r3 := cell_regrown z3
      have r4 := cell_regrown z4
      go_wp2_with fail
      refine wp_region_quiet_below (by kernel_rfl) (by kernel_rfl) ?_
      repeat (quiet_step (first | exact cA6 _ _ | exact cB6 _ _))
      refine wpQuiet_nil ?_
      intro _ hw'
      obtain ⟨⟨dq, osq⟩, hw''⟩ := hw'
      subst hw''
      go_wp2
      go_ret
      exact ⟨rfl, HB6.out.trans ((below_regrown w6 dq osq).mono HB6.out.size)⟩
    have g2 : ((f.kl : Int) != 2) = false := by rw [e2, h2]; rfl
    by_cases h4 : t.op = 4
    · have g4 : (f.op == 4) = true := by rw [e1]; simpa using h4
      clear e1 e2 h2 hokt h4
      have cA : ∀ dd os, Calls Tryz.prog 37 #[.agg #[.int .i64 f.op, .int .i64 f.num, .string f.name, .slice f.ka f.kl f.kc, .slice f.ma f.ml f.mc]] (Go.Sort.grow (redrawn w4 dd) os) fun e w'' => e = .returned (.bool true) ∧ ∃ p : Regrown, w'' = Go.Sort.grow (redrawn w4 p.d) p.os := fun dd os => Calls.regrown_of (by have hq := implRuleOk (HT4.out.kept (same_of_below (below_regrown w4 dd os))) HSZ.out (laid_stays HL4.out (below_regrown w4 dd os)); rw [HOKE.out] at hq; unfold Fld.val at hq; exact hq)
      have cB : ∀ dd os, Calls Tryz.prog 38 #[.agg #[.int .i64 f.op, .int .i64 f.num, .string f.name, .slice f.ka f.kl f.kc, .slice f.ma f.ml f.mc]] (Go.Sort.grow (redrawn w4 dd) os) fun e w'' => e = .returned (.bool true) ∧ ∃ p : Regrown, w'' = Go.Sort.grow (redrawn w4 p.d) p.os := fun dd os => Calls.regrown_of (by have hq := specRuleOk (HT4.out.kept (same_of_below (below_regrown w4 dd os))) HSZ.out; rw [HOKE.out] at hq; unfold Fld.val at hq; exact hq)
      have r0 := cell_regrown y0
      have r1 := cell_regrown y1
      have r2 := cell_regrown y2
      have r3 := cell_regrown y3
      have r4 := cell_regrown y4
      go_wp2_with fail
      refine wp_region_quiet_below (by kernel_rfl) (by kernel_rfl) ?_
      repeat (quiet_step (first | exact cA _ _ | exact cB _ _))
      refine wpQuiet_nil ?_
      intro _ hw'
      obtain ⟨⟨dq, osq⟩, hw''⟩ := hw'
      subst hw''
      clear cA cB r0 r1 r2 r3 r4
      have D6 : Below w4.heap.size w4 (Go.Sort.grow (redrawn w4 dq) osq) := below_regrown w4 dq osq
      have D6' : Below W2.heap.size W2 (Go.Sort.grow (redrawn w4 dq) osq) := D4.out.trans (D6.mono D4.out.size)
      have HB6 : Hid (Below w.heap.size w (Go.Sort.grow (redrawn w4 dq) osq)) := HBW.out.trans (D6'.mono HBW.out.size)
      obtain ⟨z0, z1, z2, z3, z4⟩ := box_cells (w1 := w1) HX2.out D6'
      have HT6 := Lib.hid (HT4.out.kept (same_of_below D6))
      have HL6 := Lib.hid (laid_stays HL4.out D6)
      clear y0 y1 y2 y3 y4 D6 D6'
      generalize Go.Sort.grow (redrawn w4 dq) osq = w6 at *
      have cA6 : ∀ dd os, Calls Tryz.prog 37 #[.agg #[.int .i64 f.op, .int .i64 f.num, .string f.name, .slice f.ka f.kl f.kc, .slice f.ma f.ml f.mc]] (Go.Sort.grow (redrawn w6 dd) os) fun e w'' => e = .returned (.bool true) ∧ ∃ p : Regrown, w'' = Go.Sort.grow (redrawn w6 p.d) p.os := fun dd os => Calls.regrown_of (by have hq := implRuleOk (HT6.out.kept (same_of_below (below_regrown w6 dd os))) HSZ.out (laid_stays HL6.out (below_regrown w6 dd os)); rw [HOKE.out] at hq; unfold Fld.val at hq; exact hq)
      have cB6 : ∀ dd os, Calls Tryz.prog 38 #[.agg #[.int .i64 f.op, .int .i64 f.num, .string f.name, .slice f.ka f.kl f.kc, .slice f.ma f.ml f.mc]] (Go.Sort.grow (redrawn w6 dd) os) fun e w'' => e = .returned (.bool true) ∧ ∃ p : Regrown, w'' = Go.Sort.grow (redrawn w6 p.d) p.os := fun dd os => Calls.regrown_of (by have hq := specRuleOk (HT6.out.kept (same_of_below (below_regrown w6 dd os))) HSZ.out; rw [HOKE.out] at hq; unfold Fld.val at hq; exact hq)
      have r0 := cell_regrown z0
      have r1 := cell_regrown z1
      have r2 := cell_regrown z2
      have r3 := cell_regrown z3
      have r4 := cell_regrown z4
      go_wp2_with fail
      refine wp_region_quiet_below (by kernel_rfl) (by kernel_rfl) ?_
      repeat (quiet_step (first | exact cA6 _ _ | exact cB6 _ _))
      refine wpQuiet_nil ?_
      intro _ hw'
      obtain ⟨⟨dq, osq⟩, hw''⟩ := hw'
      subst hw''
      go_wp2
      go_ret
      exact ⟨rfl, HB6.out.trans ((below_regrown w6 dq osq).mono HB6.out.size)⟩
    have g4 : (f.op == 4) = false := by rw [e1]; simpa using h4
    have HE1 := Lib.hid e1
    have HE2 := Lib.hid e2
    have H2X := Lib.hid h2
    have H4X := Lib.hid h4
    have HOT0 := Lib.hid hokt
    clear e1 e2 h2 h4 hokt
    have cA : ∀ dd os, Calls Tryz.prog 37 #[.agg #[.int .i64 f.op, .int .i64 f.num, .string f.name, .slice f.ka f.kl f.kc, .slice f.ma f.ml f.mc]] (Go.Sort.grow (redrawn w4 dd) os) fun e w'' => e = .returned (.bool true) ∧ ∃ p : Regrown, w'' = Go.Sort.grow (redrawn w4 p.d) p.os := fun dd os => Calls.regrown_of (by have hq := implRuleOk (HT4.out.kept (same_of_below (below_regrown w4 dd os))) HSZ.out (laid_stays HL4.out (below_regrown w4 dd os)); rw [HOKE.out] at hq; unfold Fld.val at hq; exact hq)
    have cB : ∀ dd os, Calls Tryz.prog 38 #[.agg #[.int .i64 f.op, .int .i64 f.num, .string f.name, .slice f.ka f.kl f.kc, .slice f.ma f.ml f.mc]] (Go.Sort.grow (redrawn w4 dd) os) fun e w'' => e = .returned (.bool true) ∧ ∃ p : Regrown, w'' = Go.Sort.grow (redrawn w4 p.d) p.os := fun dd os => Calls.regrown_of (by have hq := specRuleOk (HT4.out.kept (same_of_below (below_regrown w4 dd os))) HSZ.out; rw [HOKE.out] at hq; unfold Fld.val at hq; exact hq)
    have r0 := cell_regrown y0
    have r1 := cell_regrown y1
    have r2 := cell_regrown y2
    have r3 := cell_regrown y3
    have r4 := cell_regrown y4
    go_wp2_with fail
    refine wp_region_quiet_below (by kernel_rfl) (by kernel_rfl) ?_
    repeat (quiet_step (first | exact cA _ _ | exact cB _ _))
    refine wpQuiet_nil ?_
    intro _ hw'
    obtain ⟨⟨dq, osq⟩, hw''⟩ := hw'
    subst hw''
    clear cA cB r0 r1 r2 r3 r4 g2 g4
    have D6 : Below w4.heap.size w4 (Go.Sort.grow (redrawn w4 dq) osq) := below_regrown w4 dq osq
    have D6' : Below W2.heap.size W2 (Go.Sort.grow (redrawn w4 dq) osq) := D4.out.trans (D6.mono D4.out.size)
    have HB6 : Hid (Below w.heap.size w (Go.Sort.grow (redrawn w4 dq) osq)) := HBW.out.trans (D6'.mono HBW.out.size)
    have HX6 := Lib.hid ((D6'.block X (Array.getElem?_eq_some_iff.1 HX2.out).1).trans HX2.out)
    have HT6 := Lib.hid (HT4.out.kept (same_of_below D6))
    have HL6 := Lib.hid (laid_stays HL4.out D6)
    have HP6 := Lib.hid (HP4.out.kept (same_of_below D6))
    clear y0 y1 y2 y3 y4 D6 D6' HX2 HT2 HP2 D4 HT4 HL4 HP4 HBW HXe L2 HOKE HNK
    generalize Go.Sort.grow (redrawn w4 dq) osq = w6 at *
    have e1 := HE1.out
    have e2 := HE2.out
    have h2 := H2X.out
    have h4 := H4X.out
    have hokt := HOT0.out
    clear HE1 HE2 H2X H4X HOT0
    obtain ⟨o, tn, ts, ks, ms⟩ := t
    dsimp only [Tr.op, Tr.kids] at e1 e2 h2 h4
    obtain ⟨ka0, kb0, rfl⟩ : ∃ x y, ks = [x, y] := by
      match ks, h2 with
      | [x, y], _ => exact ⟨x, y, rfl⟩
    obtain ⟨fo, fn, fs, fka, fkl, fkc, fma, fml, fmc⟩ := f
    dsimp only at e1 e2 HX6 HT6
    subst e1
    have hsw := swap_both ns hokt h4
    obtain ⟨-, -, -, hmm, hkk, -, -⟩ := trF_iff.1 HT6.out
    dsimp only at hmm hkk
    have e2' : fkl = 2 := e2
    subst e2'
    obtain ⟨kb, off, hka, -, hbl, hrow⟩ := hkk.cells (by decide)
    subst hka
    obtain ⟨g0, ⟨p0, p1, p2, p3, p4⟩, ht0⟩ := hrow 0 (by simp)
    obtain ⟨g1, ⟨q0, q1, q2, q3, q4⟩, ht1⟩ := hrow 1 (by simp)
    simp only [Nat.zero_mul, Nat.add_zero, Nat.one_mul, List.getElem_cons_zero, List.getElem_cons_succ] at p0 p1 p2 p3 p4 q0 q1 q2 q3 q4 ht0 ht1
    have HT0 := Lib.hid ht0
    have HT1 := Lib.hid ht1
    have y0 : w6.cell? ⟨X, 0, none⟩ = some (.int .i64 fo) := by rw [Lib.cell_of_heap HX6.out]; rfl
    have y3 : w6.cell? ⟨X, 3, none⟩ = some (.slice (some ⟨kb, off, none⟩) 2 fkc) := by rw [Lib.cell_of_heap HX6.out]; rfl
    have HKB := Lib.hid hbl
    have HOT := Lib.hid hokt
    have HSW := Lib.hid hsw
    have hXl := (Array.getElem?_eq_some_iff.1 HX6.out).1
    clear hokt h4 h2 e2 hsw hmm hkk hrow ht0 ht1
    go_wp2_with fail
    refine wp_region_invK (by kernel_rfl) (fun _ L f W => SWJ w6 (fun i => [Value.pointer (some ⟨X, 0, none⟩), .int .i64 fo, .pointer (some ⟨X, 3, none⟩), .slice (some ⟨kb, off, none⟩) 2 fkc, .pointer (some ⟨kb, off + 5, none⟩), .agg #[.int .i64 g1.op, .int .i64 g1.num, .string g1.name, .slice g1.ka g1.kl g1.kc, .slice g1.ma g1.ml g1.mc], .pointer (some ⟨X, 3, none⟩), .slice (some ⟨kb, off, none⟩) 2 fkc, .pointer (some ⟨kb, off, none⟩), .agg #[.int .i64 g0.op, .int .i64 g0.num, .string g0.name, .slice g0.ka g0.kl g0.kc, .slice g0.ma g0.ml g0.mc]].getD i (.bool false)) #[.int .i64 g1.op, .int .i64 g1.num, .string g1.name, .slice g1.ka g1.kl g1.kc, .slice g1.ma g1.ml g1.mc, .int .i64 g0.op, .int .i64 g0.num, .string g0.name, .slice g0.ka g0.kl g0.kc, .slice g0.ma g0.ml g0.mc] #[.int .i64 0, .int .i64 0, .string ⟨#[]⟩, .slice none 0 0, .slice none 0 0] (fun v => #[.int .i64 fo, .int .i64 0, .string ⟨#[]⟩, v, .slice none 0 0]) L f W) (by kernel_rfl) (SWJ.start (Below.drew (Below.refl _ _))) ?_
    apply Exists.intro
    apply And.intro
    · intro f
      simp only [over, List.set]
      exact rfl
    refine ⟨?hops, ?hend⟩
    case hops =>
      refine EachOp.cons ?_ (EachOp.cons ?_ (EachOp.cons ?_ (EachOp.cons ?_ (EachOp.cons ?_ (EachOp.cons ?_ (EachOp.cons ?_ (EachOp.cons ?_ (EachOp.cons ?_ (EachOp.cons ?_ (EachOp.cons ?_ (EachOp.cons ?_ (EachOp.cons ?_ (EachOp.cons ?_ (EachOp.nil))))))))))))))
      · intro L ff kk ww hkk hJ hcl hLi hwt QQ' hQ
        try dsimp only
        have zy0 := (hJ.below.cell (World.block_lt_of_cell? _ _ y0)).trans y0
        go_big_wp2_with fail
        refine hQ _ _ _ ?_ (hJ.read (by decide) rfl)
        first | rfl | (simp [upd]; done)
      · intro L ff kk ww hkk hJ hcl hLi hwt QQ' hQ
        try dsimp only
        have c0' : ff 0 = _ := hJ.pre 0 (by decide) (hwt 0 (by decide))
        have zy0 := (hJ.below.cell (World.block_lt_of_cell? _ _ y0)).trans y0
        go_big_wp2_with fail
        refine hQ _ _ _ ?_ (hJ.read (by decide) rfl)
        first | rfl | (simp [upd, c0']; done)
      · intro L ff kk ww hkk hJ hcl hLi hwt QQ' hQ
        try dsimp only
        have zy3 := (hJ.below.cell (World.block_lt_of_cell? _ _ y3)).trans y3
        go_big_wp2_with fail
        refine hQ _ _ _ ?_ (hJ.read (by decide) rfl)
        first | rfl | (simp [upd]; done)
      · intro L ff kk ww hkk hJ hcl hLi hwt QQ' hQ
        try dsimp only
        have c2' : ff 2 = _ := hJ.pre 2 (by decide) (hwt 2 (by decide))
        have zy3 := (hJ.below.cell (World.block_lt_of_cell? _ _ y3)).trans y3
        go_big_wp2_with fail
        refine hQ _ _ _ ?_ (hJ.read (by decide) rfl)
        first | rfl | (simp [upd, c2']; done)
      · intro L ff kk ww hkk hJ hcl hLi hwt QQ' hQ
        try dsimp only
        have c3' : ff 3 = _ := hJ.pre 3 (by decide) (hwt 3 (by decide))
        go_big_wp2_with fail
        refine hQ _ _ _ ?_ (hJ.read (by decide) rfl)
        first | rfl | (simp [upd, c3']; done)
      · intro L ff kk ww hkk hJ hcl hLi hwt QQ' hQ
        try dsimp only
        have c4' : ff 4 = _ := hJ.pre 4 (by decide) (hwt 4 (by decide))
        have zq0 := (hJ.below.cell (World.block_lt_of_cell? _ _ q0)).trans q0
        have zq1 := (hJ.below.cell (World.block_lt_of_cell? _ _ q1)).trans q1
        have zq2 := (hJ.below.cell (World.block_lt_of_cell? _ _ q2)).trans q2
        have zq3 := (hJ.below.cell (World.block_lt_of_cell? _ _ q3)).trans q3
        have zq4 := (hJ.below.cell (World.block_lt_of_cell? _ _ q4)).trans q4
        go_big_wp2_with fail
        refine hQ _ _ _ ?_ (hJ.read (by decide) rfl)
        first | rfl | (simp [upd, c4']; done)
      · intro L ff kk ww hkk hJ hcl hLi hwt QQ' hQ
        try dsimp only
        have zy3 := (hJ.below.cell (World.block_lt_of_cell? _ _ y3)).trans y3
        go_big_wp2_with fail
        refine hQ _ _ _ ?_ (hJ.read (by decide) rfl)
        first | rfl | (simp [upd]; done)
      · intro L ff kk ww hkk hJ hcl hLi hwt QQ' hQ
        try dsimp only
        have c6' : ff 6 = _ := hJ.pre 6 (by decide) (hwt 6 (by decide))
        have zy3 := (hJ.below.cell (World.block_lt_of_cell? _ _ y3)).trans y3
        go_big_wp2_with fail
        refine hQ _ _ _ ?_ (hJ.read (by decide) rfl)
        first | rfl | (simp [upd, c6']; done)
      · intro L ff kk ww hkk hJ hcl hLi hwt QQ' hQ
        try dsimp only
        have c7' : ff 7 = _ := hJ.pre 7 (by decide) (hwt 7 (by decide))
        go_big_wp2_with fail
        refine hQ _ _ _ ?_ (hJ.read (by decide) rfl)
        first | rfl | (simp [upd, c7']; done)
      · intro L ff kk ww hkk hJ hcl hLi hwt QQ' hQ
        try dsimp only
        have c8' : ff 8 = _ := hJ.pre 8 (by decide) (hwt 8 (by decide))
        have zp0 := (hJ.below.cell (World.block_lt_of_cell? _ _ p0)).trans p0
        have zp1 := (hJ.below.cell (World.block_lt_of_cell? _ _ p1)).trans p1
        have zp2 := (hJ.below.cell (World.block_lt_of_cell? _ _ p2)).trans p2
        have zp3 := (hJ.below.cell (World.block_lt_of_cell? _ _ p3)).trans p3
        have zp4 := (hJ.below.cell (World.block_lt_of_cell? _ _ p4)).trans p4
        go_big_wp2_with fail
        refine hQ _ _ _ ?_ (hJ.read (by decide) rfl)
        first | rfl | (simp [upd, c8']; done)
      · intro L ff kk ww hkk hJ hcl hLi hwt QQ' hQ
        try dsimp only
        have c5' : ff 5 = _ := hJ.pre 5 (by decide) (hwt 5 (by decide))
        have c9' : ff 9 = _ := hJ.pre 9 (by decide) (hwt 9 (by decide))
        have n11 : L 11 = false := by
          cases hx : L 11 with
          | false => rfl
          | true =>
            have h2 : L 10 = true := hcl 11 _ rfl hx 10 (by decide)
            have h3 : L 10 = false := hLi
            rw [h2] at h3; cases h3
        have n13 : L 13 = false := by
          cases hx : L 13 with
          | false => rfl
          | true =>
            have h2 : L 10 = true := hcl 13 _ rfl hx 10 (by decide)
            have h3 : L 10 = false := hLi
            rw [h2] at h3; cases h3
        go_big_wp2_with fail
        refine hQ _ _ _ ?_ (hJ.kids n11 n13)
        first | rfl | (simp [upd, c5', c9']; done)
      · intro L ff kk ww hkk hJ hcl hLi hwt QQ' hQ
        try dsimp only
        have c1' : ff 1 = _ := hJ.pre 1 (by decide) (hwt 1 (by decide))
        obtain ⟨g, e10, -⟩ := hJ.kid (hwt 10 (by decide))
        go_big_wp2_with fail
        refine hQ _ _ _ ?_ (hJ.build (by rw [e10]))
        first | rfl | (simp [upd, c1', e10]; done)
      · intro L ff kk ww hkk hJ hcl hLi hwt QQ' hQ
        try dsimp only
        have n13 : L 13 = false := by
          cases hx : L 13 with
          | false => rfl
          | true =>
            have h2 : L 12 = true := hcl 13 _ rfl hx 12 (by decide)
            have h3 : L 12 = false := hLi
            rw [h2] at h3; cases h3
        go_big_wp2_with fail
        refine hQ _ _ _ ?_ (hJ.new n13)
        first | rfl | (simp [upd]; done)
      · intro L ff kk ww hkk hJ hcl hLi hwt QQ' hQ
        try dsimp only
        have h10 : L 10 = true := hwt 10 (by decide)
        have h12 : L 12 = true := hwt 12 (by decide)
        obtain ⟨g, e10, hg0, hg, -⟩ := hJ.kid h10
        obtain ⟨b, e12, hb0, hb⟩ := hJ.box h12
        have e11 := hJ.bld (hwt 11 (by decide))
        have hS := hJ.store (b := b) h10 h12 hLi e12 (.bool false)
        rw [show L 13 = false from hLi, if_neg (by decide)] at hb
        rw [e10] at e11 hS
        try dsimp only at e11 hS
        rw [e11, e12]
        go_big_wp2_with (first
          | (refine wpList_store_row rfl 38 _ _ rfl b #[.int .i64 fo, .int .i64 0, .string ⟨#[]⟩, .slice (some ⟨g, 0, none⟩) 2 2, .slice none 0 0] rfl rfl 38 #[.int .i64 0, .int .i64 0, .string ⟨#[]⟩, .slice none 0 0, .slice none 0 0] hb ruleSize rfl (by simp [Value.oneCell']) ?_)
          | fail)
        refine hQ _ _ _ ?_ hS
        first | rfl | (simp [upd, e10, e11, e12]; done)
    case hend =>
    intro L ff kk w7 hkb hL hJ
    try dsimp only
    obtain ⟨g, e10, hg0, hgh, hne⟩ := hJ.kid (hL 10 (by decide))
    obtain ⟨b, e12, hb0, hbh⟩ := hJ.box (hL 12 (by decide))
    rw [hL 13 (by decide), if_pos rfl, e10] at hbh
    try dsimp only at hbh
    rw [e12]
    have hB7 := hJ.below
    have hgl := (Array.getElem?_eq_some_iff.1 hgh).1
    have hTY : TrF All w7 (.node fo 0 ⟨#[]⟩ [kb0, ka0] []) ⟨fo, 0, ⟨#[]⟩, some ⟨g, 0, none⟩, 2, 2, none, 0, 0⟩ := by
      refine trF_iff.2 ⟨rfl, rfl, rfl, ⟨rfl, Or.inl rfl⟩, (show RowsT All w7 (some ⟨g, 0, none⟩) [kb0, ka0].length [kb0, ka0] from rowsT_of (off := 0) trivial hgl (fun j hj => ?_)), Nat.le_refl _, Nat.le_refl _⟩
      have hj2 : j = 0 ∨ j = 1 := by simp only [List.length_cons, List.length_nil] at hj; omega
      rcases hj2 with rfl | rfl
      · refine ⟨g1, ⟨?_, ?_, ?_, ?_, ?_⟩, HT1.out.kept (same_of_below hB7)⟩ <;> (rw [Lib.cell_of_heap hgh]; rfl)
      · refine ⟨g0, ⟨?_, ?_, ?_, ?_, ?_⟩, HT0.out.kept (same_of_below hB7)⟩ <;> (rw [Lib.cell_of_heap hgh]; rfl)
    have hsz : szT (.node fo 0 ⟨#[]⟩ [kb0, ka0] []) ≤ 1048576 := by
      have h := HSZ.out
      have e0 : (ByteArray.mk #[]).size = 0 := rfl
      simp only [szT, szL, List.length_cons, List.length_nil] at h ⊢
      rw [e0]
      omega
    have hq := implRuleOf _ _ ns na nl nc 1000 w7 (HT6.out.kept (same_of_below hB7)) HSZ.out (HP6.out.kept (same_of_below hB7)) (by omega) (laid_stays HL6.out hB7)
    unfold Fld.val at hq
    have HQ := Lib.hid hq
    have HTY := Lib.hid hTY
    have HSY := Lib.hid hsz
    have HBH := Lib.hid hbh
    have HP7 := Lib.hid (HP6.out.kept (same_of_below hB7))
    have HL7 := Lib.hid (laid_stays HL6.out hB7)
    have HB7 := Lib.hid (HB6.out.trans (hB7.mono HB6.out.size))
    have HX7 := Lib.hid ((hB7.block X hXl).trans HX6.out)
    have HT7 := Lib.hid (HT6.out.kept (same_of_below hB7))
    have hXl7 : X < w7.heap.size := Nat.lt_of_lt_of_le hXl hB7.size
    clear hq hTY hsz hbh hB7 hJ hL hne hgh e10 e12 p0 p1 p2 p3 p4 q0 q1 q2 q3 q4 y0 y3 hXl hbl HT6 HL6 HP6 HX6 HB6 HT0 HT1 HKB
    have y0 : w7.cell? ⟨X, 0, none⟩ = some (.int .i64 fo) := by rw [Lib.cell_of_heap HX7.out]; rfl
    have y1 : w7.cell? ⟨X, 1, none⟩ = some (.int .i64 fn) := by rw [Lib.cell_of_heap HX7.out]; rfl
    have y2 : w7.cell? ⟨X, 2, none⟩ = some (.string fs) := by rw [Lib.cell_of_heap HX7.out]; rfl
    have y3 : w7.cell? ⟨X, 3, none⟩ = some (.slice (some ⟨kb, off, none⟩) 2 fkc) := by rw [Lib.cell_of_heap HX7.out]; rfl
    have y4 : w7.cell? ⟨X, 4, none⟩ = some (.slice fma fml fmc) := by rw [Lib.cell_of_heap HX7.out]; rfl
    obtain ⟨-, sw1, sw2⟩ := HSW.out
    generalize hr1 : ruleOfV (.node fo tn ts [ka0, kb0] ms) ns 1000 = r1 at *
    generalize hr2 : ruleOfV (.node fo 0 ⟨#[]⟩ [kb0, ka0] []) ns 1000 = r2 at *
    obtain ⟨v1, c1⟩ := r1
    obtain ⟨v2, c2⟩ := r2
    dsimp only at sw1 sw2 HQ
    have HR2 := Lib.hid hr2
    have SW1 := Lib.hid sw1
    have SW2 := Lib.hid sw2
    clear hr1 hr2 sw1 sw2 HSW
    go_wp2_with fail
    refine HQ.out.mono ?_
    rintro e w8 ⟨rfl, d8⟩
    have hbb := (d8.block b (Array.getElem?_eq_some_iff.1 HBH.out).1).trans HBH.out
    have x0 : w8.cell? ⟨b, 0, none⟩ = some (.int .i64 fo) := by rw [Lib.cell_of_heap hbb]; rfl
    have x1 : w8.cell? ⟨b, 1, none⟩ = some (.int .i64 0) := by rw [Lib.cell_of_heap hbb]; rfl
    have x2 : w8.cell? ⟨b, 2, none⟩ = some (.string ⟨#[]⟩) := by rw [Lib.cell_of_heap hbb]; rfl
    have x3 : w8.cell? ⟨b, 3, none⟩ = some (.slice (some ⟨g, 0, none⟩) 2 2) := by rw [Lib.cell_of_heap hbb]; rfl
    have x4 : w8.cell? ⟨b, 4, none⟩ = some (.slice none 0 0) := by rw [Lib.cell_of_heap hbb]; rfl
    have hq2 := implRuleOf _ _ ns na nl nc 1000 w8 (HTY.out.kept (same_of_below d8)) HSY.out (HP7.out.kept (same_of_below d8)) (by omega) (laid_stays HL7.out d8)
    unfold Fld.val at hq2
    rw [HR2.out] at hq2
    dsimp only at hq2
    have HQ2 := Lib.hid hq2
    have HB8 := Lib.hid (HB7.out.trans (d8.mono HB7.out.size))
    clear hq2 hbb d8 y0 y1 y2 y3 y4 HQ
    go_wp2_with fail
    refine HQ2.out.mono ?_
    rintro e w9 ⟨rfl, d9⟩
    have HB9 := Lib.hid (HB8.out.trans (d9.mono HB8.out.size))
    clear d9 x0 x1 x2 x3 x4 HQ2
    by_cases hc : c1 = 0
    · obtain rfl := SW2.out hc
      obtain rfl := SW1.out.1 hc
      subst hc
      clear SW1 SW2 HR2
      have g1' : (v1 == v1) = true := by simp
      go_wp2_with fail
      go_ret
      exact ⟨rfl, HB9.out⟩
    · have g1' : (c1 == 0) = false := by simpa using hc
      have g2' : (c2 == 0) = false := by
        have : ¬ c2 = 0 := fun h => hc (SW1.out.2 h)
        simpa using this
      have g3' : (c1 != 0) = true := by simpa using hc
      clear SW1 SW2 HR2 hc
      go_wp2_with fail
      go_ret
      exact ⟨rfl, HB9.out⟩
end Go.Proofs.YtemjooejfmkkbaaGreatDoor
