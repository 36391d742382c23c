/-
  The law FnVmTop's own walk (P16).
-/
import Derived.Test.YtjphjnopdlfplaaGreatDoorDrawRuleOf
import Derived.Test.YtjphjnopdlfplaaGreatDoorVmMakeBI
import Derived.Test.YtjphjnopdlfplaaGreatDoorJ43
import Derived.Test.YtjphjnopdlfplaaGreatDoorJ32
import Derived.Test.YtjphjnopdlfplaaGreatDoorVmRunBI
import Derived.Test.YtjphjnopdlfplaaGreatDoorWsCode
namespace Go.Proofs.YtjphjnopdlfplaaGreatDoor
open Go.RowKit
set_option linter.unusedVariables false
set_option linter.unusedSimpArgs false

/-- A drawn rule put into a box. -/
theorem box_ruleT {w1 : World} (f : Fld) : ∃ W2, W2 = (w1.alloc (.cells #[.int .i64 0, .int .i64 0, .string ⟨#[]⟩, .slice none 0 0, .slice none 0 0] 39)).setRow w1.heap.size #[.int .i64 f.op, .int .i64 f.num, .string f.name, .slice f.ka f.kl f.kc, .slice f.ma f.ml f.mc] ∧ W2.heap[w1.heap.size]? = some (.cells #[.int .i64 f.op, .int .i64 f.num, .string f.name, .slice f.ka f.kl f.kc, .slice f.ma f.ml f.mc] 39 (0, 0)) ∧ Below w1.heap.size w1 W2 :=
  ⟨_, rfl, setRow_heap _ _ _ _ _ _ (heap_alloc_new w1 _), ((Below.refl _ _).alloc (Nat.le_refl _) _).trans ⟨rfl, rfl, rfl, by simp, fun i hi => setRow_other _ _ _ _ (by omega)⟩⟩
theorem box_cellsT {w1 W2 W : World} {X : Nat} {f : Fld} (h : W2.heap[X]? = some (.cells #[.int .i64 f.op, .int .i64 f.num, .string f.name, .slice f.ka f.kl f.kc, .slice f.ma f.ml f.mc] 39 (0, 0))) (hB : Below W2.heap.size W2 W) :
    W.cell? ⟨X, 0, none⟩ = some (.int .i64 f.op) ∧ W.cell? ⟨X, 1, none⟩ = some (.int .i64 f.num) ∧ W.cell? ⟨X, 2, none⟩ = some (.string f.name) ∧ W.cell? ⟨X, 3, none⟩ = some (.slice f.ka f.kl f.kc) ∧ W.cell? ⟨X, 4, none⟩ = some (.slice f.ma f.ml f.mc) := by
  have e := (hB.block X (Array.getElem?_eq_some_iff.1 h).1).trans h
  refine ⟨?_, ?_, ?_, ?_, ?_⟩ <;> (rw [Lib.cell_of_heap e]; rfl)
theorem top_facts (t : Tr) (ns : List (ByteArray × Int)) (fu : Int) (h : okR t) : ∃ v c u : Int, ruleOfV t ns fu = (v, c) ∧ vmRunV (codeT t) ns fu = (v, c, u) ∧ (u ≤ fu ∨ fu < 0) ∧ u ≤ costT t := by
  have hP := okR_P h.1
  have hV := codeT_ok h.1 h.2
  have hc : 0 ≤ costT t := by have := (cost_bd _ t (Nat.le_refl _) hP).1; omega
  by_cases hf : 0 ≤ fu ∧ fu ≤ 1000
  · have e := vm_top ns hP hf.1
    have u := vm_used ns hP hf.1
    refine ⟨(evalT ns t fu).v, (evalT ns t fu).c, fu - (evalT ns t fu).f, ?_, ?_, .inl u.2.1, u.2.2⟩
    · rw [ruleOfV, if_pos ⟨h, hf⟩]
    · rw [vmRun_yes ⟨hV, hf⟩, e]
  · refine ⟨0, 4, 0, ?_, vmRun_no (fun k => hf k.2), ?_, hc⟩
    · rw [ruleOfV, if_neg (fun k => hf k.2)]
    · omega
def SW (ds : List Pl) (M : List Value) (i : Nat) (W : World) (v : Value) : Prop := (i = 2 → ∃ (a : Option Addr) (c : Nat), v = .slice a ds.length c ∧ PlsN All W a ds.length ds) ∧ (i ≠ 2 → v = M.getD i (.bool false))
theorem SW.kept {ds : List Pl} {M : List Value} {i : Nat} {W W' : World} {v : Value} (h : SW ds M i W v) (hB : Below W.heap.size W W') : SW ds M i W' v :=
  ⟨fun e => by obtain ⟨a, c, e2, hs⟩ := h.1 e; exact ⟨a, c, e2, hs.kept (same_of_below hB)⟩, h.2⟩
structure RW (w0 : World) (ds : List Pl) (M : List Value) (L : Nat → Bool) (f : Nat → Value) (W : World) : Prop where
  below : Below w0.heap.size w0 W
  pre : ∀ i, L i = true → SW ds M i W (f i)
theorem RW.op {w0 W W' : World} {ds : List Pl} {M : List Value} {L : Nat → Bool} {f : Nat → Value} (h : RW w0 ds M L f W) {i : Nat} {v : Value} (hB : Below W.heap.size W W') (hv : SW ds M i W' v) : RW w0 ds M (upd L i true) (upd f i v) W' := by
  refine ⟨h.below.trans (hB.mono h.below.size), fun j hL => ?_⟩
  by_cases e : j = i
  · subst e; rw [upd_self]; exact hv
  · rw [upd_ne _ _ e] at hL ⊢; exact (h.pre j hL).kept hB
set_option maxRecDepth 20000 in
set_option maxHeartbeats 16000000 in
theorem lawVmTop (a0 : Option Addr) (len0 cap0 : Nat) (z0 : List Int) (w : World) (w0 : IsRow .u8 w a0 len0 cap0 z0) (hL : Laid w) :
    Calls Tryz.prog 4 #[.slice a0 len0 cap0] w fun e w' => e = .returned (.bool true) ∧ Below w.heap.size w w' := by
  rcases Nat.lt_or_ge 1048576 len0 with hb0 | hb0
  · clear w0
    go_enter Tryz.func4, Tryz.ntmps4
    go_wp2
    go_ret
    exact ⟨rfl, Below.refl _ _⟩
  have hd := drawRuleOf a0 len0 cap0 z0 w w0
  unfold DrawnRO Fld.val at hd
  have HD := Lib.hid hd
  have HL := Lib.hid hL
  clear w0 hd hL
  go_enter Tryz.func4, Tryz.ntmps4
  go_wp2_with fail
  refine HD.out.mono ?_
  rintro e w1 ⟨t, f, ns, na, nl, nc, fu, rfl, ht, hsz, hp, hn6, hfu, d1⟩
  have hXb := heap_alloc_new w1 (.cells #[.int .i64 0, .int .i64 0, .string ⟨#[]⟩, .slice none 0 0, .slice none 0 0] 39)
  obtain ⟨W2, hW2, hX2, hB2⟩ := box_ruleT (w1 := w1) f
  obtain ⟨y0, y1, y2, y3, y4⟩ := box_cellsT (w1 := w1) hX2 (Below.refl _ _)
  have hT2 := ht.kept (same_of_below (N := All) hB2)
  have hP2 := hp.kept (same_of_below (N := All) hB2)
  have hBw := d1.trans (hB2.mono d1.size)
  have HT2 := Lib.hid hT2
  have HP2 := Lib.hid hP2
  have HX2 := Lib.hid hX2
  have HBW := Lib.hid hBw
  have HSZ : Hid (szT t ≤ 1048576) := Lib.hid (by omega)
  have HFU := Lib.hid hfu
  clear HD ht hp d1 hT2 hP2 hX2 hBw hB2 hsz hfu
  rw [hW2] at y0 y1 y2 y3 y4
  have HW2 := Lib.hid hW2
  clear hW2
  go_wp2_with (first
    | (refine wpList_store_row rfl 39 _ _ rfl w1.heap.size #[.int .i64 f.op, .int .i64 f.num, .string f.name, .slice f.ka f.kl f.kc, .slice f.ma f.ml f.mc] rfl rfl 39 #[.int .i64 0, .int .i64 0, .string ⟨#[]⟩, .slice none 0 0, .slice none 0 0] hXb ruleSize rfl (by simp [Value.oneCell']) ?_)
    | fail)
  clear hXb y0 y1 y2 y3 y4
  rw [← HW2.out]
  clear HW2
  have L2 := Lib.hid (laid_stays HL.out HBW.out)
  have hI := implVmMake HT2.out HSZ.out L2.out
  unfold Fld.val MakeRP at hI
  have HI := Lib.hid hI
  clear hI HL
  obtain ⟨ds, hds⟩ : ∃ ds, codeR t = ds := ⟨_, rfl⟩
  have HDS := Lib.hid hds
  have hsm := codeR_small t
  rw [hds] at HI hsm
  have HSM : Hid (∀ d ∈ ds, SmallP d) := Lib.hid (fun d hd => by have := hsm.2 d hd; exact ⟨by omega, by omega⟩)
  have hl60 := hsm.1
  clear hds hsm
  refine HI.out.mono ?_
  rintro e w3 ⟨pa, pn, pc, rfl, hpn, hco, d3⟩
  subst hpn
  have HPA := Lib.hid (codeO_pls hco rfl)
  have hB3 : Below W2.heap.size W2 w3 := d3
  have HX3 := Lib.hid ((hB3.block _ (Array.getElem?_eq_some_iff.1 HX2.out).1).trans HX2.out)
  have HT3 := Lib.hid (HT2.out.kept (same_of_below hB3))
  have HP3 := Lib.hid (HP2.out.kept (same_of_below hB3))
  have HBW3 := Lib.hid (HBW.out.trans (hB3.mono HBW.out.size))
  have L3 := Lib.hid (laid_stays L2.out hB3)
  obtain ⟨ok, hok⟩ : ∃ ok, decide (okR t) = ok := ⟨_, rfl⟩
  have HOKE := Lib.hid hok
  clear HI d3 hB3 hco HT2 HP2 HX2 HBW L2 hok
  have SM : ∀ ww, Below w3.heap.size w3 ww → Calls Tryz.prog 19 #[.agg #[.int .i64 f.op, .int .i64 f.num, .string f.name, .slice f.ka f.kl f.kc, .slice f.ma f.ml f.mc]] ww (fun e w' => ∃ (a : Option Addr) (c : Nat), e = .returned (.slice a ds.length c) ∧ PlsN All w' a ds.length ds ∧ Below ww.heap.size ww w') := fun ww hB => by
    have hq := specVmMake (HT3.out.kept (same_of_below hB)) HSZ.out
    unfold Fld.val MakeRP at hq
    rw [HDS.out] at hq
    refine hq.mono ?_
    rintro e w' ⟨a, n, c, rfl, hn, hc, d⟩
    subst hn
    exact ⟨a, c, rfl, codeO_pls hc rfl, d⟩
  have IO : ∀ ww, Below w3.heap.size w3 ww → Calls Tryz.prog 20 #[.agg #[.int .i64 f.op, .int .i64 f.num, .string f.name, .slice f.ka f.kl f.kc, .slice f.ma f.ml f.mc]] ww fun e w' => e = .returned (.bool ok) ∧ Below ww.heap.size ww w' := fun ww hB => by have hq := implRuleOk (HT3.out.kept (same_of_below hB)) HSZ.out (laid_stays L3.out hB); rw [HOKE.out] at hq; unfold Fld.val at hq; exact hq
  have SO : ∀ ww, Below w3.heap.size w3 ww → Calls Tryz.prog 21 #[.agg #[.int .i64 f.op, .int .i64 f.num, .string f.name, .slice f.ka f.kl f.kc, .slice f.ma f.ml f.mc]] ww fun e w' => e = .returned (.bool ok) ∧ Below ww.heap.size ww w' := fun ww hB => by have hq := specRuleOk (HT3.out.kept (same_of_below hB)) HSZ.out; rw [HOKE.out] at hq; unfold Fld.val at hq; exact hq
  go_wp2_with fail
  refine wp_region_invK (by kernel_rfl) (fun _ L fL W => RW w3 ds [(Value.slice pa ds.length pc), (.agg #[.int .i64 f.op, .int .i64 f.num, .string f.name, .slice f.ka f.kl f.kc, .slice f.ma f.ml f.mc]), (.bool false), (.bool true), (.bool false), (.bool false), (.agg #[.int .i64 f.op, .int .i64 f.num, .string f.name, .slice f.ka f.kl f.kc, .slice f.ma f.ml f.mc]), (.bool ok), (.agg #[.int .i64 f.op, .int .i64 f.num, .string f.name, .slice f.ka f.kl f.kc, .slice f.ma f.ml f.mc]), (.bool ok), (.bool false), (.bool false)] L fL W) (by kernel_rfl) ⟨Below.drew (Below.refl _ _), fun _ a => by cases a⟩ ?_
  apply Exists.intro
  apply And.intro
  · intro f
    simp only [over, List.set]
    exact rfl
  refine ⟨?hops, ?hend⟩
  case hops =>
    refine EachOp.cons ?_ (EachOp.cons ?_ (EachOp.cons ?_ (EachOp.cons ?_ (EachOp.cons ?_ (EachOp.cons ?_ (EachOp.cons ?_ (EachOp.cons ?_ (EachOp.cons ?_ (EachOp.cons ?_ (EachOp.cons ?_ (EachOp.cons ?_ (EachOp.nil))))))))))))
    · intro L ff kk ww hkk hJ hcl hLi hwt QQ' hQ
      try dsimp only
      go_big_wp2_with fail
      refine hQ _ (.slice pa ds.length pc) _ ?_ (hJ.op (Below.refl _ _) ⟨fun e => absurd e (by decide), fun _ => rfl⟩)
      first | rfl | (simp [upd]; done)
    · intro L ff kk ww hkk hJ hcl hLi hwt QQ' hQ
      try dsimp only
      obtain ⟨z0, z1, z2, z3, z4⟩ := box_cellsT (w1 := w1) HX3.out hJ.below
      go_big_wp2_with fail
      refine hQ _ (.agg #[.int .i64 f.op, .int .i64 f.num, .string f.name, .slice f.ka f.kl f.kc, .slice f.ma f.ml f.mc]) _ ?_ (hJ.op (Below.refl _ _) ⟨fun e => absurd e (by decide), fun _ => rfl⟩)
      first | rfl | (simp [upd]; done)
    · intro L ff kk ww hkk hJ hcl hLi hwt QQ' hQ
      try dsimp only
      have c1' : ff 1 = .agg #[.int .i64 f.op, .int .i64 f.num, .string f.name, .slice f.ka f.kl f.kc, .slice f.ma f.ml f.mc] := (hJ.pre 1 (hwt 1 (by decide))).2 (by decide)
      go_big_wp2_with fail
      refine (SM ww hJ.below).mono ?_
      rintro e wa ⟨a9, c9, rfl, hS9, d9⟩
      go_big_wp2_with fail
      refine hQ _ (.slice a9 ds.length c9) wa ?_ (hJ.op d9 ⟨fun _ => ⟨a9, c9, rfl, hS9⟩, fun e => absurd rfl e⟩)
      first | rfl | (simp [upd, c1']; done)
    · intro L ff kk ww hkk hJ hcl hLi hwt QQ' hQ
      try dsimp only
      have c0' : ff 0 = .slice pa ds.length pc := (hJ.pre 0 (hwt 0 (by decide))).2 (by decide)
      obtain ⟨a9, c9, c2', hS9⟩ := (hJ.pre 2 (hwt 2 (by decide))).1 rfl
      have hq := wsCodeC pa a9 ds.length pc c9 ds ww (HPA.out.kept (same_of_below hJ.below)) hS9 HSM.out (by omega)
      go_big_wp2_with fail
      refine hq.mono ?_
      rintro e wa ⟨rfl, q, rfl⟩
      go_big_wp2_with fail
      refine hQ _ (.bool true) _ ?_ (hJ.op (belowN (Below.refl _ _) q) ⟨fun e => absurd e (by decide), fun _ => rfl⟩)
      first | rfl | (simp [upd, c0', c2']; done)
    · intro L ff kk ww hkk hJ hcl hLi hwt QQ' hQ
      try dsimp only
      have c3' : ff 3 = .bool true := (hJ.pre 3 (hwt 3 (by decide))).2 (by decide)
      go_big_wp2_with fail
      refine hQ _ (.bool false) _ ?_ (hJ.op (Below.refl _ _) ⟨fun e => absurd e (by decide), fun _ => rfl⟩)
      first | rfl | (simp [upd, c3']; done)
    · intro L ff kk ww hkk hJ hcl hLi hwt QQ' hQ
      try dsimp only
      have c4' : ff 4 = .bool false := (hJ.pre 4 (hwt 4 (by decide))).2 (by decide)
      go_big_wp2_with fail
      refine hQ _ (.bool false) _ ?_ (hJ.op (Below.refl _ _) ⟨fun e => absurd e (by decide), fun _ => rfl⟩)
      first | rfl | (simp [upd, c4']; done)
    · intro L ff kk ww hkk hJ hcl hLi hwt QQ' hQ
      try dsimp only
      have c5' : ff 5 = .bool false := (hJ.pre 5 (hwt 5 (by decide))).2 (by decide)
      obtain ⟨z0, z1, z2, z3, z4⟩ := box_cellsT (w1 := w1) HX3.out hJ.below
      go_big_wp2_with fail
      refine hQ _ (.agg #[.int .i64 f.op, .int .i64 f.num, .string f.name, .slice f.ka f.kl f.kc, .slice f.ma f.ml f.mc]) _ ?_ (hJ.op (Below.refl _ _) ⟨fun e => absurd e (by decide), fun _ => rfl⟩)
      first | rfl | (simp [upd, c5']; done)
    · intro L ff kk ww hkk hJ hcl hLi hwt QQ' hQ
      try dsimp only
      have c5' : ff 5 = .bool false := (hJ.pre 5 (hwt 5 (by decide))).2 (by decide)
      have c6' : ff 6 = .agg #[.int .i64 f.op, .int .i64 f.num, .string f.name, .slice f.ka f.kl f.kc, .slice f.ma f.ml f.mc] := (hJ.pre 6 (hwt 6 (by decide))).2 (by decide)
      go_big_wp2_with fail
      refine (IO ww hJ.below).mono ?_
      rintro e wa ⟨rfl, d9⟩
      go_big_wp2_with fail
      refine hQ _ (.bool ok) wa ?_ (hJ.op d9 ⟨fun e => absurd e (by decide), fun _ => rfl⟩)
      first | rfl | (simp [upd, c5', c6']; done)
    · intro L ff kk ww hkk hJ hcl hLi hwt QQ' hQ
      try dsimp only
      have c5' : ff 5 = .bool false := (hJ.pre 5 (hwt 5 (by decide))).2 (by decide)
      obtain ⟨z0, z1, z2, z3, z4⟩ := box_cellsT (w1 := w1) HX3.out hJ.below
      go_big_wp2_with fail
      refine hQ _ (.agg #[.int .i64 f.op, .int .i64 f.num, .string f.name, .slice f.ka f.kl f.kc, .slice f.ma f.ml f.mc]) _ ?_ (hJ.op (Below.refl _ _) ⟨fun e => absurd e (by decide), fun _ => rfl⟩)
      first | rfl | (simp [upd, c5']; done)
    · intro L ff kk ww hkk hJ hcl hLi hwt QQ' hQ
      try dsimp only
      have c5' : ff 5 = .bool false := (hJ.pre 5 (hwt 5 (by decide))).2 (by decide)
      have c8' : ff 8 = .agg #[.int .i64 f.op, .int .i64 f.num, .string f.name, .slice f.ka f.kl f.kc, .slice f.ma f.ml f.mc] := (hJ.pre 8 (hwt 8 (by decide))).2 (by decide)
      go_big_wp2_with fail
      refine (SO ww hJ.below).mono ?_
      rintro e wa ⟨rfl, d9⟩
      go_big_wp2_with fail
      refine hQ _ (.bool ok) wa ?_ (hJ.op d9 ⟨fun e => absurd e (by decide), fun _ => rfl⟩)
      first | rfl | (simp [upd, c5', c8']; done)
    · intro L ff kk ww hkk hJ hcl hLi hwt QQ' hQ
      try dsimp only
      have c5' : ff 5 = .bool false := (hJ.pre 5 (hwt 5 (by decide))).2 (by decide)
      have c7' : ff 7 = .bool ok := (hJ.pre 7 (hwt 7 (by decide))).2 (by decide)
      have c9' : ff 9 = .bool ok := (hJ.pre 9 (hwt 9 (by decide))).2 (by decide)
      go_big_wp2_with fail
      refine hQ _ (.bool false) _ ?_ (hJ.op (Below.refl _ _) ⟨fun e => absurd e (by decide), fun _ => rfl⟩)
      first | rfl | (cases ok <;> rfl) | (simp [upd, c5', c7', c9']; done)
    · intro L ff kk ww hkk hJ hcl hLi hwt QQ' hQ
      try dsimp only
      have c5' : ff 5 = .bool false := (hJ.pre 5 (hwt 5 (by decide))).2 (by decide)
      have c10' : ff 10 = .bool false := (hJ.pre 10 (hwt 10 (by decide))).2 (by decide)
      go_big_wp2_with fail
      refine hQ _ (.bool false) _ ?_ (hJ.op (Below.refl _ _) ⟨fun e => absurd e (by decide), fun _ => rfl⟩)
      first | rfl | (simp [upd, c5', c10']; done)
  case hend =>
  intro L ff kk w6 hkb hL hJ
  try dsimp only
  have c11 : ff 11 = .bool false := (hJ.pre 11 (hL 11 (by decide))).2 (by decide)
  rw [c11]
  have D6 := hJ.below
  have SO6 := SO w6 D6
  clear SM IO SO hJ hL c11
  have HX6 := Lib.hid ((D6.block _ (Array.getElem?_eq_some_iff.1 HX3.out).1).trans HX3.out)
  have HT6 := Lib.hid (HT3.out.kept (same_of_below D6))
  have HP6 := Lib.hid (HP3.out.kept (same_of_below D6))
  have HPA6 := Lib.hid (HPA.out.kept (same_of_below D6))
  have L6 := Lib.hid (laid_stays L3.out D6)
  have HB6 : Hid (Below w.heap.size w w6) := Lib.hid (HBW3.out.trans (D6.mono HBW3.out.size))
  clear HX3 HT3 HP3 HPA L3 HBW3 D6
  have HSO := Lib.hid SO6
  clear SO6
  obtain ⟨z0, z1, z2, z3, z4⟩ := box_cellsT (w1 := w1) HX6.out (Below.refl _ _)
  go_wp2_with fail
  refine HSO.out.mono ?_
  rintro e w7 ⟨rfl, d7⟩
  clear z0 z1 z2 z3 z4 HSO
  have HX7 := Lib.hid ((d7.block _ (Array.getElem?_eq_some_iff.1 HX6.out).1).trans HX6.out)
  have HT7 := Lib.hid (HT6.out.kept (same_of_below d7))
  have HP7 := Lib.hid (HP6.out.kept (same_of_below d7))
  have HPA7 := Lib.hid (HPA6.out.kept (same_of_below d7))
  have L7 := Lib.hid (laid_stays L6.out d7)
  have HB7 : Hid (Below w.heap.size w w7) := Lib.hid (HB6.out.trans (d7.mono HB6.out.size))
  clear HX6 HT6 HP6 HPA6 L6 HB6 d7
  cases ok with
  | false =>
    have hno : ¬ okR t := by simpa using HOKE.out
    have e : ds = [] := by rw [← HDS.out, codeR, if_neg hno]
    subst e
    clear hno
    go_wp2
    go_ret
    exact ⟨rfl, HB7.out⟩
  | true =>
    have hok : okR t := by simpa using HOKE.out
    have hdt : ds = codeT t := by rw [← HDS.out, codeR, if_pos hok]
    have HOV : Hid (decide (OkV ds) = true) := Lib.hid (by rw [hdt]; exact decide_eq_true (codeT_ok hok.1 hok.2))
    obtain ⟨v, c, u, hv1, hv2, hu1, hu2⟩ := top_facts t ns fu hok
    have hcost : costR t = costT t := by rw [costR, if_pos hok]
    rw [← hdt] at hv2
    have HV1 := Lib.hid hv1
    have HV2 := Lib.hid hv2
    have HCO := Lib.hid hcost
    have HU1 := Lib.hid hu1
    have HU2 := Lib.hid hu2
    clear hv1 hv2 hcost hdt hok hu1 hu2
    have hR := implRuleOf t f ns na nl nc fu w7 HT7.out HSZ.out HP7.out (by omega) L7.out
    unfold Fld.val at hR
    rw [HV1.out] at hR
    dsimp only at hR
    have HR := Lib.hid hR
    clear hR
    obtain ⟨z0, z1, z2, z3, z4⟩ := box_cellsT (w1 := w1) HX7.out (Below.refl _ _)
    go_wp2_with fail
    refine HR.out.mono ?_
    rintro e w8 ⟨rfl, d8⟩
    clear z0 z1 z2 z3 z4 HR
    have HX8 := Lib.hid ((d8.block _ (Array.getElem?_eq_some_iff.1 HX7.out).1).trans HX7.out)
    have HT8 := Lib.hid (HT7.out.kept (same_of_below d8))
    have HPA8 := Lib.hid (HPA7.out.kept (same_of_below d8))
    have L8 := Lib.hid (laid_stays L7.out d8)
    have HB8 : Hid (Below w.heap.size w w8) := Lib.hid (HB7.out.trans (d8.mono HB7.out.size))
    have hV := implVmRun pa ds.length pc ds ns na nl nc fu w8 HPA8.out HSM.out (by omega) (HP7.out.kept (same_of_below d8)) (by omega) L8.out
    clear HX7 HT7 HP7 HPA7 L7 HB7 d8
    unfold VmP at hV
    rw [HV2.out] at hV
    dsimp only at hV
    have HV := Lib.hid hV
    clear hV
    go_wp2_with fail
    refine HV.out.mono ?_
    rintro e w9 ⟨rfl, d9⟩
    have HX9 := Lib.hid ((d9.block _ (Array.getElem?_eq_some_iff.1 HX8.out).1).trans HX8.out)
    have HT9 := Lib.hid (HT8.out.kept (same_of_below d9))
    have HPA9 := Lib.hid (HPA8.out.kept (same_of_below d9))
    have L9 := Lib.hid (laid_stays L8.out d9)
    have HB9 : Hid (Below w.heap.size w w9) := Lib.hid (HB8.out.trans (d9.mono HB8.out.size))
    clear HX8 HT8 HPA8 L8 HB8 d9 HV
    have hO := implVmOk pa ds.length pc ds w9 HPA9.out HSM.out (by omega) L9.out
    unfold OkVP at hO
    rw [HOV.out] at hO
    have HO := Lib.hid hO
    clear hO
    go_wp2_with fail
    refine HO.out.mono ?_
    rintro e wa ⟨rfl, da⟩
    have HXa := Lib.hid ((da.block _ (Array.getElem?_eq_some_iff.1 HX9.out).1).trans HX9.out)
    have HTa := Lib.hid (HT9.out.kept (same_of_below da))
    have La := Lib.hid (laid_stays L9.out da)
    have HBa : Hid (Below w.heap.size w wa) := Lib.hid (HB9.out.trans (da.mono HB9.out.size))
    clear HX9 HT9 HPA9 L9 HB9 da HO
    have hC := implRuleCost HTa.out HSZ.out La.out
    unfold Fld.val at hC
    rw [HCO.out] at hC
    have HC := Lib.hid hC
    clear hC
    generalize costT t = ct at *
    have g3 : decide (u ≤ ct) = true := decide_eq_true HU2.out
    obtain ⟨z0, z1, z2, z3, z4⟩ := box_cellsT (w1 := w1) HXa.out (Below.refl _ _)
    rcases Int.lt_or_le fu u with cu | cu
    · have g1 : decide (u ≤ fu) = false := decide_eq_false (by omega)
      have g2 : decide (fu < 0) = true := decide_eq_true (by have := HU1.out; omega)
      clear cu
      go_wp2_with fail
      refine HC.out.mono ?_
      rintro e wb ⟨rfl, db⟩
      go_wp2
      go_ret
      exact ⟨rfl, HBa.out.trans (db.mono HBa.out.size)⟩
    · have g1 : decide (u ≤ fu) = true := decide_eq_true cu
      clear cu
      go_wp2_with fail
      refine HC.out.mono ?_
      rintro e wb ⟨rfl, db⟩
      go_wp2
      go_ret
      exact ⟨rfl, HBa.out.trans (db.mono HBa.out.size)⟩
end Go.Proofs.YtjphjnopdlfplaaGreatDoor
