/-
  What DrawRuleWrite and DrawRuleOf draw: a rule; a rule, names and fuel.
-/
import Derived.Test.YtjphjnopdlfplaaGreatDoorSpoilAll
import Derived.Test.YtjphjnopdlfplaaGreatDoorDrawPairs
import Derived.Test.YtjphjnopdlfplaaGreatDoorJ4
namespace Go.Proofs.YtjphjnopdlfplaaGreatDoor
open Go.RowKit
set_option linter.unusedVariables false
set_option linter.unusedSimpArgs false

theorem isRow_belowR {k : IntKind} {w w' : World} {a : Option Addr} {len cap : Nat} {z : List Int} (h : IsRow k w a len cap z) (hb : Below w.heap.size w w') : IsRow k w' a len cap z := by
  rcases h with h | ⟨x, h1, h2, h3, h4, h5, h6⟩
  · exact Or.inl h
  · refine Or.inr ⟨x, h1, h2, h3, h4, fun i hi => ?_, h6⟩
    have hc := h5 i hi
    exact (hb.cell (p := x.add i) (World.block_lt_of_cell? w _ hc)).trans hc
mutual
theorem wT_sz : ∀ t : Tr, wT t ≤ 1 + szT t
  | .node o n s ks ms => by have := wL_sz ks; rw [wT, szT]; omega
theorem wL_sz : ∀ ks : List Tr, wL ks ≤ ks.length + szL ks
  | [] => by simp [wL, szL]
  | t :: r => by have := wT_sz t; have := wL_sz r; rw [wL, szL, List.length_cons]; omega
end
theorem drawNames (w : World) : Calls Tryz.prog 73 #[] w fun e w' => e = .returned (.slice (some ⟨w.heap.size, 0, none⟩) 3 3) ∧ w' = w.alloc (.cells #[.string ⟨#[97]⟩, .string ⟨#[98]⟩, .string ⟨#[117, 115, 101]⟩] 9) := by
  go_enter Tryz.func73, Tryz.ntmps73
  go_wp2
  go_ret
  exact ⟨rfl, rfl⟩
def DrawnRW (w : World) (e : Ending) (w' : World) : Prop := ∃ (t : Tr) (f : Fld), e = .returned f.val ∧ TrF (fun x => w.heap.size ≤ x) w' t f ∧ szT t ≤ 5000 ∧ Below w.heap.size w w'
theorem fin_rw {w W : World} {t : Tr} {f : Fld} {cells old : Array Value} {T : TypeId} {fr : Nat × Nat} (ht : TrF (fun x => w.heap.size < x) W t f) (hB : Below w.heap.size w W) (hx : W.heap[w.heap.size]? = some (.cells old T fr)) (hs : szT t ≤ 5000) : DrawnRW w (.returned f.val) (W.setRow w.heap.size cells) := by
  have hG := grown_setRowT W w.heap.size cells
  exact ⟨t, f, rfl, TrF.mono (fun x hx => by omega) _ _ (ht.kept (same_grown hG (fun y hy => by omega))), hs, hB.grown hG hB.size (fun k e => by injection e with e; omega)⟩
set_option maxRecDepth 100000 in
set_option maxHeartbeats 16000000 in
theorem drawRuleWrite (a0 : Option Addr) (len cap : Nat) (z : List Int) (w : World) (w0 : IsRow .u8 w a0 len cap z) :
    Calls Tryz.prog 43 #[.slice a0 len cap] w (DrawnRW w) := by
  have hBa : Below w.heap.size w (w.alloc (.cells #[.int .i64 0, .int .i64 0, .string ⟨#[]⟩, .slice none 0 0, .slice none 0 0] 39)) := (Below.refl _ _).alloc (Nat.le_refl _) _
  have hZa := heap_alloc_new w (.cells #[.int .i64 0, .int .i64 0, .string ⟨#[]⟩, .slice none 0 0, .slice none 0 0] 39)
  have hsA : (w.alloc (.cells #[.int .i64 0, .int .i64 0, .string ⟨#[]⟩, .slice none 0 0, .slice none 0 0] 39)).heap.size = w.heap.size + 1 := by simp only [World.size_alloc]
  have HO := Lib.hid (opened a0 len cap z (w.alloc (.cells #[.int .i64 0, .int .i64 0, .string ⟨#[]⟩, .slice none 0 0, .slice none 0 0] 39)) (isRow_belowR w0 hBa))
  have HBa := Lib.hid hBa
  have HZa := Lib.hid hZa
  have HSA := Lib.hid hsA
  clear hsA
  clear w0 hBa hZa
  go_enter Tryz.func43, Tryz.ntmps43
  go_wp2_with fail
  generalize (w.alloc (.cells #[.int .i64 0, .int .i64 0, .string ⟨#[]⟩, .slice none 0 0, .slice none 0 0] 39)) = W0 at *
  refine HO.out.mono ?_
  rintro e w1 ⟨rfl, hr1, hb1, hs1⟩
  rw [HSA.out] at hr1 hs1
  have hs1' : w.heap.size + 2 ≤ w1.heap.size := by omega
  have h01 : W0.heap.size ≤ w1.heap.size := by have := HSA.out; omega
  have hwW : w.heap.size ≤ W0.heap.size := by have := HSA.out; omega
  have hwW1 : w.heap.size < W0.heap.size := by have := HSA.out; omega
  clear hs1
  have hB1 := HBa.out.trans (hb1.mono (by omega))
  have hZ1 := (hb1.block w.heap.size (by omega)).trans HZa.out
  have HB1 := Lib.hid hB1
  have HZ1 := Lib.hid hZ1
  have HR1 := Lib.hid hr1
  clear hr1 hb1 hB1 hZ1 HO HBa HZa
  rw [HSA.out]
  go_wp2_with fail
  refine (drawNames w1).mono ?_
  rintro e w2 ⟨rfl, rfl⟩
  have hBn : Below w1.heap.size w1 (w1.alloc (.cells #[.string ⟨#[97]⟩, .string ⟨#[98]⟩, .string ⟨#[117, 115, 101]⟩] 9)) := (Below.refl _ _).alloc (Nat.le_refl _) _
  have hDS := drawSmall (w.heap.size + 1) 0 w1.heap.size 3 (fun i => [(⟨#[97]⟩ : ByteArray), ⟨#[98]⟩, ⟨#[117, 115, 101]⟩].getD i ByteArray.empty) (w1.alloc (.cells #[.string ⟨#[97]⟩, .string ⟨#[98]⟩, .string ⟨#[117, 115, 101]⟩] 9)) (rd_alloc HR1.out _) (by omega) (fun i hi => lits_at _ w1.heap.size rfl [(⟨#[97]⟩ : ByteArray), ⟨#[98]⟩, ⟨#[117, 115, 101]⟩] rfl i hi) (by omega) (by simp only [World.size_alloc]; omega) (fun i hi => by
    have : i = 0 ∨ i = 1 ∨ i = 2 := by omega
    rcases this with rfl | rfl | rfl <;> decide)
  unfold DrawnR Fld.val at hDS
  have HDS := Lib.hid hDS
  have HBn := Lib.hid (HB1.out.trans (hBn.mono (by omega)))
  have HZn := Lib.hid ((hBn.block w.heap.size (by omega)).trans HZ1.out)
  have hsn : w.heap.size + 3 ≤ (w1.alloc (.cells #[.string ⟨#[97]⟩, .string ⟨#[98]⟩, .string ⟨#[117, 115, 101]⟩] 9)).heap.size := by simp only [World.size_alloc]; omega
  clear hBn hDS HB1 HZ1 HR1
  go_wp2_with fail
  generalize (w1.alloc (.cells #[.string ⟨#[97]⟩, .string ⟨#[98]⟩, .string ⟨#[117, 115, 101]⟩] 9)) = W1 at *
  refine HDS.out.mono ?_
  rintro e w4 ⟨t, f, p4, rfl, ht, hsz, hr4, hp4, hg4⟩
  have hs4 : W1.heap.size ≤ w4.heap.size := hg4.size
  have hXb := heap_alloc_new w4 (.cells #[.int .i64 0, .int .i64 0, .string ⟨#[]⟩, .slice none 0 0, .slice none 0 0] 39)
  have hrowX := setRow_heap (w4.alloc (.cells #[.int .i64 0, .int .i64 0, .string ⟨#[]⟩, .slice none 0 0, .slice none 0 0] 39)) w4.heap.size _ (#[.int .i64 f.op, .int .i64 f.num, .string f.name, .slice f.ka f.kl f.kc, .slice f.ma f.ml f.mc]) _ _ hXb
  have hB3 : Below w4.heap.size w4 ((w4.alloc (.cells #[.int .i64 0, .int .i64 0, .string ⟨#[]⟩, .slice none 0 0, .slice none 0 0] 39)).setRow w4.heap.size #[.int .i64 f.op, .int .i64 f.num, .string f.name, .slice f.ka f.kl f.kc, .slice f.ma f.ml f.mc]) := ((Below.refl _ _).alloc (Nat.le_refl _) _).trans ⟨rfl, rfl, rfl, by simp, fun i hi => setRow_other _ _ _ _ (by omega)⟩
  have hb4 : w.heap.size + 1 < w4.heap.size := hr4.le.2
  have HX3 := Lib.hid hrowX
  have HT3 := Lib.hid ((TrF.mono (N' := fun x => w.heap.size + 1 < x) (fun x hx => by have : W1.heap.size ≤ x := hx; omega) _ _ ht).kept (same_of_below hB3))
  have HR3 := Lib.hid (hr4.kept (hB3.mono (Nat.le_of_lt hb4)) (hB3.block _ hb4))
  have hB4 : Below w.heap.size w w4 := HBn.out.grown hg4 (by omega) (fun k e => by injection e with e; omega)
  have HB3 := Lib.hid (hB4.trans (hB3.mono hB4.size))
  have HZ3 := Lib.hid ((hB3.block _ (by omega)).trans ((hg4.block _ (by omega) (fun e => by injection e with e; omega)).trans HZn.out))
  have HSZ := Lib.hid hsz
  clear hB3 ht hr4 hg4 hsz HDS HBn HZn hB4
  go_wp2_with (first
    | (refine wpList_store_row rfl 39 _ _ rfl w4.heap.size #[.int .i64 f.op, .int .i64 f.num, .string f.name, .slice f.ka f.kl f.kc, .slice f.ma f.ml f.mc] rfl rfl 39 #[.int .i64 0, .int .i64 0, .string ⟨#[]⟩, .slice none 0 0, .slice none 0 0] hXb ruleSize rfl (by simp [Value.oneCell']) ?_)
    | fail)
  clear hXb hrowX
  generalize ((w4.alloc (.cells #[.int .i64 0, .int .i64 0, .string ⟨#[]⟩, .slice none 0 0, .slice none 0 0] 39)).setRow w4.heap.size #[.int .i64 f.op, .int .i64 f.num, .string f.name, .slice f.ka f.kl f.kc, .slice f.ma f.ml f.mc]) = W3 at *
  have hX4 : w.heap.size + 1 < w4.heap.size := hb4
  generalize w4.heap.size = X at *
  refine (pick _ _ p4 10 _ HR3.out (by omega) (by omega) (by omega)).mono ?_
  rintro e w5 ⟨x5, l5, u5, rfl, hr5, hg5, -⟩
  have hXl := (Array.getElem?_eq_some_iff.1 HX3.out).1
  have HX5 := Lib.hid ((hg5.block X hXl (fun e => by injection e with e; omega)).trans HX3.out)
  have HT5 := Lib.hid (HT3.out.kept (same_grown hg5 (fun y hy => by omega)))
  have HZ5 := Lib.hid ((hg5.block _ (Array.getElem?_eq_some_iff.1 HZ3.out).1 (fun e => by injection e with e; omega)).trans HZ3.out)
  have HB5 := Lib.hid (HB3.out.grown hg5 HB3.out.size (fun k e => by injection e with e; omega))
  have HR5 := Lib.hid hr5
  clear hr5 hg5 hXl HX3 HT3 HZ3 HB3 HR3
  have y0 : w5.cell? ⟨X, 0, none⟩ = some (.int .i64 f.op) := by rw [Lib.cell_of_heap HX5.out]; rfl
  have y1 : w5.cell? ⟨X, 1, none⟩ = some (.int .i64 f.num) := by rw [Lib.cell_of_heap HX5.out]; rfl
  have y2 : w5.cell? ⟨X, 2, none⟩ = some (.string f.name) := by rw [Lib.cell_of_heap HX5.out]; rfl
  have y3 : w5.cell? ⟨X, 3, none⟩ = some (.slice f.ka f.kl f.kc) := by rw [Lib.cell_of_heap HX5.out]; rfl
  have y4 : w5.cell? ⟨X, 4, none⟩ = some (.slice f.ma f.ml f.mc) := by rw [Lib.cell_of_heap HX5.out]; rfl
  cases hx : (x5 == 0) with
  | false =>
    have hres := HZ5.out
    have hpost : DrawnRW w (.returned f.val) (w5.setRow w.heap.size #[.int .i64 f.op, .int .i64 f.num, .string f.name, .slice f.ka f.kl f.kc, .slice f.ma f.ml f.mc]) := fin_rw (TrF.mono (fun x hx => by omega) _ _ HT5.out) HB5.out hres (by have := HSZ.out; omega)
    have hfin : ((w5).setRow w.heap.size #[.int .i64 f.op, .int .i64 f.num, .string f.name, .slice f.ka f.kl f.kc, .slice f.ma f.ml f.mc]).heap[w.heap.size]? = some (.cells #[.int .i64 f.op, .int .i64 f.num, .string f.name, .slice f.ka f.kl f.kc, .slice f.ma f.ml f.mc] 39 (0, 0)) := setRow_heap _ w.heap.size _ _ _ _ hres
    go_wp2_with (first
      | (refine wpList_store_row rfl 39 _ _ rfl w.heap.size #[.int .i64 f.op, .int .i64 f.num, .string f.name, .slice f.ka f.kl f.kc, .slice f.ma f.ml f.mc] rfl rfl 39 #[.int .i64 0, .int .i64 0, .string ⟨#[]⟩, .slice none 0 0, .slice none 0 0] hres ruleSize rfl (by simp [Value.oneCell']) ?_)
      | fail)
    generalize (w5).setRow w.heap.size #[.int .i64 f.op, .int .i64 f.num, .string f.name, .slice f.ka f.kl f.kc, .slice f.ma f.ml f.mc] = WF at *
    have v0 : WF.cell? ⟨w.heap.size, 0, none⟩ = some (.int .i64 f.op) := by rw [Lib.cell_of_heap hfin]; rfl
    have v1 : WF.cell? ⟨w.heap.size, 1, none⟩ = some (.int .i64 f.num) := by rw [Lib.cell_of_heap hfin]; rfl
    have v2 : WF.cell? ⟨w.heap.size, 2, none⟩ = some (.string f.name) := by rw [Lib.cell_of_heap hfin]; rfl
    have v3 : WF.cell? ⟨w.heap.size, 3, none⟩ = some (.slice f.ka f.kl f.kc) := by rw [Lib.cell_of_heap hfin]; rfl
    have v4 : WF.cell? ⟨w.heap.size, 4, none⟩ = some (.slice f.ma f.ml f.mc) := by rw [Lib.cell_of_heap hfin]; rfl
    have HP := Lib.hid hpost
    clear hfin hpost hres y0 y1 y2 y3 y4
    refine bodyPost_ret (v := f.val) ?_ rfl HP.out
    unfold Fld.val
    rw [results_cell1 rfl]
    go_simp
    all_goals rfl
  | true =>
    have hw5 : w.heap.size ≤ w5.heap.size := HB5.out.size
    have hsp := spoilAll _ t (Nat.le_refl _) f (w.heap.size + 1) (p4 + 1) w5 (TrF.mono (fun _ _ => trivial) _ _ HT5.out) (by have := HSZ.out; omega) HR5.out (by have := HSZ.out; have := wT_sz t; omega)
    unfold DrawnR Fld.val at hsp
    have HSP := Lib.hid hsp
    clear hsp
    go_wp2_with fail
    refine HSP.out.mono ?_
    rintro e w6 ⟨t6, f6, p6, rfl, ht6, hs6, hr6, hp6, hg6⟩
    have hb5 := HR5.out.le.2
    have hres := (hg6.block _ (Array.getElem?_eq_some_iff.1 HZ5.out).1 (fun e => by injection e with e; omega)).trans HZ5.out
    have hpost : DrawnRW w (.returned f6.val) (w6.setRow w.heap.size #[.int .i64 f6.op, .int .i64 f6.num, .string f6.name, .slice f6.ka f6.kl f6.kc, .slice f6.ma f6.ml f6.mc]) := fin_rw (TrF.mono (fun x hx => by have : w5.heap.size ≤ x := hx; omega) _ _ ht6) (HB5.out.grown hg6 HB5.out.size (fun k e => by injection e with e; omega)) hres (by have := HSZ.out; omega)
    clear ht6 hs6 hr6 hp6 hg6 y0 y1 y2 y3 y4
    have hfin : ((w6).setRow w.heap.size #[.int .i64 f6.op, .int .i64 f6.num, .string f6.name, .slice f6.ka f6.kl f6.kc, .slice f6.ma f6.ml f6.mc]).heap[w.heap.size]? = some (.cells #[.int .i64 f6.op, .int .i64 f6.num, .string f6.name, .slice f6.ka f6.kl f6.kc, .slice f6.ma f6.ml f6.mc] 39 (0, 0)) := setRow_heap _ w.heap.size _ _ _ _ hres
    go_wp2_with (first
      | (refine wpList_store_row rfl 39 _ _ rfl w.heap.size #[.int .i64 f6.op, .int .i64 f6.num, .string f6.name, .slice f6.ka f6.kl f6.kc, .slice f6.ma f6.ml f6.mc] rfl rfl 39 #[.int .i64 0, .int .i64 0, .string ⟨#[]⟩, .slice none 0 0, .slice none 0 0] hres ruleSize rfl (by simp [Value.oneCell']) ?_)
      | fail)
    generalize (w6).setRow w.heap.size #[.int .i64 f6.op, .int .i64 f6.num, .string f6.name, .slice f6.ka f6.kl f6.kc, .slice f6.ma f6.ml f6.mc] = WF at *
    have v0 : WF.cell? ⟨w.heap.size, 0, none⟩ = some (.int .i64 f6.op) := by rw [Lib.cell_of_heap hfin]; rfl
    have v1 : WF.cell? ⟨w.heap.size, 1, none⟩ = some (.int .i64 f6.num) := by rw [Lib.cell_of_heap hfin]; rfl
    have v2 : WF.cell? ⟨w.heap.size, 2, none⟩ = some (.string f6.name) := by rw [Lib.cell_of_heap hfin]; rfl
    have v3 : WF.cell? ⟨w.heap.size, 3, none⟩ = some (.slice f6.ka f6.kl f6.kc) := by rw [Lib.cell_of_heap hfin]; rfl
    have v4 : WF.cell? ⟨w.heap.size, 4, none⟩ = some (.slice f6.ma f6.ml f6.mc) := by rw [Lib.cell_of_heap hfin]; rfl
    have HP := Lib.hid hpost
    clear hfin hpost hres 
    refine bodyPost_ret (v := f6.val) ?_ rfl HP.out
    unfold Fld.val
    rw [results_cell1 rfl]
    go_simp
    all_goals rfl
def DrawnRO (w : World) (e : Ending) (w' : World) : Prop := ∃ (t : Tr) (f : Fld) (ns : List (ByteArray × Int)) (na : Option Addr) (nl nc : Nat) (fu : Int), e = .returned (.tuple #[f.val, .slice na nl nc, .int .i64 fu]) ∧ TrF All w' t f ∧ szT t ≤ 5000 ∧ PairsN All w' na nl ns ∧ nl ≤ 6 ∧ (-1 ≤ fu ∧ fu ≤ 1001) ∧ Below w.heap.size w w'
theorem results_cell3 {fn : Func} {p t u : Tmp} {ty : TypeId} (h : fn.results = #[.cell p ty, .tmp t, .tmp u]) (tmps : Array Value) (P : Program) (w : World) :
    (results fn tmps).run P w = ((asAddr (tmps.getD p undef)).run P w).andThen fun a w₁ => ((loadVar ty a).run P w₁).andThen fun v w₂ => .ok (.tuple #[v, tmps.getD t undef, tmps.getD u undef]) w₂ := by
  simp only [results, h]
  simp [Sem.run_bind, Result.andThen]
set_option maxRecDepth 100000 in
set_option maxHeartbeats 16000000 in
theorem drawRuleOf (a0 : Option Addr) (len cap : Nat) (z : List Int) (w : World) (w0 : IsRow .u8 w a0 len cap z) :
    Calls Tryz.prog 16 #[.slice a0 len cap] w (DrawnRO w) := by
  have hBa : Below w.heap.size w (w.alloc (.cells #[.int .i64 0, .int .i64 0, .string ⟨#[]⟩, .slice none 0 0, .slice none 0 0] 39)) := (Below.refl _ _).alloc (Nat.le_refl _) _
  have hZa := heap_alloc_new w (.cells #[.int .i64 0, .int .i64 0, .string ⟨#[]⟩, .slice none 0 0, .slice none 0 0] 39)
  have hsA : (w.alloc (.cells #[.int .i64 0, .int .i64 0, .string ⟨#[]⟩, .slice none 0 0, .slice none 0 0] 39)).heap.size = w.heap.size + 1 := by simp only [World.size_alloc]
  have HO := Lib.hid (opened a0 len cap z (w.alloc (.cells #[.int .i64 0, .int .i64 0, .string ⟨#[]⟩, .slice none 0 0, .slice none 0 0] 39)) (isRow_belowR w0 hBa))
  have HBa := Lib.hid hBa
  have HZa := Lib.hid hZa
  have HSA := Lib.hid hsA
  clear hsA
  have HW0 := Lib.hid w0
  clear w0 hBa hZa
  go_enter Tryz.func16, Tryz.ntmps16
  go_wp2_with fail
  generalize (w.alloc (.cells #[.int .i64 0, .int .i64 0, .string ⟨#[]⟩, .slice none 0 0, .slice none 0 0] 39)) = W0 at *
  refine HO.out.mono ?_
  rintro e w1 ⟨rfl, hr1, hb1, hs1⟩
  rw [HSA.out] at hr1 hs1
  have hs1' : w.heap.size + 2 ≤ w1.heap.size := by omega
  have h01 : W0.heap.size ≤ w1.heap.size := by have := HSA.out; omega
  have hwW : w.heap.size ≤ W0.heap.size := by have := HSA.out; omega
  have hwW1 : w.heap.size < W0.heap.size := by have := HSA.out; omega
  clear hs1
  have hB1 := HBa.out.trans (hb1.mono (by omega))
  have hZ1 := (hb1.block w.heap.size (by omega)).trans HZa.out
  have HR1 := Lib.hid hr1
  have hdw := drawRuleWrite a0 len cap z w1 (isRow_belowR HW0.out hB1)
  unfold DrawnRW Fld.val at hdw
  have HDW := Lib.hid hdw
  have HB1 := Lib.hid hB1
  have HZ1 := Lib.hid hZ1
  clear hr1 hb1 hB1 hZ1 HO HBa HZa hdw
  rw [HSA.out]
  go_wp2_with fail
  refine HDW.out.mono ?_
  rintro e w2 ⟨t, f, rfl, ht, hsz, hb2⟩
  have hr2 := HR1.out.kept (hb2.mono (by omega)) (hb2.block _ (by omega))
  have hs2 := hb2.size
  have HT2 := Lib.hid (TrF.mono (N' := fun x => w.heap.size + 1 < x) (fun x hx => by have : w1.heap.size ≤ x := hx; omega) _ _ ht)
  have HB2 := Lib.hid (HB1.out.trans (hb2.mono (by omega)))
  have HZ2 := Lib.hid ((hb2.block w.heap.size (by omega)).trans HZ1.out)
  have HSZ := Lib.hid hsz
  clear ht hsz hb2 HB1 HZ1 HR1 HDW
  go_wp2_with fail
  refine (drawPairs (w.heap.size + 1) 0 w2 hr2 (by omega)).mono ?_
  rintro e w3 ⟨na, nl, nc, ns, p3, rfl, hp3, hn6, hr3, hq3, hg3⟩
  have hs3 := hg3.size
  have HT3 := Lib.hid (HT2.out.kept (same_grown hg3 (fun y hy => by omega)))
  have HB3 := Lib.hid (HB2.out.grown hg3 (by omega) (fun k e => by injection e with e; omega))
  have HZ3 := Lib.hid ((hg3.block w.heap.size (by omega) (fun e => by injection e with e; omega)).trans HZ2.out)
  have HP3 := Lib.hid (hp3.mono (N' := fun x => w.heap.size + 1 < x) (fun x hx => by have : w2.heap.size ≤ x := hx; omega))
  have HR3 := Lib.hid hr3
  clear hr2 hp3 hr3 hg3 HT2 HB2 HZ2
  go_wp2_with fail
  refine (drawFuel (w.heap.size + 1) p3 w3 HR3.out (by omega)).mono ?_
  rintro e w4 ⟨fu, f0, f1, rfl, -, hg4⟩
  have hs4 := hg4.size
  have hT4 := HT3.out.kept (same_grown hg4 (fun y hy => by omega))
  have hB4 := HB3.out.grown hg4 (by omega) (fun k e => by injection e with e; omega)
  have hres := (hg4.block w.heap.size (by omega) (fun e => by injection e with e; omega)).trans HZ3.out
  have hP4 := HP3.out.kept (same_grown hg4 (fun y hy => by omega))
  have hpost : DrawnRO w (.returned (.tuple #[f.val, .slice na nl nc, .int .i64 fu])) (w4.setRow w.heap.size #[.int .i64 f.op, .int .i64 f.num, .string f.name, .slice f.ka f.kl f.kc, .slice f.ma f.ml f.mc]) := by
    have hG := grown_setRowT w4 w.heap.size #[.int .i64 f.op, .int .i64 f.num, .string f.name, .slice f.ka f.kl f.kc, .slice f.ma f.ml f.mc]
    exact ⟨t, f, ns, na, nl, nc, fu, rfl, TrF.mono (fun _ _ => trivial) _ _ (hT4.kept (same_grown hG (fun y hy => by omega))), HSZ.out, (hP4.kept (same_grown hG (fun y hy => by omega))).mono (fun _ _ => trivial), hn6, ⟨f0, f1⟩, hB4.grown hG hB4.size (fun k e => by injection e with e; omega)⟩
  have hfin : (w4.setRow w.heap.size #[.int .i64 f.op, .int .i64 f.num, .string f.name, .slice f.ka f.kl f.kc, .slice f.ma f.ml f.mc]).heap[w.heap.size]? = some (.cells #[.int .i64 f.op, .int .i64 f.num, .string f.name, .slice f.ka f.kl f.kc, .slice f.ma f.ml f.mc] 39 (0, 0)) := setRow_heap _ w.heap.size _ _ _ _ hres
  clear hT4 hB4 hP4 hg4
  go_wp2_with (first
    | (refine wpList_store_row rfl 39 _ _ rfl w.heap.size #[.int .i64 f.op, .int .i64 f.num, .string f.name, .slice f.ka f.kl f.kc, .slice f.ma f.ml f.mc] rfl rfl 39 #[.int .i64 0, .int .i64 0, .string ⟨#[]⟩, .slice none 0 0, .slice none 0 0] hres ruleSize rfl (by simp [Value.oneCell']) ?_)
    | fail)
  generalize w4.setRow w.heap.size #[.int .i64 f.op, .int .i64 f.num, .string f.name, .slice f.ka f.kl f.kc, .slice f.ma f.ml f.mc] = WF at *
  have v0 : WF.cell? ⟨w.heap.size, 0, none⟩ = some (.int .i64 f.op) := by rw [Lib.cell_of_heap hfin]; rfl
  have v1 : WF.cell? ⟨w.heap.size, 1, none⟩ = some (.int .i64 f.num) := by rw [Lib.cell_of_heap hfin]; rfl
  have v2 : WF.cell? ⟨w.heap.size, 2, none⟩ = some (.string f.name) := by rw [Lib.cell_of_heap hfin]; rfl
  have v3 : WF.cell? ⟨w.heap.size, 3, none⟩ = some (.slice f.ka f.kl f.kc) := by rw [Lib.cell_of_heap hfin]; rfl
  have v4 : WF.cell? ⟨w.heap.size, 4, none⟩ = some (.slice f.ma f.ml f.mc) := by rw [Lib.cell_of_heap hfin]; rfl
  have HP := Lib.hid hpost
  clear hfin hpost hres
  refine bodyPost_ret (v := .tuple #[f.val, .slice na nl nc, .int .i64 fu]) ?_ rfl HP.out
  unfold Fld.val
  rw [results_cell3 rfl]
  go_simp
  all_goals rfl
end Go.Proofs.YtjphjnopdlfplaaGreatDoor
