/-
  The law FnVmBoth's own walk (P20).
-/
import Derived.Test.YtjphjnopdlfplaaGreatDoorDrawVm
import Derived.Test.YtjphjnopdlfplaaGreatDoorVmRunB
import Derived.Test.YtjphjnopdlfplaaGreatDoorJ1
namespace Go.Proofs.YtjphjnopdlfplaaGreatDoor
open Go.RowKit
set_option linter.unusedVariables false
set_option linter.unusedSimpArgs false

theorem isRow_belowV {k : IntKind} {w w' : World} {a : Option Addr} {len cap : Nat} {z : List Int} (h : IsRow k w a len cap z) (hb : Below w.heap.size w w') : IsRow k w' a len cap z := by
  rcases h with h | ⟨x, h1, h2, h3, h4, h5, h6⟩
  · exact Or.inl h
  · refine Or.inr ⟨x, h1, h2, h3, h4, fun i hi => ?_, h6⟩
    have hc := h5 i hi
    exact (hb.cell (p := x.add i) (World.block_lt_of_cell? w _ hc)).trans hc
theorem both_code {B : Nat} {w6 w9 : World} {v v' : Value} {ds ds' : List Pl} {fs fs' : List FI} {g c : Nat} (h : CodeRow B w6 v ds fs) (h' : CodeRow B w6 v' ds' fs') (hB : Below w6.heap.size w6 w9) (ho : w9.ownsRow w6.heap.size tI 4 (.slice (some ⟨g, 0, none⟩) (ds.length + ds'.length + 1) c) (ds.length + ds'.length + 1) (rowsI fs ++ rowsI fs' ++ rowsI [⟨3, 0, ⟨#[]⟩, none, 0, 0⟩])) : PlsN All w9 (some ⟨g, 0, none⟩) (ds.length + ds'.length + 1) (ds ++ ds' ++ [⟨3, 0, ⟨#[]⟩, []⟩]) := by
  have hl : (ds ++ ds' ++ [(⟨3, 0, ⟨#[]⟩, []⟩ : Pl)]).length = ds.length + ds'.length + 1 := by simp only [List.length_append, List.length_singleton]
  have hw : CodeW (min B w6.heap.size) w9 (.slice (some ⟨g, 0, none⟩) (ds.length + ds'.length + 1) c) (ds ++ ds' ++ [⟨3, 0, ⟨#[]⟩, []⟩]) := by
    refine ⟨fs ++ fs' ++ [⟨3, 0, ⟨#[]⟩, none, 0, 0⟩], ?_, ?_⟩
    · rw [hl, rowsI_app, rowsI_app]
      exact owns_mono ho (Nat.min_le_right _ _)
    · exact allO_app (allO_app (allO_imp (fun _ _ k => (k.below hB).mono (Nat.min_le_left _ _)) h.2) (allO_imp (fun _ _ k => (k.below hB).mono (Nat.min_le_left _ _)) h'.2)) (allO_one (plO_bare 3 0 ⟨#[]⟩))
  exact codeW_pls hw hl.symm
theorem both_facts (ns : List (ByteArray × Int)) (p q : List Pl) {n u m u' : Int} (h1 : vmRunV p ns 1000 = (n, 0, u)) (h2 : vmRunV q ns 1000 = (m, 0, u')) :
    okB n = true ∧ okB m = true ∧ (OkV (p ++ q ++ [⟨3, 0, ⟨#[]⟩, []⟩]) → (vmRunV (p ++ q ++ [⟨3, 0, ⟨#[]⟩, []⟩]) ns 1000).2.1 = 1 ∨ ((vmRunV (p ++ q ++ [⟨3, 0, ⟨#[]⟩, []⟩]) ns 1000).1, (vmRunV (p ++ q ++ [⟨3, 0, ⟨#[]⟩, []⟩]) ns 1000).2.1) = orB (n + m) (okB (n + m))) := by
  have yes : ∀ {ds : List Pl} {v u : Int}, vmRunV ds ns 1000 = (v, 0, u) → OkV ds ∧ (machV ns ds [] 1000).v = v ∧ (machV ns ds [] 1000).c = 0 := by
    intro ds v u h
    by_cases ho : OkV ds
    · rw [vmRun_yes ⟨ho, by decide, by decide⟩] at h
      simp only [Prod.mk.injEq] at h
      exact ⟨ho, h.1, h.2.1⟩
    · rw [vmRun_no (fun k => ho k.1)] at h
      simp at h
  obtain ⟨o1, v1, c1⟩ := yes h1
  obtain ⟨o2, v2, c2⟩ := yes h2
  have s1 := (mach_sok ns o1 (fu := 1000) (by decide)).1
  have s2 := (mach_sok ns o2 (fu := 1000) (by decide)).1
  rw [v1] at s1
  rw [v2] at s2
  refine ⟨s1, s2, fun hb => ?_⟩
  have := vm_both ns (fu := 1000) o1 o2 c1 c2 hb
  rw [v1, v2] at this
  exact this
set_option maxRecDepth 20000 in
set_option maxHeartbeats 32000000 in
theorem lawVmBoth (a0 : Option Addr) (len0 cap0 : Nat) (z0 : List Int) (a1 : Option Addr) (len1 cap1 : Nat) (z1 : List Int) (w : World) (w0 : IsRow .u8 w a0 len0 cap0 z0) (w0' : IsRow .u8 w a1 len1 cap1 z1) (hL : Laid w) :
    Calls Tryz.prog 7 #[.slice a0 len0 cap0, .slice a1 len1 cap1] w fun e w' => e = .returned (.bool true) ∧ Below w.heap.size w w' := by
  rcases Nat.lt_or_ge 1048576 len0 with hb0 | hb0
  · clear w0 w0'
    go_enter Tryz.func7, Tryz.ntmps7
    go_wp2
    go_ret
    exact ⟨rfl, Below.refl _ _⟩
  rcases Nat.lt_or_ge 1048576 len1 with hb1 | hb1
  · clear w0 w0'
    go_enter Tryz.func7, Tryz.ntmps7
    go_wp2
    go_ret
    exact ⟨rfl, Below.refl _ _⟩
  obtain ⟨ii0, hi, hz0, hz1, hz2⟩ := info_parts infoIns
  have hd := drawVmRun a0 len0 cap0 z0 w w0
  unfold DrawnVR at hd
  have HD := Lib.hid hd
  have HL := Lib.hid hL
  have HW0 := Lib.hid w0'
  clear w0 w0' hd hL
  go_enter Tryz.func7, Tryz.ntmps7
  go_wp2_with fail
  refine HD.out.mono ?_
  rintro e w1 ⟨a, n, c, ds, na, nl, nc, ns, fu, rfl, hn, hpl, hsm, hpp, hn6, hfu, d1⟩
  subst hn
  have h101 := hsm.1
  have HSM : Hid (∀ d ∈ ds, SmallP d) := Lib.hid hsm.small
  have HP1 := Lib.hid hpl
  have HN1 := Lib.hid hpp
  have HB1 := Lib.hid d1
  have L1 := Lib.hid (laid_stays HL.out d1)
  have hd := drawVmRun a1 len1 cap1 z1 w1 (isRow_belowV HW0.out d1)
  unfold DrawnVR at hd
  have HD2 := Lib.hid hd
  clear hpl hsm hpp d1 HL hfu hd HW0 HD
  go_wp2_with fail
  refine HD2.out.mono ?_
  rintro e w2 ⟨a', n', c', ds', na', nl', nc', ns', fu', rfl, hn, hpl, hsm, -, -, -, d2⟩
  subst hn
  have h101' := hsm.1
  have HSM' : Hid (∀ d ∈ ds', SmallP d) := Lib.hid hsm.small
  have hww := HB1.out.size
  have HC2 := Lib.hid (hpl.mono hww)
  have HP2 := Lib.hid (HP1.out.below d2)
  have HN2 := Lib.hid (HN1.out.kept (same_of_below d2))
  have HB2 : Hid (Below w.heap.size w w2) := Lib.hid (HB1.out.trans (d2.mono HB1.out.size))
  have L2 := Lib.hid (laid_stays L1.out d2)
  clear hpl hsm d2 HD2 HP1 HN1 HB1 L1 hww
  obtain ⟨r, hr⟩ : ∃ r, vmRunV ds ns 1000 = r := ⟨_, rfl⟩
  have HR := Lib.hid hr
  obtain ⟨r', hr'⟩ : ∃ r, vmRunV ds' ns 1000 = r := ⟨_, rfl⟩
  have HR' := Lib.hid hr'
  clear hr hr'
  obtain ⟨v, k, u⟩ := r
  obtain ⟨v', k', u'⟩ := r'
  have hq3 := implVmRun a ds.length c ds ns na nl nc 1000 w2 (codeW_pls HP2.out rfl) HSM.out (by omega) HN2.out (by omega) L2.out
  unfold VmP at hq3
  rw [HR.out] at hq3
  dsimp only at hq3
  have HQ3 := Lib.hid hq3
  clear hq3
  go_wp2_with fail
  refine HQ3.out.mono ?_
  rintro e w3 ⟨rfl, d3⟩
  have HP3 := Lib.hid (HP2.out.below d3)
  have HC3 := Lib.hid (HC2.out.below d3)
  have HN3 := Lib.hid (HN2.out.kept (same_of_below d3))
  have HB3 : Hid (Below w.heap.size w w3) := Lib.hid (HB2.out.trans (d3.mono HB2.out.size))
  have L3 := Lib.hid (laid_stays L2.out d3)
  clear HP2 HC2 HN2 HB2 L2 d3 HQ3
  have hq4 := specVmRun a ds.length c ds ns na nl nc 1000 w3 (codeW_pls HP3.out rfl) HSM.out (by omega) HN3.out (by omega)
  unfold VmP at hq4
  rw [HR.out] at hq4
  dsimp only at hq4
  have HQ4 := Lib.hid hq4
  clear hq4
  go_wp2_with fail
  refine HQ4.out.mono ?_
  rintro e w4 ⟨rfl, d4⟩
  have HP4 := Lib.hid (HP3.out.below d4)
  have HC4 := Lib.hid (HC3.out.below d4)
  have HN4 := Lib.hid (HN3.out.kept (same_of_below d4))
  have HB4 : Hid (Below w.heap.size w w4) := Lib.hid (HB3.out.trans (d4.mono HB3.out.size))
  have L4 := Lib.hid (laid_stays L3.out d4)
  clear HP3 HC3 HN3 HB3 L3 d4 HQ4
  have hq6 := implVmRun a' ds'.length c' ds' ns na nl nc 1000 w4 (codeW_pls HC4.out rfl) HSM'.out (by omega) HN4.out (by omega) L4.out
  unfold VmP at hq6
  rw [HR'.out] at hq6
  dsimp only at hq6
  have HQ6 := Lib.hid hq6
  clear hq6
  go_wp2_with fail
  refine HQ6.out.mono ?_
  rintro e w6 ⟨rfl, d6⟩
  have HP6 := Lib.hid (HP4.out.below d6)
  have HC6 := Lib.hid (HC4.out.below d6)
  have HN6 := Lib.hid (HN4.out.kept (same_of_below d6))
  have HB6 : Hid (Below w.heap.size w w6) := Lib.hid (HB4.out.trans (d6.mono HB4.out.size))
  have L6 := Lib.hid (laid_stays L4.out d6)
  clear HP4 HC4 HN4 HB4 L4 d6 HQ6
  have g1 : (v != v) = false := by simp
  have g2 : (k != k) = false := by simp
  have g4 : (v == v) = true := by simp
  have g5 : (k == k) = true := by simp
  by_cases hk : k = 0
  rotate_left
  · have hkb : (k != 0) = true := by simpa using hk
    clear hk
    go_wp2
    go_ret
    exact ⟨rfl, HB6.out⟩
  subst hk
  by_cases hk : k' = 0
  rotate_left
  · have hkb : (k' != 0) = true := by simpa using hk
    clear hk
    go_wp2
    go_ret
    exact ⟨rfl, HB6.out⟩
  subst hk
  obtain ⟨fs, hcp⟩ := HP6.out
  obtain ⟨fs', hcq⟩ := HC6.out
  have HCP := Lib.hid hcp
  have HCQ := Lib.hid hcq
  have HFB := Lib.hid (both_facts ns ds ds' (n := v) (u := u) (m := v') (u' := u') HR.out HR'.out)
  clear hcp hcq HP6 HC6
  go_upto_region 11 with (first | (at_builtin; refine wpList_append_src ?ya1 ?yas ?yax 28 ?ya2 w6.heap.size tI ii0 (.agg #[.int .i64 0, .int .i64 0, .string ⟨#[]⟩, .slice none 0 0]) 4 56 ?ya3 ?ya4 ?ya5 ?ya6 ?ya7 ?ya8 ?ya9 (.slice (some ⟨w6.heap.size, 0, none⟩) 0 0) 0 [] ?ya10 ?yah1 a ds.length c (rowsI fs) ?ya11 ?yasrc ?yah3 ?yac2 ?yac3 ?yac4 ?_; (case ya1 => rfl); (case ya2 => rfl); (case ya10 => rfl); (case ya11 => rfl); (case yah1 => exact World.ownsRow_made w6 #[] 0 (Nat.le_refl _) (by unfold maxLen; omega) rfl); (case yasrc => exact src_code (HCP.out.below (show Below w6.heap.size w6 (w6.alloc (.cells #[] 55)) from (Below.refl _ _).alloc (Nat.le_refl _) _)) rfl); (case ya3 => exact Tryz.underlying28); (case ya4 => exact hi); (case ya5 => exact hz0); (case ya6 => exact hz1); (case ya7 => exact hz2); (case ya8 => rfl); (case ya9 => decide); (case yah3 => exact rowsI_one); (case yac2 => unfold maxLen; omega); (case yac3 => omega); (case yac4 => (simp only [World.size_alloc]; omega)); intro v7 w7 hown hgrow hat; obtain ⟨g7, c7, rfl, hO⟩ := app_four hown hat; have hb7 : Below w6.heap.size w6 w7 := (Below.grown (show Below w6.heap.size w6 (w6.alloc (.cells #[] 55)) from (Below.refl _ _).alloc (Nat.le_refl _) _) hgrow (by simp only [World.size_alloc]; omega) (fun k e => by simp [Value.ownBlock] at e; omega)); have HO7 := Lib.hid hO; have HB7 := Lib.hid hb7; have hs7 := hb7.size; clear hown hgrow hat hO hb7) | (at_builtin; refine wpList_append_src ?yb1 ?ybs ?ybx 28 ?yb2 w6.heap.size tI ii0 (.agg #[.int .i64 0, .int .i64 0, .string ⟨#[]⟩, .slice none 0 0]) 4 56 ?yb3 ?yb4 ?yb5 ?yb6 ?yb7 ?yb8 ?yb9 (.slice (some ⟨g7, 0, none⟩) ds.length c7) ds.length (rowsI fs) ?yb10 ?ybh1 a' ds'.length c' (rowsI fs') ?yb11 ?ybsrc ?ybh3 ?ybc2 ?ybc3 ?ybc4 ?_; (case yb1 => rfl); (case yb2 => rfl); (case yb10 => rfl); (case yb11 => rfl); (case ybh1 => exact HO7.out); (case ybsrc => exact src_code (HCQ.out.below HB7.out) rfl); (case yb3 => exact Tryz.underlying28); (case yb4 => exact hi); (case yb5 => exact hz0); (case yb6 => exact hz1); (case yb7 => exact hz2); (case yb8 => rfl); (case yb9 => decide); (case ybh3 => exact rowsI_one); (case ybc2 => unfold maxLen; omega); (case ybc3 => omega); (case ybc4 => (exact HB7.out.size)); intro v8 w8 hown hgrow hat; obtain ⟨g8, c8, hv8⟩ := own_formV hown (by rcases hat with e | e <;> (rw [e]; simp [Value.ownBlock])); subst hv8; have hb8 : Below w6.heap.size w6 w8 := HB7.out.grown hgrow HB7.out.size (fun k e => (HO7.out.lt k e).1); have HO8 := Lib.hid hown; have HB8 := Lib.hid hb8; have hs8 := hb8.size; clear hown hgrow hat hb8) | (at_builtin; refine wpList_append_lies ?ycw ?yc1 ?ycs ?ycx 28 ?yc2 w6.heap.size 55 ii0 (.agg #[.int .i64 0, .int .i64 0, .string ⟨#[]⟩, .slice none 0 0]) 4 56 ?yc3 ?yc4 ?yc5 ?yc6 ?yc7 ?yc8 ?yc9 (.slice (some ⟨g8, 0, none⟩) (ds.length + ds'.length) c8) (ds.length + ds'.length) (rowsI fs ++ rowsI fs') ?yc10 ?ych1 ⟨w8.heap.size, 0, none⟩ 1 1 (rowsI [⟨3, 0, ⟨#[]⟩, none, 0, 0⟩]) ?yc11 ?yc12 ?ych2 ?ych3 ?ycc1 ?ycc2 ?ycc3 ?ycc4 (w8.heap.size + 1) ?ycc5 ?_; (case yc1 => rfl); (case yc2 => rfl); (case yc10 => rfl); (case yc11 => rfl); (case ych1 => exact owns_none4 HO8.out (show Below w8.heap.size w8 (w8.alloc (.cells #[.int .i64 3, .int .i64 0, .string ⟨#[]⟩, .slice none 0 0] 55)) from (Below.refl _ _).alloc (Nat.le_refl _) _)); (case yc3 => exact Tryz.underlying28); (case yc4 => exact hi); (case yc5 => exact hz0); (case yc6 => exact hz1); (case yc7 => exact hz2); (case yc8 => rfl); (case yc9 => decide); (case yc12 => rfl); (case ych2 => exact (World.news_of_block (heap_alloc_new w8 _))); (case ych3 => exact rowsI_one); (case ycc1 => decide); (case ycc2 => unfold maxLen; omega); (case ycc3 => omega); (case ycc4 => (simp only [World.size_alloc]; omega)); (case ycc5 => simp only [World.size_alloc]); intro g9 c9 w9 hown hgrow hat hlt; have hb9 : Below w6.heap.size w6 w9 := (HB8.out.trans (Below.mono (show Below w8.heap.size w8 (w8.alloc (.cells #[.int .i64 3, .int .i64 0, .string ⟨#[]⟩, .slice none 0 0] 55)) from (Below.refl _ _).alloc (Nat.le_refl _) _) HB8.out.size)).grown hgrow (by simp only [World.size_alloc]; omega) (fun k e => (HO8.out.lt k e).1); have HO9 := Lib.hid hown; have HB9 := Lib.hid hb9; clear hown hgrow hat hlt hb9))
  have HPB := Lib.hid (both_code HCP.out HCQ.out HB9.out HO9.out)
  have HB : Hid (Below w.heap.size w w9) := Lib.hid (HB6.out.trans (HB9.out.mono HB6.out.size))
  have HN9 := Lib.hid (HN6.out.kept (same_of_below HB9.out))
  have L9 := Lib.hid (laid_stays L6.out HB9.out)
  have HSB : Hid (∀ d ∈ ds ++ ds' ++ [(⟨3, 0, ⟨#[]⟩, []⟩ : Pl)], SmallP d) := Lib.hid (fun d hd => by
    rcases List.mem_append.1 hd with h | h
    · rcases List.mem_append.1 h with h | h
      · exact HSM.out d h
      · exact HSM'.out d h
    · simp at h; subst h; exact ⟨by show 0 ≤ 1048576; omega, by show 0 ≤ 1048576; omega⟩)
  clear HCP HCQ HO7 HO8 HO9 HB7 HB8 HB9 HB6 HN6 L6 hs7 hs8
  generalize ds ++ ds' ++ [(⟨3, 0, ⟨#[]⟩, []⟩ : Pl)] = dsb at *
  obtain ⟨rb, hrb⟩ : ∃ r, vmRunV dsb ns 1000 = r := ⟨_, rfl⟩
  have HRB := Lib.hid hrb
  have hfb := HFB.out
  rw [hrb] at hfb
  have HFC := Lib.hid hfb
  clear hrb hfb HFB
  obtain ⟨x, dd, ub⟩ := rb
  dsimp only at HFC
  have hl : ds.length + ds'.length + 1 ≤ 1048576 := by omega
  have hq := implVmRun _ _ c9 dsb ns na nl nc 1000 w9 HPB.out HSB.out hl HN9.out (by omega) L9.out
  unfold VmP at hq
  rw [HRB.out] at hq
  dsimp only at hq
  have HQ := Lib.hid hq
  clear hq
  go_wp2_with fail
  refine HQ.out.mono ?_
  rintro e wa ⟨rfl, da⟩
  have HPa := Lib.hid (HPB.out.kept (same_of_below da))
  have HBa : Hid (Below w.heap.size w wa) := Lib.hid (HB.out.trans (da.mono HB.out.size))
  clear HQ HPB HB HN9 L9 da
  have hM := implMoneyAdd v v' wa
  obtain ⟨ok1, ok2, hF⟩ := HFC.out
  have hao : addOk v v' = okB (v + v') := by unfold addOk; rw [ok1, ok2]; rfl
  have hav : okB (v + v') = true → addV v v' = v + v' := fun h => by unfold addV; rw [hao, if_pos h]
  rw [hao] at hM
  obtain ⟨sm, hsm⟩ : ∃ sm, addV v v' = sm := ⟨_, rfl⟩
  rw [hsm] at hM hav
  obtain ⟨ob, hob⟩ : ∃ ob, okB (v + v') = ob := ⟨_, rfl⟩
  rw [hob] at hM hF hav
  have HM := Lib.hid hM
  clear hM
  obtain ⟨ok, hok⟩ : ∃ ok, decide (OkV dsb) = ok := ⟨_, rfl⟩
  have HF : Hid (ok = true → dd = 1 ∨ (x, dd) = orB (v + v') ob) := Lib.hid (fun h => hF (by rw [h] at hok; simpa using hok))
  have HAV := Lib.hid hav
  have HOKE := Lib.hid hok
  clear hF hao hav hok ok1 ok2 hsm hob HFC
  go_wp2_with fail
  refine HM.out.mono ?_
  rintro e wb ⟨rfl, hwb⟩
  subst wb
  have hO := specVmOk _ _ c9 dsb wa HPa.out HSB.out hl
  unfold OkVP at hO
  rw [HOKE.out] at hO
  have HO := Lib.hid hO
  clear hO
  go_wp2_with fail
  refine HO.out.mono ?_
  rintro e wc ⟨rfl, dc⟩
  have HBc : Hid (Below w.heap.size w wc) := Lib.hid (HBa.out.trans (dc.mono HBa.out.size))
  clear dc HO HBa HPa HM
  cases ok with
  | false =>
    go_wp2
    go_ret
    exact ⟨rfl, HBc.out⟩
  | true =>
    by_cases h1 : dd = 1
    · subst h1
      go_wp2
      go_ret
      exact ⟨rfl, HBc.out⟩
    have h1b : (dd == 1) = false := by simpa using h1
    have hor := (HF.out rfl).resolve_left h1
    cases ob with
    | true =>
      have hs : sm = v + v' := HAV.out rfl
      obtain ⟨rfl, rfl⟩ : x = v + v' ∧ dd = 0 := by simpa [orB] using hor
      subst hs
      have hxx : (v + v' == v + v') = true := by simp
      clear hor h1
      go_wp2
      go_ret
      exact ⟨rfl, HBc.out⟩
    | false =>
      obtain ⟨rfl, rfl⟩ : x = 0 ∧ dd = 2 := by simpa [orB] using hor
      clear hor h1
      go_wp2
      go_ret
      exact ⟨rfl, HBc.out⟩

end Go.Proofs.YtjphjnopdlfplaaGreatDoor
