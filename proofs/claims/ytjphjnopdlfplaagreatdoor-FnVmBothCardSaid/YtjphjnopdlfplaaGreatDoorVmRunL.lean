/-
  A program is run, place by place: the model's answer.
-/
import Derived.Test.YtjphjnopdlfplaaGreatDoorVmRunS
namespace Go.Proofs.YtjphjnopdlfplaaGreatDoor
open Go.RowKit
set_option linter.unusedVariables false
set_option linter.unusedSimpArgs false

theorem src_own {w : World} {base g m c r : Nat} {st : List Int} (h : w.ownsRow base 3 1 (.slice (some ⟨g, 0, none⟩) m c) m (st.map (Value.int .i64))) (hr : r ≤ m) : Src w (some ⟨g, 0, none⟩) r 1 ((st.take r).map (Value.int .i64)) := by
  have hl : m = st.length := by have := h.1; simpa using this.symm
  refine ⟨by rw [List.length_map, List.length_take]; omega, fun _ => ⟨_, rfl, fun j u hj => ?_⟩⟩
  have hjr : j < r := by have := (List.getElem?_eq_some_iff.1 hj).1; rw [List.length_map, List.length_take] at this; omega
  rw [addA, Nat.zero_add, h.cellAt j (by omega)]
  rw [List.getElem?_map, List.getElem?_take_of_lt hjr, ← List.getElem?_map] at hj
  exact hj
theorem app_done {wz : World} {base r x y : Nat} {v : Value} {l : List Value} (h : wz.ownsRow base 3 1 v (0 + r) ([] ++ l)) (hat : v.ownBlock = (Value.slice (some ⟨x, 0, none⟩) 0 0).ownBlock ∨ v.ownBlock = some y) : ∃ g c, v = .slice (some ⟨g, 0, none⟩) r c ∧ wz.ownsRow base 3 1 (.slice (some ⟨g, 0, none⟩) r c) r l := by
  rw [Nat.zero_add, List.nil_append] at h
  obtain ⟨g, c, rfl⟩ := own_formV h (by rcases hat with e | e <;> (rw [e]; simp [Value.ownBlock]))
  exact ⟨g, c, rfl, h⟩
set_option maxRecDepth 20000 in
set_option maxHeartbeats 16000000 in
theorem specRun (a : Option Addr) (n cap : Nat) (ds : List Pl) (ns : List (ByteArray × Int)) (na : Option Addr) (nl nc : Nat) (fu : Int) (w : World) (h : PlsN All w a n ds) (hsm : ∀ d ∈ ds, SmallP d) (hok : OkV ds) (hp : PairsN All w na nl ns) (hnl : nl ≤ 1048576) (f0 : 0 ≤ fu) (f1 : fu ≤ 1000) :
    Calls Tryz.prog 35 #[.slice a n cap, .slice na nl nc, .int .i64 fu] w fun e w' => e = .returned (.tuple #[.int .i64 (machV ns ds [] fu).v, .int .i64 (machV ns ds [] fu).c, .int .i64 (fu - (machV ns ds [] fu).f)]) ∧ Below w.heap.size w w' := by
  obtain ⟨it0, hi, hz0, hz1, hz2⟩ := info_parts infoIntV
  obtain ⟨hs, hhs, hway⟩ := okV_way hok
  have HIN := Lib.hid (heightsV_in hhs)
  have HW := Lib.hid hway
  have H := Lib.hid h
  have HSM := Lib.hid hsm
  have HP := Lib.hid hp
  have HN : Hid (n = ds.length) := h.1
  have HR0 := Lib.hid (run_first (ns := ns) (fu := fu) hway)
  have n80 : n ≤ 80 := by have := hok.1; have := HN.out; omega
  clear h hsm hok hp hhs hway
  obtain ⟨mv, hmv⟩ : ∃ mv, machV ns ds [] fu = mv := ⟨_, rfl⟩
  rw [hmv]
  have HMV := Lib.hid hmv
  clear hmv
  obtain ⟨mvv, mvc, mvf⟩ := mv
  dsimp only
  go_enter Tryz.func35, Tryz.ntmps35
  go_wp2_with fail
  have hown0 : (w.alloc (.cells #[] 3)).ownsRow w.heap.size 3 1 (.slice (some ⟨w.heap.size, 0, none⟩) 0 0) 0 (([] : List Int).map (Value.int .i64)) := World.ownsRow_made w #[] 0 (Nat.le_refl _) (by unfold maxLen; omega) rfl
  have O0 := Lib.hid hown0
  have B0 : Hid (Below w.heap.size w (w.alloc (.cells #[] 3))) := Lib.hid ((Below.refl _ _).alloc (Nat.le_refl _) _)
  clear hown0
  generalize w.alloc (.cells #[] 3) = W0 at *
  go_loopw [9, 10, 11] (fun vh vu vi wr => ∃ (i m c g : Nat) (st : List Int) (u : Int), i ≤ n ∧ vi = .int .i64 i ∧ vu = .int .i64 u ∧ vh = .slice (some ⟨g, 0, none⟩) m c ∧ 0 ≤ u ∧ u ≤ fu ∧ Hid (wr.ownsRow w.heap.size 3 1 (.slice (some ⟨g, 0, none⟩) m c) m (st.map (Value.int .i64))) ∧ Hid (RunAt ds hs ns fu i st u) ∧ Hid (Below w.heap.size w wr)) (fun _ _ vi _ => n - (intOf vi).toNat)
  case atStart => exact ⟨0, 0, 0, w.heap.size, [], 0, Nat.zero_le _, rfl, rfl, rfl, Int.le_refl _, f0, O0, HR0, B0⟩
  case round =>
    obtain ⟨i, m, c, g, st, u, hin, rfl, rfl, rfl, u0, u1, hown, hrun, hb⟩ := hrel
    have HML : Hid (m = st.length) := Lib.hid (by have := hown.out.1; simpa using this.symm)
    have m12 : m ≤ 12 := by have := run_size HW.out HIN.out hrun.out; have := HML.out; omega
    have HCAP : Hid (m ≤ c) := Lib.hid (by
      rcases hown.out.2 with ⟨e, -⟩ | ⟨_, _, _, hv, _, _, k3, _⟩
      · cases e
      · obtain ⟨-, rfl⟩ : g = _ ∧ c = _ := by simpa using hv
        exact k3)
    have hgw : g < wr.heap.size := (hown.out.lt g rfl).2
    rcases Nat.lt_or_ge i n with hlt | hge
    · have hil : i < ds.length := by have := HN.out; omega
      have k1 : (i : Int) < n := by omega
      have k0 : (0 : Int) ≤ i := by omega
      obtain ⟨b, off, rfl, -, hbl, hrow⟩ := (H.out.kept (same_of_below (N := All) hb.out)).cells (by omega)
      obtain ⟨f, hcf, ht⟩ := hrow i hil
      obtain ⟨e1, e2, e3, hm, hc2⟩ := ht
      have hsmk := (HSM.out ds[i] (List.getElem_mem _)).2
      have hcin := costP_in ds[i]
      have FL : Hid (fu < u + costP ds[i] → machV ns ds [] fu = ⟨0, 1, fu - u⟩) := Lib.hid (run_lack hrun.out hil)
      have FS : Hid (u + costP ds[i] ≤ fu → ds[i].op = 11 → 0 ≤ ds[i].num ∧ i + 1 + ds[i].num.toNat ≤ ds.length ∧ RunAt ds hs ns fu (i + 1 + ds[i].num.toNat) st (u + costP ds[i])) := Lib.hid (run_skip HW.out hrun.out hil)
      have FT := Lib.hid (run_test HW.out hrun.out hil)
      have FD := Lib.hid (run_do HW.out hrun.out hil)
      generalize hd : ds[i] = d at *
      obtain ⟨o, nn, s, ms⟩ := d
      obtain ⟨fo, fn, fs, ma, ml, mc⟩ := f
      dsimp only at e1 e2 e3 hm hc2 hsmk hcin FL FS FT FD
      have q1 := e1.symm
      have q2 := e2.symm
      have q3 := e3.symm
      clear e1 e2 e3
      subst q1 q2 q3
      obtain rfl := hm.1
      have hC := Lib.hid (fun W => specCost o nn s ma mc ms W hsmk)
      have hT := fun W => specTakes o W
      generalize hcv : costP ⟨o, nn, s, ms⟩ = cv at *
      have HM := Lib.hid hm
      have hWA : Below wr.heap.size wr (wr.alloc (.cells #[.int .i64 o, .int .i64 nn, .string s, .slice ma ms.length mc] 55)) := (Below.refl _ _).alloc (Nat.le_refl _) _
      have hX : (wr.alloc (.cells #[.int .i64 o, .int .i64 nn, .string s, .slice ma ms.length mc] 55)).heap[wr.heap.size]? = some (.cells #[.int .i64 o, .int .i64 nn, .string s, .slice ma ms.length mc] 55 (0, 0)) := heap_alloc_new wr _
      have HX := Lib.hid hX
      have HWA := Lib.hid hWA
      have hw1 := hb.out.size
      obtain ⟨y0, y1, y2, y3⟩ := hcf
      dsimp only at y0 y1 y2 y3
      clear hrow hm hc2 hd hbl hWA hX hcv
      go_upto_region 6 with fail
      clear y0 y1 y2 y3
      generalize (wr.alloc (.cells #[.int .i64 o, .int .i64 nn, .string s, .slice ma ms.length mc] 55)) = W1 at *
      have hbx : wr.heap.size < W1.heap.size := (Array.getElem?_eq_some_iff.1 HX.out).1
      generalize hbxe : wr.heap.size = bx at *
      have HBE := Lib.hid hbxe
      clear hbxe
      have x0 : W1.cell? ⟨bx, 0, none⟩ = some (.int .i64 o) := by rw [Lib.cell_of_heap HX.out]; rfl
      have x1 : W1.cell? ⟨bx, 1, none⟩ = some (.int .i64 nn) := by rw [Lib.cell_of_heap HX.out]; rfl
      have x2 : W1.cell? ⟨bx, 2, none⟩ = some (.string s) := by rw [Lib.cell_of_heap HX.out]; rfl
      have x3 : W1.cell? ⟨bx, 3, none⟩ = some (.slice ma ms.length mc) := by rw [Lib.cell_of_heap HX.out]; rfl
      have em : IntKind.i64.wrap (u + cv) = u + cv := IntWalk.i64_in _ (by omega)
      have em2 : IntKind.i64.wrap (u + cv - cv) = u := (IntWalk.i64_in _ (by omega)).trans (by omega)
      have em3 : IntKind.i64.wrap u = u := IntWalk.i64_in _ (by omega)
      go_wp2_with fail
      refine (hC.out _).mono ?_
      rintro e W2 ⟨rfl, d2⟩
      clear x0 x1 x2 x3
      have x0 : W2.cell? ⟨bx, 0, none⟩ = some (.int .i64 o) := by rw [Lib.cell_of_heap ((d2.block bx hbx).trans HX.out)]; rfl
      have x1 : W2.cell? ⟨bx, 1, none⟩ = some (.int .i64 nn) := by rw [Lib.cell_of_heap ((d2.block bx hbx).trans HX.out)]; rfl
      have x2 : W2.cell? ⟨bx, 2, none⟩ = some (.string s) := by rw [Lib.cell_of_heap ((d2.block bx hbx).trans HX.out)]; rfl
      have x3 : W2.cell? ⟨bx, 3, none⟩ = some (.slice ma ms.length mc) := by rw [Lib.cell_of_heap ((d2.block bx hbx).trans HX.out)]; rfl
      have HWB : Hid (Below bx wr W2) := Lib.hid (HWA.out.trans (d2.mono (Nat.le_of_lt hbx)))
      have HWB0 : Hid (Below wr.heap.size wr W2) := Lib.hid (by rw [HBE.out]; exact HWB.out)
      have HB2 : Hid (Below w.heap.size w W2) := Lib.hid (hb.out.trans (HWB.out.mono hw1))
      rcases Int.lt_or_le fu (u + cv) with hf | hf
      · have z : decide (fu < u + cv) = true := decide_eq_true hf
        have HE := FL.out hf
        rw [HMV.out] at HE
        simp only [Said.mk.injEq] at HE
        have HE := Lib.hid HE
        clear FS FT FD hT
        go_wp2_with fail
        refine (hC.out _).mono ?_
        rintro e W3 ⟨rfl, d3⟩
        go_wp2
        go_ret3
        obtain ⟨rfl, rfl, rfl⟩ := HE.out
        refine ⟨?_, HB2.out.trans (d3.mono HB2.out.size)⟩
        show Ending.returned (.tuple #[.int .i64 0, .int .i64 1, .int .i64 u]) = _
        rw [show fu - (fu - u) = u from by omega]

      have z : decide (fu < u + cv) = false := decide_eq_false (by omega)
      by_cases h11 : o = 11
      · subst h11
        obtain ⟨q0, q1, RN⟩ := FS.out hf rfl
        obtain ⟨q, rfl⟩ : ∃ q : Nat, nn = (q : Int) := ⟨nn.toNat, by omega⟩
        rw [Int.toNat_natCast] at q1 RN
        have RN := Lib.hid RN
        have ej : IntKind.i64.wrap ((i : Int) + 1 + (q : Int)) = (i : Int) + 1 + (q : Int) := IntWalk.i64_in _ (by have := HN.out; omega)
        obtain ⟨k, hk0⟩ : ∃ k : Nat, k = 0 := ⟨0, rfl⟩
        have hk : (takesV 11).1 = (k : Int) := by rw [hk0]; rfl
        clear FS FT FD FL q0
        obtain ⟨r, hr⟩ : ∃ r : Nat, m = r + k := ⟨m - k, by omega⟩
        have er : IntKind.i64.wrap ((m : Int) - (k : Int)) = (r : Int) := (IntWalk.i64_in _ (by omega)).trans (by omega)
        have hmr : m - r = k := by omega
        have rm : (r : Int) ≤ (m : Int) := by omega
        have rcn : r ≤ c := by have := HCAP.out; omega
        have rc : (r : Int) ≤ (c : Int) := by omega
        have r0 : (0 : Int) ≤ (r : Int) := by omega
        have r12 : r ≤ 12 := by omega
        have HR := Lib.hid hr
        have hwz2 : w.heap.size ≤ W2.heap.size := HB2.out.size
        have hbx2 : bx < W2.heap.size := by have := d2.size; omega
        have SRC : Hid (∀ W, Below W2.heap.size W2 W → Src W (some ⟨g, 0, none⟩) r 1 ((st.take r).map (Value.int .i64))) := Lib.hid (fun W hW => src_own ((hown.out.kept (row := none) (grown_any HWB0.out) (Or.inr (fun e => by cases e))).kept (row := none) (grown_any hW) (Or.inr (fun e => by cases e))) (by omega))
        have ONE : Hid (∀ u ∈ (st.take r).map (Value.int .i64), u.oneCell' = true) := Lib.hid (fun u hu => by obtain ⟨x, -, rfl⟩ := List.mem_map.1 hu; rfl)
        have ei : IntKind.i64.wrap ((i : Int) + 1) = (i : Int) + 1 := IntWalk.i64_in _ (by omega)
        have TL : Hid (∀ ad, k = 0 ∨ ad = some ⟨g, r, none⟩ → IntsN All wr ad k (st.drop r)) := Lib.hid (fun ad had => ints_tail hown.out hr trivial had)
        clear hr
        rw [hk] at hT
        generalize (takesV 11).2 = gv at hT
        have HKZ := Lib.hid hk0
        clear hk0 hk
        go_wp2_with fail
        refine (hT _).mono ?_
        rintro e W3 ⟨rfl, hw3⟩
        subst W3
        by_cases hcr : c = r
        · subst hcr
          have HK0 : Hid (k = 0) := Lib.hid (by have := HR.out; have := HCAP.out; omega)
          have TI := Lib.hid (fun ad => TL.out ad (.inl HK0.out))
          clear HK0 TL
          go_wp2_with (at_builtin; refine wpList_append_src ?pb1 ?pbs ?pbx 71 ?pb2 w.heap.size 3 it0 (.int .i64 0) 1 8 ?pb3 ?pb4 ?pb5 ?pb6 ?pb7 ?pb8 ?pb9 (.slice (some ⟨W2.heap.size, 0, none⟩) 0 0) 0 [] ?pb10 ?pbh1 (some ⟨g, 0, none⟩) c c ((st.take c).map (Value.int .i64)) ?pb11 ?pbsrc ?pbh3 ?pbc2 ?pbc3 ?pbc4 ?_; (case pb1 => rfl); (case pb2 => rfl); (case pb10 => rfl); (case pb11 => rfl); (case pbh1 => exact World.ownsRow_made W2 #[] 0 hwz2 (by unfold maxLen; omega) rfl); (case pbsrc => exact SRC.out _ (Below.alloc (Below.refl _ _) (Nat.le_refl _) _)); (case pb3 => exact Tryz.underlying71); (case pb4 => exact hi); (case pb5 => exact hz0); (case pb6 => exact hz1); (case pb7 => exact hz2); (case pb8 => rfl); (case pb9 => decide); (case pbh3 => exact ONE.out); (case pbc2 => unfold maxLen; omega); (case pbc3 => omega); (case pbc4 => simp only [World.size_alloc]; omega); intro v3 wz hownZ hgrowZ hatZ; obtain ⟨g3, c3, rfl, hown3⟩ := app_done hownZ hatZ; have hbz : Below W2.heap.size W2 wz := (((Below.refl _ _).alloc (Nat.le_refl _) _).grown hgrowZ (by simp only [World.size_alloc]; omega) (fun k e => by simp [Value.ownBlock] at e; omega)); have z0 := (hbz.cell (p := ⟨bx, 0, none⟩) hbx2).trans x0; have z1 := (hbz.cell (p := ⟨bx, 1, none⟩) hbx2).trans x1; have z2 := (hbz.cell (p := ⟨bx, 2, none⟩) hbx2).trans x2; have z3 := (hbz.cell (p := ⟨bx, 3, none⟩) hbx2).trans x3; have O3 := Lib.hid hown3; have HBZ := Lib.hid hbz; clear hownZ hgrowZ hatZ hown3 hbz SRC)
          have HO : Hid (wz.ownsRow w.heap.size 3 1 (.slice (some ⟨g3, 0, none⟩) c c3) c (st.map (Value.int .i64))) := by
            have e : st.take c = st := List.take_of_length_le (by have := HR.out; have := HKZ.out; have := HML.out; omega)
            have := O3.out
            rw [e] at this
            exact this
          clear O3
          go_roundw
          case rel => exact ⟨i + 1 + q, c, c3, g3, st, u + cv, by have := HN.out; omega, by go_num, rfl, rfl, by omega, hf, HO, RN, Lib.hid (HB2.out.trans (HBZ.out.mono HB2.out.size))⟩
          case measure => simp [intOf]; omega
        · have TI := Lib.hid (TL.out _ (.inr rfl))
          clear TL
          go_wp2_with (at_builtin; refine wpList_append_src ?pc1 ?pcs ?pcx 71 ?pc2 w.heap.size 3 it0 (.int .i64 0) 1 8 ?pc3 ?pc4 ?pc5 ?pc6 ?pc7 ?pc8 ?pc9 (.slice (some ⟨W2.heap.size, 0, none⟩) 0 0) 0 [] ?pc10 ?pch1 (some ⟨g, 0, none⟩) r c ((st.take r).map (Value.int .i64)) ?pc11 ?pcsrc ?pch3 ?pcc2 ?pcc3 ?pcc4 ?_; (case pc1 => rfl); (case pc2 => rfl); (case pc10 => rfl); (case pc11 => rfl); (case pch1 => exact World.ownsRow_made W2 #[] 0 hwz2 (by unfold maxLen; omega) rfl); (case pcsrc => exact SRC.out _ (Below.alloc (Below.refl _ _) (Nat.le_refl _) _)); (case pc3 => exact Tryz.underlying71); (case pc4 => exact hi); (case pc5 => exact hz0); (case pc6 => exact hz1); (case pc7 => exact hz2); (case pc8 => rfl); (case pc9 => decide); (case pch3 => exact ONE.out); (case pcc2 => unfold maxLen; omega); (case pcc3 => omega); (case pcc4 => simp only [World.size_alloc]; omega); intro v3 wz hownZ hgrowZ hatZ; obtain ⟨g3, c3, rfl, hown3⟩ := app_done hownZ hatZ; have hbz : Below W2.heap.size W2 wz := (((Below.refl _ _).alloc (Nat.le_refl _) _).grown hgrowZ (by simp only [World.size_alloc]; omega) (fun k e => by simp [Value.ownBlock] at e; omega)); have z0 := (hbz.cell (p := ⟨bx, 0, none⟩) hbx2).trans x0; have z1 := (hbz.cell (p := ⟨bx, 1, none⟩) hbx2).trans x1; have z2 := (hbz.cell (p := ⟨bx, 2, none⟩) hbx2).trans x2; have z3 := (hbz.cell (p := ⟨bx, 3, none⟩) hbx2).trans x3; have O3 := Lib.hid hown3; have HBZ := Lib.hid hbz; clear hownZ hgrowZ hatZ hown3 hbz SRC)
          have HO : Hid (wz.ownsRow w.heap.size 3 1 (.slice (some ⟨g3, 0, none⟩) r c3) r (st.map (Value.int .i64))) := by
            have e : st.take r = st := List.take_of_length_le (by have := HR.out; have := HKZ.out; have := HML.out; omega)
            have := O3.out
            rw [e] at this
            exact this
          clear O3
          go_roundw
          case rel => exact ⟨i + 1 + q, r, c3, g3, st, u + cv, by have := HN.out; omega, by go_num, rfl, rfl, by omega, hf, HO, RN, Lib.hid (HB2.out.trans (HBZ.out.mono HB2.out.size))⟩
          case measure => simp [intOf]; omega

      by_cases h9 : o = 9
      · subst h9
        obtain ⟨q0, ⟨q1, q2⟩, RL, RM⟩ := FT.out hf rfl
        obtain ⟨q, rfl⟩ : ∃ q : Nat, nn = (q : Int) := ⟨nn.toNat, by omega⟩
        rw [Int.toNat_natCast] at q2 RM
        have RL := Lib.hid RL
        have RM := Lib.hid RM
        have ej : IntKind.i64.wrap ((i : Int) + 1 + (q : Int)) = (i : Int) + 1 + (q : Int) := IntWalk.i64_in _ (by have := HN.out; omega)
        obtain ⟨k, hk0⟩ : ∃ k : Nat, k = 2 := ⟨2, rfl⟩
        have hk : (takesV 9).1 = (k : Int) := by rw [hk0]; rfl
        have hkm : k ≤ m := by have := HML.out; omega
        clear FS FT FD FL q1
        obtain ⟨r, hr⟩ : ∃ r : Nat, m = r + k := ⟨m - k, by omega⟩
        have er : IntKind.i64.wrap ((m : Int) - (k : Int)) = (r : Int) := (IntWalk.i64_in _ (by omega)).trans (by omega)
        have hmr : m - r = k := by omega
        have rm : (r : Int) ≤ (m : Int) := by omega
        have rcn : r ≤ c := by have := HCAP.out; omega
        have rc : (r : Int) ≤ (c : Int) := by omega
        have r0 : (0 : Int) ≤ (r : Int) := by omega
        have r12 : r ≤ 12 := by omega
        have HR := Lib.hid hr
        have hwz2 : w.heap.size ≤ W2.heap.size := HB2.out.size
        have hbx2 : bx < W2.heap.size := by have := d2.size; omega
        have SRC : Hid (∀ W, Below W2.heap.size W2 W → Src W (some ⟨g, 0, none⟩) r 1 ((st.take r).map (Value.int .i64))) := Lib.hid (fun W hW => src_own ((hown.out.kept (row := none) (grown_any HWB0.out) (Or.inr (fun e => by cases e))).kept (row := none) (grown_any hW) (Or.inr (fun e => by cases e))) (by omega))
        have ONE : Hid (∀ u ∈ (st.take r).map (Value.int .i64), u.oneCell' = true) := Lib.hid (fun u hu => by obtain ⟨x, -, rfl⟩ := List.mem_map.1 hu; rfl)
        have ei : IntKind.i64.wrap ((i : Int) + 1) = (i : Int) + 1 := IntWalk.i64_in _ (by omega)
        have TL : Hid (∀ ad, k = 0 ∨ ad = some ⟨g, r, none⟩ → IntsN All wr ad k (st.drop r)) := Lib.hid (fun ad had => ints_tail hown.out hr trivial had)
        clear hr
        rw [hk] at hT
        generalize (takesV 9).2 = gv at hT
        have HKZ := Lib.hid hk0
        clear hk hkm hk0
        have hre : st.length - 2 = r := by have := HML.out; have := HR.out; have := HKZ.out; omega
        rw [hre] at RL RM
        clear hre q0
        go_wp2_with fail
        refine (hT _).mono ?_
        rintro e W3 ⟨rfl, hw3⟩
        subst W3
        have hcr : ¬ c = r := by have := HR.out; have := HCAP.out; have := HKZ.out; omega
        have TI := Lib.hid (TL.out _ (.inr rfl))
        clear TL
        go_wp2_with (at_builtin; refine wpList_append_src ?pd1 ?pds ?pdx 71 ?pd2 w.heap.size 3 it0 (.int .i64 0) 1 8 ?pd3 ?pd4 ?pd5 ?pd6 ?pd7 ?pd8 ?pd9 (.slice (some ⟨W2.heap.size, 0, none⟩) 0 0) 0 [] ?pd10 ?pdh1 (some ⟨g, 0, none⟩) r c ((st.take r).map (Value.int .i64)) ?pd11 ?pdsrc ?pdh3 ?pdc2 ?pdc3 ?pdc4 ?_; (case pd1 => rfl); (case pd2 => rfl); (case pd10 => rfl); (case pd11 => rfl); (case pdh1 => exact World.ownsRow_made W2 #[] 0 hwz2 (by unfold maxLen; omega) rfl); (case pdsrc => exact SRC.out _ (Below.alloc (Below.refl _ _) (Nat.le_refl _) _)); (case pd3 => exact Tryz.underlying71); (case pd4 => exact hi); (case pd5 => exact hz0); (case pd6 => exact hz1); (case pd7 => exact hz2); (case pd8 => rfl); (case pd9 => decide); (case pdh3 => exact ONE.out); (case pdc2 => unfold maxLen; omega); (case pdc3 => omega); (case pdc4 => simp only [World.size_alloc]; omega); intro v3 wz hownZ hgrowZ hatZ; obtain ⟨g3, c3, rfl, hown3⟩ := app_done hownZ hatZ; have hbz : Below W2.heap.size W2 wz := (((Below.refl _ _).alloc (Nat.le_refl _) _).grown hgrowZ (by simp only [World.size_alloc]; omega) (fun k e => by simp [Value.ownBlock] at e; omega)); have z0 := (hbz.cell (p := ⟨bx, 0, none⟩) hbx2).trans x0; have z1 := (hbz.cell (p := ⟨bx, 1, none⟩) hbx2).trans x1; have z2 := (hbz.cell (p := ⟨bx, 2, none⟩) hbx2).trans x2; have z3 := (hbz.cell (p := ⟨bx, 3, none⟩) hbx2).trans x3; have O3 := Lib.hid hown3; have HBZ := Lib.hid hbz; clear hownZ hgrowZ hatZ hown3 hbz SRC)
        have hI := (TI.out).kept (same_of_below (N := All) (HWB0.out.trans (HBZ.out.mono HWB0.out.size)))
        obtain ⟨b3, o3, hbe, hbl3, hcs⟩ := hI.cells (by have := HKZ.out; omega)
        obtain ⟨rfl, rfl⟩ : g = b3 ∧ r = o3 := by simpa using hbe
        have v0 := hcs 0 (by have := HKZ.out; omega)
        have v1 := hcs 1 (by have := HKZ.out; omega)
        rw [Nat.add_zero] at v0
        have O4 := Lib.hid O3.out
        clear hI hcs hbe O3
        have ik : (1 : Int) < (k : Int) := by have := HKZ.out; omega
        have ik0 : (0 : Int) < (k : Int) := by omega
        generalize (st.drop r).getD 0 0 = x0' at *
        generalize (st.drop r).getD 1 0 = x1' at *
        rcases Int.lt_or_le x0' x1' with c0 | c0
        · have zz : decide (x1' ≤ x0') = false := decide_eq_false (by omega)
          have RN := Lib.hid (RL.out c0)
          go_quiet (fail)
          go_wp2
          go_roundw
          case rel => exact ⟨i + 1, r, c3, g3, st.take r, u + cv, by omega, by go_num, rfl, rfl, by omega, hf, Lib.hid (O4.out.kept (row := none) (grown_any (belowN (Below.refl _ _) nq)) (Or.inr (fun e => by cases e))), RN, Lib.hid (belowN (HB2.out.trans (HBZ.out.mono HB2.out.size)) nq)⟩
          case measure => simp [intOf]; omega
        · have zz : decide (x1' ≤ x0') = true := decide_eq_true c0
          have RN := Lib.hid (RM.out (by omega))
          go_quiet (fail)
          go_wp2
          go_roundw
          case rel => exact ⟨i + 1 + q, r, c3, g3, st.take r, u + cv, by have := HN.out; omega, by go_num, rfl, rfl, by omega, hf, Lib.hid (O4.out.kept (row := none) (grown_any (belowN (Below.refl _ _) nq)) (Or.inr (fun e => by cases e))), RN, Lib.hid (belowN (HB2.out.trans (HBZ.out.mono HB2.out.size)) nq)⟩
          case measure => simp [intOf]; omega

      have b9 : (o == 9) = false := by simpa using h9
      have b11 : (o == 11) = false := by simpa using h11
      obtain ⟨hin10, k, hk, hkn, hkm, hH, hall, FB, FG⟩ := FD.out hf h9 h11
      have hkm : k ≤ m := by have := HML.out; omega
      have HH := Lib.hid hH
      have HALL := Lib.hid hall
      have HKN := Lib.hid hkn
      have HIN10 := Lib.hid hin10
      have H9 := Lib.hid h9
      have FB := Lib.hid FB
      have FG := Lib.hid FG
      clear FS FT FD FL hH hall hkn hin10 h9 h11
      obtain ⟨r, hr⟩ : ∃ r : Nat, m = r + k := ⟨m - k, by omega⟩
      have er : IntKind.i64.wrap ((m : Int) - (k : Int)) = (r : Int) := (IntWalk.i64_in _ (by omega)).trans (by omega)
      have hmr : m - r = k := by omega
      have rm : (r : Int) ≤ (m : Int) := by omega
      have rcn : r ≤ c := by have := HCAP.out; omega
      have rc : (r : Int) ≤ (c : Int) := by omega
      have r0 : (0 : Int) ≤ (r : Int) := by omega
      have r12 : r ≤ 12 := by omega
      have HR := Lib.hid hr
      have hwz2 : w.heap.size ≤ W2.heap.size := HB2.out.size
      have hbx2 : bx < W2.heap.size := by have := d2.size; omega
      have SRC : Hid (∀ W, Below W2.heap.size W2 W → Src W (some ⟨g, 0, none⟩) r 1 ((st.take r).map (Value.int .i64))) := Lib.hid (fun W hW => src_own ((hown.out.kept (row := none) (grown_any HWB0.out) (Or.inr (fun e => by cases e))).kept (row := none) (grown_any hW) (Or.inr (fun e => by cases e))) (by omega))
      have ONE : Hid (∀ u ∈ (st.take r).map (Value.int .i64), u.oneCell' = true) := Lib.hid (fun u hu => by obtain ⟨x, -, rfl⟩ := List.mem_map.1 hu; rfl)
      have ei : IntKind.i64.wrap ((i : Int) + 1) = (i : Int) + 1 := IntWalk.i64_in _ (by omega)
      have TL : Hid (∀ ad, k = 0 ∨ ad = some ⟨g, r, none⟩ → IntsN All wr ad k (st.drop r)) := Lib.hid (fun ad had => ints_tail hown.out hr trivial had)
      clear hr
      rw [hk] at hT
      generalize (takesV o).2 = gv at hT
      have hre : st.length - k = r := by have := HML.out; have := HR.out; omega
      rw [hre] at HALL FB FG
      clear hre hk hkm
      go_wp2_with fail
      refine (hT _).mono ?_
      rintro e W3 ⟨rfl, hw3⟩
      subst W3
      by_cases hcr : c = r
      · subst hcr
        have HK0 : Hid (k = 0) := Lib.hid (by have := HR.out; have := HCAP.out; omega)
        have TI := Lib.hid (fun ad => TL.out ad (.inl HK0.out))
        clear HK0 TL
        go_wp2_with (at_builtin; refine wpList_append_src ?pe1 ?pes ?pex 71 ?pe2 w.heap.size 3 it0 (.int .i64 0) 1 8 ?pe3 ?pe4 ?pe5 ?pe6 ?pe7 ?pe8 ?pe9 (.slice (some ⟨W2.heap.size, 0, none⟩) 0 0) 0 [] ?pe10 ?peh1 (some ⟨g, 0, none⟩) c c ((st.take c).map (Value.int .i64)) ?pe11 ?pesrc ?peh3 ?pec2 ?pec3 ?pec4 ?_; (case pe1 => rfl); (case pe2 => rfl); (case pe10 => rfl); (case pe11 => rfl); (case peh1 => exact World.ownsRow_made W2 #[] 0 hwz2 (by unfold maxLen; omega) rfl); (case pesrc => exact SRC.out _ (Below.alloc (Below.refl _ _) (Nat.le_refl _) _)); (case pe3 => exact Tryz.underlying71); (case pe4 => exact hi); (case pe5 => exact hz0); (case pe6 => exact hz1); (case pe7 => exact hz2); (case pe8 => rfl); (case pe9 => decide); (case peh3 => exact ONE.out); (case pec2 => unfold maxLen; omega); (case pec3 => omega); (case pec4 => simp only [World.size_alloc]; omega); intro v3 wz hownZ hgrowZ hatZ; obtain ⟨g3, c3, rfl, hown3⟩ := app_done hownZ hatZ; have hbz : Below W2.heap.size W2 wz := (((Below.refl _ _).alloc (Nat.le_refl _) _).grown hgrowZ (by simp only [World.size_alloc]; omega) (fun k e => by simp [Value.ownBlock] at e; omega)); have z0 := (hbz.cell (p := ⟨bx, 0, none⟩) hbx2).trans x0; have z1 := (hbz.cell (p := ⟨bx, 1, none⟩) hbx2).trans x1; have z2 := (hbz.cell (p := ⟨bx, 2, none⟩) hbx2).trans x2; have z3 := (hbz.cell (p := ⟨bx, 3, none⟩) hbx2).trans x3; have O3 := Lib.hid hown3; have HBZ := Lib.hid hbz; clear hownZ hgrowZ hatZ hown3 hbz SRC)
        have hD := specDo o nn s ma mc ms ns na nl nc (some ⟨g, 0, none⟩) k 0 (st.drop c) wz H9.out HIN10.out HH.out (by rw [HKN.out, List.length_drop]; have := HML.out; have := HR.out; omega) HALL.out (((TI.out _)).kept (same_of_below (N := All) (HWB0.out.trans (HBZ.out.mono HWB0.out.size)))) (HM.out.kept (same_of_below (N := All) (HWB0.out.trans (HBZ.out.mono HWB0.out.size)))) (HP.out.kept (same_of_below (N := All) (HB2.out.trans (HBZ.out.mono HB2.out.size)))) hnl
        have hD := Lib.hid hD
        unfold SaysP at hD
        have HDO : Hid (okB 0 = true) := Lib.hid okB0
        generalize doR ns o nn s ms (st.drop c) = rr at *
        obtain ⟨rv, rcd⟩ := rr
        dsimp only at hD FB FG
        
        go_wp2_with fail
        refine hD.out.mono ?_
        rintro e W4 ⟨rfl, d4⟩
        have hb4 : Below W2.heap.size W2 W4 := HBZ.out.trans (d4.mono HBZ.out.size)
        have HB4 : Hid (Below w.heap.size w W4) := Lib.hid (HB2.out.trans (hb4.mono HB2.out.size))
        have O4 : Hid (W4.ownsRow w.heap.size 3 1 (.slice (some ⟨g3, 0, none⟩) c c3) c ((st.take c).map (Value.int .i64))) := Lib.hid (O3.out.kept (row := none) (grown_any d4) (Or.inr (fun e => by cases e)))
        have hw4 : w.heap.size ≤ W4.heap.size := HB4.out.size
        clear z0 z1 z2 z3 x0 x1 x2 x3 d4 hb4 hD
        by_cases hc0 : rcd = 0
        rotate_left
        · have zz : (rcd != 0) = true := by simpa using hc0
          have HE := FB.out hc0
          rw [HMV.out] at HE
          simp only [Said.mk.injEq] at HE
          have HE := Lib.hid HE
          clear hc0
          go_wp2
          go_ret3
          refine ⟨?_, HB4.out⟩
          obtain ⟨rfl, rfl, rfl⟩ := HE.out
          rw [show fu - (fu - (u + cv)) = u + cv from by omega]
          rfl
        subst hc0
        have RN := Lib.hid (FG.out rfl)
        go_wp2_with (at_builtin; refine wpList_append_lies ?qew ?qe1 ?qes ?qex 71 ?qe2 w.heap.size 3 it0 (.int .i64 0) 1 8 ?qe3 ?qe4 ?qe5 ?qe6 ?qe7 ?qe8 ?qe9 (.slice (some ⟨g3, 0, none⟩) c c3) c ((st.take c).map (Value.int .i64)) ?qe10 ?qeh1 ⟨W4.heap.size, 0, none⟩ 1 1 [.int .i64 rv] ?qe11 ?qe12 ?qeh2 ?qeh3 ?qec1 ?qec2 ?qec3 ?qec4 (W4.heap.size + 1) ?qec5 ?_; (case qe1 => rfl); (case qe2 => rfl); (case qe10 => rfl); (case qe11 => rfl); (case qeh1 => exact O4.out.alloc _); (case qe3 => exact Tryz.underlying71); (case qe4 => exact hi); (case qe5 => exact hz0); (case qe6 => exact hz1); (case qe7 => exact hz2); (case qe8 => rfl); (case qe9 => decide); (case qe12 => rfl); (case qeh2 => exact World.news_of_block (heap_alloc_new W4 _)); (case qeh3 => intro u hu; simp at hu; subst hu; rfl); (case qec1 => decide); (case qec2 => unfold maxLen; omega); (case qec3 => omega); (case qec4 => simp only [World.size_alloc]; omega); (case qec5 => simp only [World.size_alloc]); intro g2 cp2 wy hownY hgrowY hatY hltY)
        have hbY : Below w.heap.size w wy := (HB4.out.trans (((Below.refl _ _).alloc (Nat.le_refl _) _ : Below W4.heap.size W4 (W4.alloc (.cells #[.int .i64 rv] 3))).mono HB4.out.size)).grown hgrowY (by simp only [World.size_alloc]; omega) (fun j e => (O4.out.lt j e).1)
        have HOY : Hid (wy.ownsRow w.heap.size 3 1 (.slice (some ⟨g2, 0, none⟩) (c + 1) cp2) (c + 1) ((st.take c ++ [rv]).map (Value.int .i64))) := Lib.hid (by rw [List.map_append]; exact hownY)
        have HBY := Lib.hid hbY
        clear hownY hgrowY hatY hbY
        go_wp2_with fail
        go_roundw
        case rel => exact ⟨i + 1, c + 1, cp2, g2, st.take c ++ [rv], u + cv, by omega, by go_num, rfl, rfl, by omega, hf, HOY, RN, HBY⟩
        case measure => simp [intOf]; omega
      · have TI := Lib.hid (TL.out _ (.inr rfl))
        clear TL
        go_wp2_with (at_builtin; refine wpList_append_src ?pf1 ?pfs ?pfx 71 ?pf2 w.heap.size 3 it0 (.int .i64 0) 1 8 ?pf3 ?pf4 ?pf5 ?pf6 ?pf7 ?pf8 ?pf9 (.slice (some ⟨W2.heap.size, 0, none⟩) 0 0) 0 [] ?pf10 ?pfh1 (some ⟨g, 0, none⟩) r c ((st.take r).map (Value.int .i64)) ?pf11 ?pfsrc ?pfh3 ?pfc2 ?pfc3 ?pfc4 ?_; (case pf1 => rfl); (case pf2 => rfl); (case pf10 => rfl); (case pf11 => rfl); (case pfh1 => exact World.ownsRow_made W2 #[] 0 hwz2 (by unfold maxLen; omega) rfl); (case pfsrc => exact SRC.out _ (Below.alloc (Below.refl _ _) (Nat.le_refl _) _)); (case pf3 => exact Tryz.underlying71); (case pf4 => exact hi); (case pf5 => exact hz0); (case pf6 => exact hz1); (case pf7 => exact hz2); (case pf8 => rfl); (case pf9 => decide); (case pfh3 => exact ONE.out); (case pfc2 => unfold maxLen; omega); (case pfc3 => omega); (case pfc4 => simp only [World.size_alloc]; omega); intro v3 wz hownZ hgrowZ hatZ; obtain ⟨g3, c3, rfl, hown3⟩ := app_done hownZ hatZ; have hbz : Below W2.heap.size W2 wz := (((Below.refl _ _).alloc (Nat.le_refl _) _).grown hgrowZ (by simp only [World.size_alloc]; omega) (fun k e => by simp [Value.ownBlock] at e; omega)); have z0 := (hbz.cell (p := ⟨bx, 0, none⟩) hbx2).trans x0; have z1 := (hbz.cell (p := ⟨bx, 1, none⟩) hbx2).trans x1; have z2 := (hbz.cell (p := ⟨bx, 2, none⟩) hbx2).trans x2; have z3 := (hbz.cell (p := ⟨bx, 3, none⟩) hbx2).trans x3; have O3 := Lib.hid hown3; have HBZ := Lib.hid hbz; clear hownZ hgrowZ hatZ hown3 hbz SRC)
        have hD := specDo o nn s ma mc ms ns na nl nc (some ⟨g, r, none⟩) k (c - r) (st.drop r) wz H9.out HIN10.out HH.out (by rw [HKN.out, List.length_drop]; have := HML.out; have := HR.out; omega) HALL.out ((TI.out).kept (same_of_below (N := All) (HWB0.out.trans (HBZ.out.mono HWB0.out.size)))) (HM.out.kept (same_of_below (N := All) (HWB0.out.trans (HBZ.out.mono HWB0.out.size)))) (HP.out.kept (same_of_below (N := All) (HB2.out.trans (HBZ.out.mono HB2.out.size)))) hnl
        have hD := Lib.hid hD
        unfold SaysP at hD
        have HDO : Hid (okB 0 = true) := Lib.hid okB0
        generalize doR ns o nn s ms (st.drop r) = rr at *
        obtain ⟨rv, rcd⟩ := rr
        dsimp only at hD FB FG
        
        go_wp2_with fail
        refine hD.out.mono ?_
        rintro e W4 ⟨rfl, d4⟩
        have hb4 : Below W2.heap.size W2 W4 := HBZ.out.trans (d4.mono HBZ.out.size)
        have HB4 : Hid (Below w.heap.size w W4) := Lib.hid (HB2.out.trans (hb4.mono HB2.out.size))
        have O4 : Hid (W4.ownsRow w.heap.size 3 1 (.slice (some ⟨g3, 0, none⟩) r c3) r ((st.take r).map (Value.int .i64))) := Lib.hid (O3.out.kept (row := none) (grown_any d4) (Or.inr (fun e => by cases e)))
        have hw4 : w.heap.size ≤ W4.heap.size := HB4.out.size
        clear z0 z1 z2 z3 x0 x1 x2 x3 d4 hb4 hD
        by_cases hc0 : rcd = 0
        rotate_left
        · have zz : (rcd != 0) = true := by simpa using hc0
          have HE := FB.out hc0
          rw [HMV.out] at HE
          simp only [Said.mk.injEq] at HE
          have HE := Lib.hid HE
          clear hc0
          go_wp2
          go_ret3
          refine ⟨?_, HB4.out⟩
          obtain ⟨rfl, rfl, rfl⟩ := HE.out
          rw [show fu - (fu - (u + cv)) = u + cv from by omega]
          rfl
        subst hc0
        have RN := Lib.hid (FG.out rfl)
        go_wp2_with (at_builtin; refine wpList_append_lies ?qfw ?qf1 ?qfs ?qfx 71 ?qf2 w.heap.size 3 it0 (.int .i64 0) 1 8 ?qf3 ?qf4 ?qf5 ?qf6 ?qf7 ?qf8 ?qf9 (.slice (some ⟨g3, 0, none⟩) r c3) r ((st.take r).map (Value.int .i64)) ?qf10 ?qfh1 ⟨W4.heap.size, 0, none⟩ 1 1 [.int .i64 rv] ?qf11 ?qf12 ?qfh2 ?qfh3 ?qfc1 ?qfc2 ?qfc3 ?qfc4 (W4.heap.size + 1) ?qfc5 ?_; (case qf1 => rfl); (case qf2 => rfl); (case qf10 => rfl); (case qf11 => rfl); (case qfh1 => exact O4.out.alloc _); (case qf3 => exact Tryz.underlying71); (case qf4 => exact hi); (case qf5 => exact hz0); (case qf6 => exact hz1); (case qf7 => exact hz2); (case qf8 => rfl); (case qf9 => decide); (case qf12 => rfl); (case qfh2 => exact World.news_of_block (heap_alloc_new W4 _)); (case qfh3 => intro u hu; simp at hu; subst hu; rfl); (case qfc1 => decide); (case qfc2 => unfold maxLen; omega); (case qfc3 => omega); (case qfc4 => simp only [World.size_alloc]; omega); (case qfc5 => simp only [World.size_alloc]); intro g2 cp2 wy hownY hgrowY hatY hltY)
        have hbY : Below w.heap.size w wy := (HB4.out.trans (((Below.refl _ _).alloc (Nat.le_refl _) _ : Below W4.heap.size W4 (W4.alloc (.cells #[.int .i64 rv] 3))).mono HB4.out.size)).grown hgrowY (by simp only [World.size_alloc]; omega) (fun j e => (O4.out.lt j e).1)
        have HOY : Hid (wy.ownsRow w.heap.size 3 1 (.slice (some ⟨g2, 0, none⟩) (r + 1) cp2) (r + 1) ((st.take r ++ [rv]).map (Value.int .i64))) := Lib.hid (by rw [List.map_append]; exact hownY)
        have HBY := Lib.hid hbY
        clear hownY hgrowY hatY hbY
        go_wp2_with fail
        go_roundw
        case rel => exact ⟨i + 1, r + 1, cp2, g2, st.take r ++ [rv], u + cv, by omega, by go_num, rfl, rfl, by omega, hf, HOY, RN, HBY⟩
        case measure => simp [intOf]; omega
    · obtain rfl : i = n := by omega
      obtain ⟨hl1, HE⟩ := run_end HW.out hrun.out HN.out
      rw [HMV.out] at HE
      simp only [Said.mk.injEq] at HE
      have HE := Lib.hid HE
      have hm1 : m = 1 := by have := HML.out; omega
      subst hm1
      have x0 : wr.cell? ⟨g, 0, none⟩ = some (.int .i64 (st.getD 0 0)) := by
        rw [hown.out.cellAt 0 (by omega)]
        have h1 : 0 < st.length := by omega
        simp [h1]
      clear hl1
      generalize st.getD 0 0 = sv at *
      go_wp2
      go_ret3
      obtain ⟨rfl, rfl, rfl⟩ := HE.out
      refine ⟨?_, hb.out⟩
      rw [show fu - (fu - u) = u from by omega]
      rfl
end Go.Proofs.YtjphjnopdlfplaaGreatDoor
