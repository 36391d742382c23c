/-
  A program of one's own is marked, and held against its marks: the laws' own helpers walked.
-/
import Derived.Test.YtembapomapcdfaaDoorCodeMark
import Derived.Lib.QuietBelow
namespace Go.Proofs.YtembapomapcdfaaDoor
open Go.RowKit
set_option linter.unusedVariables false
set_option linter.unusedSimpArgs false

/-- A program of which one place is looked at. -/
def AtF (B : Nat) (w : World) (g n c : Nat) (D : List Pl) (fs : List FI) (i : Nat) (d : Pl) (f : FI) : Prop := CodeF B w (.slice (some ⟨g, 0, none⟩) n c) (D.set i d) (fs.set i f) ∧ n = D.length ∧ i < n
theorem AtF.lens {B : Nat} {w : World} {g n c i : Nat} {D : List Pl} {fs : List FI} {d : Pl} {f : FI} (h : AtF B w g n c D fs i d f) : i < D.length ∧ i < fs.length := by
  have := allO_len h.1.2.1
  rw [List.length_set, List.length_set] at this
  have := h.2.1
  have := h.2.2
  omega
theorem AtF.pl {B : Nat} {w : World} {g n c i : Nat} {D : List Pl} {fs : List FI} {d : Pl} {f : FI} (h : AtF B w g n c D fs i d f) : PlO B w d f := by
  obtain ⟨l1, l2⟩ := h.lens
  have := allO_get h.1.2.1 i (by rw [List.length_set]; exact l1) (by rw [List.length_set]; exact l2)
  rwa [List.getElem_set_self, List.getElem_set_self] at this
theorem AtF.cell {B : Nat} {w : World} {g n c i : Nat} {D : List Pl} {fs : List FI} {d : Pl} {f : FI} (h : AtF B w g n c D fs i d f) (cc : Nat) (hc : cc < 4) : w.cell? ⟨g, i * 4 + cc, none⟩ = (cells4 f)[cc]? ∧ w.frozen? ⟨g, i * 4 + cc, none⟩ = false := by
  obtain ⟨l1, l2⟩ := h.lens
  have h1 := h.1.1
  rw [List.length_set, ← h.2.1] at h1
  have r := rowsI_get (fs.set i f) i cc (by rw [List.length_set]; exact l2) hc
  rw [List.getElem_set_self] at r
  exact ⟨(h1.cellAt (i * 4 + cc) (by have := h.2.2; omega)).trans r, h1.frozenAt _⟩
theorem AtF.upd {B : Nat} {w : World} {g n c i : Nat} {D : List Pl} {fs : List FI} {d d' : Pl} {f f' : FI} (h : AtF B w g n c D fs i d f) {c0 : Nat} {u : Value} (hc : c0 < 4) (he : (cells4 f).set c0 u = cells4 f') (hp : PlO B w d' f') (hm : MkV f' = MkV f) :
    AtF B (w.setCell ⟨g, i * 4 + c0, none⟩ u) g n c D fs i d' f' ∧ w.grownBy (w.setCell ⟨g, i * 4 + c0, none⟩ u) (some g) := by
  obtain ⟨l1, l2⟩ := h.lens
  have k := h.1.setF (i := i) (c0 := c0) (u := u) (d' := d') (f' := f') (by rw [List.length_set]; exact h.2.1) (by rw [List.length_set]; exact l2) hc (by rw [List.getElem_set_self]; exact he) hp (by rw [List.getElem_set_self]; exact hm)
  rw [List.set_set, List.set_set] at k
  exact ⟨⟨k.1, h.2⟩, k.2⟩
theorem AtF.below {B : Nat} {w w' : World} {g n c i : Nat} {D : List Pl} {fs : List FI} {d : Pl} {f : FI} (h : AtF B w g n c D fs i d f) (hb : Below w.heap.size w w') : AtF B w' g n c D fs i d f := ⟨h.1.below hb, h.2⟩
theorem AtF.mark {B : Nat} {w w' : World} {g n c i : Nat} {D : List Pl} {fs : List FI} {d : Pl} {f : FI} (h : AtF B w g n c D fs i d f) {ms' : List (Int × Int)} (hl : ms'.length = d.ms.length)
    (hown : w'.ownsRow B tK 2 (MkV f) f.ml (rowsM ms')) (hg : w.grownBy w' (MkV f).ownBlock) : AtF B w' g n c D fs i ⟨d.op, d.num, d.nm, ms'⟩ f := by
  obtain ⟨l1, l2⟩ := h.lens
  have k := h.1.setM (i := i) (by rw [List.length_set]; exact l2) (by rw [List.length_set]; exact l1) (ms' := ms') (by rw [List.getElem_set_self]; exact hl) (by rw [List.getElem_set_self]; exact hown) (by rw [List.getElem_set_self]; exact hg)
  rw [List.getElem_set_self, List.set_set] at k
  exact ⟨k, h.2⟩
theorem AtF.start {B : Nat} {w : World} {g n c i : Nat} {D : List Pl} {fs : List FI} (h : CodeF B w (.slice (some ⟨g, 0, none⟩) n c) D fs) (hn : n = D.length) (hi : i < D.length) (hf : i < fs.length) : AtF B w g n c D fs i D[i] fs[i] := by
  refine ⟨?_, hn, by omega⟩
  rw [List.set_getElem_self, List.set_getElem_self]
  exact h
def MarkIP (B : Nat) (a : Option Addr) (n c k0 : Nat) (ds : List Pl) (w : World) (e : Ending) (w' : World) : Prop := e = .returned (.int .i64 ((k0 + cntL ds : Nat) : Int)) ∧ CodeO B w' (.slice a n c) (mkPls k0 ds) ∧ Below B w w'
theorem cnt_take {ds : List Pl} (i : Nat) : cntL (ds.take i) ≤ cntL ds := by
  induction ds generalizing i with
  | nil => simp
  | cons d r ih =>
    cases i with
    | zero => simp [cntL]
    | succ i => have := ih i; simp only [List.take_succ_cons, cntL, List.map_cons, List.sum_cons] at this ⊢; omega
theorem cnt_step {ds : List Pl} {i : Nat} (h : i < ds.length) : cntL (ds.take (i + 1)) = cntL (ds.take i) + (3 + 2 * ds[i].ms.length) := by
  rw [List.take_succ_eq_append_getElem h, cntL_snoc]; rfl
set_option maxRecDepth 20000 in
set_option maxHeartbeats 16000000 in
theorem markIns (B : Nat) (a : Option Addr) (n c k0 : Nat) (ds : List Pl) (w : World) (h : CodeO B w (.slice a n c) ds) (hn : n = ds.length) (hl : n ≤ 1048576) (hk : 1 ≤ k0) (hb0 : k0 + cntL ds ≤ 100000000) (hms : ∀ d ∈ ds, d.ms.length ≤ 1048576) :
    Calls Tryd.prog 23 #[.slice a n c, .int .i64 (k0 : Int)] w (MarkIP B a n c k0 ds w) := by
  have H := Lib.hid h
  have HN := Lib.hid hn
  have HMS := Lib.hid hms
  clear h hn hms
  rcases Nat.eq_zero_or_pos n with h0 | h0
  · have hds : ds = [] := List.eq_nil_of_length_eq_zero (by rw [← HN.out]; exact h0)
    have HP : Hid (CodeO B w (.slice a n c) (mkPls k0 ds) ∧ k0 + cntL ds = k0) := by
      have := H.out
      rw [hds] at this ⊢
      exact ⟨this, rfl⟩
    unfold MarkIP
    have e2 : Hid (((k0 + cntL ds : Nat) : Int) = (k0 : Int)) := by refine Lib.hid ?_; rw [HP.out.2]
    rw [e2.out]
    subst h0
    go_enter Tryd.func23, Tryd.ntmps23
    go_wp2_with fail
    go_loopw [5, 1] (fun vi vk wr => vi = .int .i64 0 ∧ vk = .int .i64 (k0 : Int) ∧ w = wr) (fun _ _ _ => 0)
    case atStart => exact ⟨rfl, rfl, rfl⟩
    case round =>
      obtain ⟨rfl, rfl, rfl⟩ := hrel
      go_wp2
      go_ret
      exact ⟨rfl, HP.out.1, Below.refl _ _⟩
  obtain ⟨FS0, hF0⟩ := H.out
  obtain ⟨g, cp, e1, hbg, hglt⟩ := hF0.1.form (by have := HN.out; omega)
  injection e1 with e1 elen e3
  clear elen
  subst e1 e3
  have HF0 := Lib.hid hF0
  have hB : B ≤ w.heap.size := by omega
  clear hF0
  go_enter Tryd.func23, Tryd.ntmps23
  go_wp2_with fail
  go_loopw [5, 1] (fun vi vk wr => ∃ (i kk : Nat) (fs : List FI), i ≤ n ∧ vi = .int .i64 i ∧ vk = .int .i64 (kk : Int) ∧ Hid (kk = k0 + cntL (ds.take i)) ∧ Hid (CodeF B wr (.slice (some ⟨g, 0, none⟩) n c) (mkPls k0 (ds.take i) ++ ds.drop i) fs) ∧ Below B w wr) (fun vi _ _ => n - (intOf vi).toNat)
  case atStart => exact ⟨0, k0, FS0, Nat.zero_le _, rfl, rfl, by simp [Hid, cntL], by simpa [Hid, mkPls] using HF0.out, Below.refl _ _⟩
  case round =>
    obtain ⟨i, kk, fs, hi, rfl, rfl, hkk, hF, hb⟩ := hrel
    have HB := Lib.hid hb
    have hszr := hb.size
    clear hb
    rcases Nat.lt_or_ge i n with hlt | hge
    · have hil : i < ds.length := by have := HN.out; omega
      have k1 : (i : Int) < n := by omega
      have k00 : (0 : Int) ≤ i := by omega
      have hkb : kk ≤ 100000000 := by have := hkk.out; have := cnt_take (ds := ds) i; omega
      have HSET := Lib.hid (mkPls_set k0 hil)
      have hDL : (mkPls k0 (ds.take i) ++ ds.drop i).length = n := by rw [List.length_append, mkPls_len, List.length_take, List.length_drop]; have := HN.out; omega
      have HGET : Hid (∀ h2, (mkPls k0 (ds.take i) ++ ds.drop i)[i]'h2 = ds[i]) := fun h2 => mkPls_get k0 hil h2
      have HST := Lib.hid (cnt_step hil)
      have hm1 := HMS.out ds[i] (List.getElem_mem _)
      have hkb3 : kk + 3 ≤ 100000000 := by have h1 := HST.out; have h2 := cnt_take (ds := ds) (i + 1); have h3 := hkk.out; omega
      have HKK : Hid (k0 + cntL (ds.take i) = kk) := hkk.out.symm
      rw [HKK.out] at HSET
      generalize mkPls k0 (ds.take i) ++ ds.drop i = D at *
      have hid : i < D.length := by omega
      have hif : i < fs.length := by rw [allO_len hF.out.2.1]; exact hid
      have A0 := AtF.start hF.out hDL.symm hid hif
      have HDI : Hid (D[i] = ds[i]) := HGET.out hid
      rw [HDI.out] at A0
      generalize ds[i] = d at *
      generalize fs[i] = f at *
      obtain ⟨o, nn, s, ms⟩ := d
      obtain ⟨o0, ho0⟩ : ∃ o0, o = o0 := ⟨_, rfl⟩
      obtain ⟨n0, hn0⟩ : ∃ n0, nn = n0 := ⟨_, rfl⟩
      obtain ⟨s0, hs0⟩ : ∃ s0, s = s0 := ⟨_, rfl⟩
      have HSETX : Hid (D.set i (mkPl kk ⟨o0, n0, s0, ms⟩) = mkPls k0 (ds.take (i + 1)) ++ ds.drop (i + 1)) := by rw [← ho0, ← hn0, ← hs0]; exact HSET
      clear ho0 hn0 hs0 HSET
      have HSET := HSETX
      clear HSETX
      obtain ⟨fo, fn, fs', ma, ml, mc⟩ := f
      have P0 := A0.pl
      obtain ⟨p1, p2, p3, p4, p5⟩ := P0
      dsimp only at p1 p2 p3 p4 p5 hm1
      subst p1 p2 p3
      have P5 := Lib.hid p5
      have P4 := Lib.hid p4
      have q0 := A0.cell 0 (by omega)
      have A1 := A0.upd (c0 := 0) (u := .int .i64 (kk : Int)) (d' := ⟨(kk : Int), fn, fs', ms⟩) (f' := ⟨(kk : Int), fn, fs', ma, ml, mc⟩) (by omega) rfl ⟨rfl, rfl, rfl, p4, p5⟩ rfl
      have q1 := A1.1.cell 1 (by omega)
      have A2 := A1.1.upd (c0 := 1) (u := .int .i64 ((kk : Int) + 1)) (d' := ⟨(kk : Int), (kk : Int) + 1, fs', ms⟩) (f' := ⟨(kk : Int), (kk : Int) + 1, fs', ma, ml, mc⟩) (by omega) rfl ⟨rfl, rfl, rfl, p4, A1.1.pl.2.2.2.2⟩ rfl
      rw [Nat.add_zero] at q0 A1 A2 q1
      have G2 := Lib.hid (grown_trans A1.2 A2.2)
      have HA2 := Lib.hid A2.1
      obtain ⟨q0, f0⟩ := q0
      obtain ⟨q1, f1⟩ := q1
      simp only [cells4, List.getElem?_cons_zero, List.getElem?_cons_succ] at q0 q1
      clear A0 A1 A2 p4 p5 hF HGET
      have hkp : (1 : Int) ≤ (kk : Int) := by have := hkk.out; omega
      have hT := Lib.hid (fun W => markTextS (kk + 2) W (by omega) (by omega))
      rw [show (((kk + 2 : Nat)) : Int) = (kk : Int) + 1 + 1 by omega] at hT
      obtain ⟨mt, HMT⟩ : ∃ mt, Hid (mt = mkS (kk + 2)) := ⟨_, rfl⟩
      rw [← HMT.out] at hT
      have hkub : (kk : Int) ≤ 100000000 := by omega
      have hBw := hszr
      generalize hW2 : ((wr.setCell ⟨g, i * 4, none⟩ (.int .i64 (kk : Int))).setCell ⟨g, i * 4 + 1, none⟩ (.int .i64 ((kk : Int) + 1))) = W2 at G2 HA2
      go_wp2_with fail
      clear hW2 q0 f0 q1 f1
      refine (hT.out W2).mono ?_
      rintro e W3 ⟨rfl, d3⟩
      have B2 := grown_below (B := B) G2.out (Nat.le_trans hB hszr) (fun x e => by cases e; exact hbg)
      have B3 := Lib.hid ((HB.out.trans B2).trans (d3.mono (Nat.le_trans hB (HB.out.trans B2).size)))
      have A3 := HA2.out.below d3
      have q2 := A3.cell 2 (by omega)
      have A4 := A3.upd (c0 := 2) (u := .string (mt)) (d' := ⟨(kk : Int), (kk : Int) + 1, mt, ms⟩) (f' := ⟨(kk : Int), (kk : Int) + 1, mt, ma, ml, mc⟩) (by omega) rfl ⟨rfl, rfl, rfl, P4.out, A3.pl.2.2.2.2⟩ rfl
      have q3 := A4.1.cell 3 (by omega)
      obtain ⟨q2, f2⟩ := q2
      obtain ⟨q3, -⟩ := q3
      simp only [cells4, List.getElem?_cons_zero, List.getElem?_cons_succ] at q2 q3
      have HA4 := Lib.hid A4.1
      have B4 := Lib.hid (B3.out.trans (grown_below (B := B) A4.2 (Nat.le_trans hB B3.out.size) (fun x e => by cases e; exact hbg)))
      clear d3 A3 A4 B2 HA2 G2
      have hM := Lib.hid (markMs B ma ml mc ms (kk + 3) _ HA4.out.pl.2.2.2.2 P4.out (by rw [P4.out]; exact hm1) (by omega))
      rw [show (((kk + 3 : Nat)) : Int) = (kk : Int) + 1 + 1 + 1 by omega] at hM
      have hml : ml ≤ 1048576 := by have := P4.out; omega
      generalize hW4 : (W3.setCell ⟨g, i * 4 + 2, none⟩ (.string mt)) = W4 at HA4 B4 hM q3
      go_wp2_with fail
      clear hW4 q2 f2
      refine hM.out.mono ?_
      rintro e W5 ⟨rfl, hO5, g5⟩
      have e5 : Hid ((((kk + 3 + 2 * ml : Nat)) : Int) = (((kk + (3 + 2 * ms.length) : Nat)) : Int)) := by refine Lib.hid ?_; have := P4.out; omega
      have A5 := HA4.out.mark (ms' := mkMs (kk + 3) ml) (by rw [mkMs_len]; exact P4.out) hO5 g5
      have hpl : Hid ((⟨(kk : Int), (kk : Int) + 1, mt, mkMs (kk + 3) ml⟩ : Pl) = mkPl kk ⟨o0, n0, s0, ms⟩) := by refine Lib.hid ?_; rw [HMT.out, P4.out]; rfl
      have B5 := Lib.hid (B4.out.trans (grown_below (B := B) g5 (Nat.le_trans hB B4.out.size) (fun x e => (HA4.out.pl.2.2.2.2.lt x e).1)))
      have HF5 : Hid (CodeF B W5 (.slice (some ⟨g, 0, none⟩) n c) (mkPls k0 (ds.take (i + 1)) ++ ds.drop (i + 1)) (fs.set i ⟨(kk : Int), (kk : Int) + 1, mt, ma, ml, mc⟩)) := by
        refine Lib.hid ?_
        have h := A5.1
        dsimp only at h
        rw [hpl.out, HSET.out] at h
        exact h
      have HK5 : Hid (kk + (3 + 2 * ms.length) = k0 + cntL (ds.take (i + 1))) := by refine Lib.hid ?_; have h1 := HST.out; have h2 := HKK.out; omega
      rw [e5.out]
      generalize kk + (3 + 2 * ms.length) = k9 at *
      clear hO5 g5 A5 q3 hM
      go_wp2_with fail
      go_roundw
      case rel => exact ⟨i + 1, k9, _, by omega, by go_num, rfl, HK5, HF5, B5.out⟩
      case measure => simp [intOf]; omega
    · obtain rfl : i = n := by omega
      have HP : Hid (kk = k0 + cntL ds ∧ CodeF B wr (.slice (some ⟨g, 0, none⟩) i c) (mkPls k0 ds) fs) := by
        have h1 := hkk.out
        have h2 := hF.out
        rw [List.take_of_length_le (by have := HN.out; omega)] at h1 h2
        rw [List.drop_of_length_le (by have := HN.out; omega), List.append_nil] at h2
        exact ⟨h1, h2⟩
      clear hF hkk
      go_wp2
      go_ret
      exact ⟨by have h := HP.out.1; subst h; rfl, ⟨fs, HP.out.2⟩, HB.out⟩
set_option maxHeartbeats 8000000 in
theorem heldMs (a : Option Addr) (n c k : Nat) (w : World) (h : MarksN All w a n (mkMs k n)) (hl : n ≤ 1048576) (hk : k ≤ 100000000) :
    Calls Tryd.prog 51 #[.slice a n c, .int .i64 (k : Int)] w fun e w' => e = .returned (.int .i64 ((k + 2 * n : Nat) : Int)) ∧ w = w' := by
  have H := Lib.hid h
  clear h
  go_enter Tryd.func51, Tryd.ntmps51
  go_wp2_with fail
  go_loop [5, 1] (fun vi vk => ∃ i x : Nat, i ≤ n ∧ vi = .int .i64 i ∧ vk = .int .i64 (x : Int) ∧ Hid (x = k + 2 * i)) (fun vi _ => n - (intOf vi).toNat)
  case atStart => exact ⟨0, k, Nat.zero_le _, rfl, rfl, rfl⟩
  case round =>
    obtain ⟨i, x, hi, rfl, rfl, hx⟩ := hrel
    rcases Nat.lt_or_ge i n with hlt | hge
    · have k1 : (i : Int) < n := by omega
      have k0 : (0 : Int) ≤ i := by omega
      have hxb : (x : Int) ≤ 200000000 := by have := hx.out; omega
      have hx0 : (0 : Int) ≤ (x : Int) := by omega
      obtain ⟨-, hm⟩ := H.out
      rcases hm with h0 | ⟨b, off, rfl, -, -, hc⟩
      · omega
      obtain ⟨q0, q1⟩ := hc i hlt
      have eg : (mkMs k n).getD i (0, 0) = (((k + 2 * i : Nat) : Int), ((k + 2 * i + 1 : Nat) : Int)) := by simp [mkMs, List.getD_eq_getElem?_getD, hlt]
      rw [eg, ← hx.out] at q0 q1
      dsimp only at q0 q1
      rw [show ((x + 1 : Nat) : Int) = (x : Int) + 1 by omega] at q1
      have HX : Hid (x + 1 + 1 = k + 2 * (i + 1)) := by refine Lib.hid ?_; have := hx.out; omega
      clear hc eg
      go_wp2
      go_round
      case rel => exact ⟨i + 1, x + 1 + 1, by omega, by go_num, by go_num, HX⟩
      case measure => simp [intOf]; omega
    · obtain rfl : i = n := by omega
      have HX := hx.out
      subst HX
      go_wp2
      go_ret
      exact ⟨rfl, rfl⟩
set_option maxRecDepth 20000 in
set_option maxHeartbeats 16000000 in
theorem heldIns (a : Option Addr) (n c k0 : Nat) (ds : List Pl) (w : World) (h : PlsN All w a n (mkPls k0 ds)) (hl : n ≤ 1048576) (hk : 1 ≤ k0) (hb0 : k0 + cntL ds ≤ 100000000) (hms : ∀ d ∈ ds, d.ms.length ≤ 1048576) :
    Calls Tryd.prog 24 #[.slice a n c, .int .i64 (k0 : Int)] w fun e w' => e = .returned (.int .i64 ((k0 + cntL ds : Nat) : Int)) ∧ Below w.heap.size w w' := by
  have H := Lib.hid h
  have HN : Hid (n = ds.length) := by have := h.1; rw [mkPls_len] at this; exact this
  have HMS := Lib.hid hms
  clear h hms
  go_enter Tryd.func24, Tryd.ntmps24
  go_wp2_with fail
  go_loopw [5, 1] (fun vi vk wr => ∃ i kk : Nat, i ≤ n ∧ vi = .int .i64 i ∧ vk = .int .i64 (kk : Int) ∧ Hid (kk = k0 + cntL (ds.take i)) ∧ Below w.heap.size w wr) (fun vi _ _ => n - (intOf vi).toNat)
  case atStart => exact ⟨0, k0, Nat.zero_le _, rfl, rfl, by simp [Hid, cntL], Below.refl _ _⟩
  case round =>
    obtain ⟨i, kk, hi, rfl, rfl, hkk, hb⟩ := hrel
    have HB := Lib.hid hb
    clear hb
    rcases Nat.lt_or_ge i n with hlt | hge
    · have hil : i < ds.length := by have := HN.out; omega
      have k1 : (i : Int) < n := by omega
      have k00 : (0 : Int) ≤ i := by omega
      have HST := Lib.hid (cnt_step hil)
      have hm1 := HMS.out ds[i] (List.getElem_mem _)
      have hkb3 : kk + 3 ≤ 100000000 := by have h1 := HST.out; have h2 := cnt_take (ds := ds) (i + 1); have h3 := hkk.out; omega
      obtain ⟨b, off, rfl, -, hbl, hrow⟩ := (H.out.kept (same_of_below (N := All) HB.out)).cells (by omega)
      obtain ⟨f, ⟨y0, y1, y2, y3⟩, ht⟩ := hrow i (by rw [mkPls_len]; exact hil)
      rw [mkPls_at ds k0 i hil, ← hkk.out] at ht
      obtain ⟨e1, e2, e3, hm, hc2⟩ := ht
      obtain ⟨fo, fn, fs, ma, ml, mc⟩ := f
      dsimp only [mkPl] at e1 e2 e3 hm hc2 y0 y1 y2 y3
      rw [e1] at y0
      rw [e2, show ((kk + 1 : Nat) : Int) = (kk : Int) + 1 by omega] at y1
      rw [e3] at y2
      have hml : ml = ds[i].ms.length := by have := hm.1; rw [mkMs_len] at this; exact this
      have HML := Lib.hid hml
      have hM0 : MarksN All wr ma ml (mkMs (kk + 3) ml) := by rw [hml] at hm ⊢; exact hm
      have HM := Lib.hid hM0
      have hml2 : ml ≤ 1048576 := by omega
      have HK5 : Hid (kk + 3 + 2 * ml = k0 + cntL (ds.take (i + 1))) := by refine Lib.hid ?_; have h1 := HST.out; have h2 := hkk.out; have := HML.out; omega
      have cT : ∀ dd os, Calls Tryd.prog 50 #[.int .i64 ((kk : Int) + 1 + 1)] (Go.Sort.grow (redrawn wr dd) os) fun e w'' => e = .returned (.string (mkS (kk + 2))) ∧ ∃ p : Regrown, w'' = Go.Sort.grow (redrawn wr p.d) p.os := fun dd os => Calls.regrown_of (by have := markTextS (kk + 2) (Go.Sort.grow (redrawn wr dd) os) (by omega) (by omega); rw [show (((kk + 2 : Nat)) : Int) = (kk : Int) + 1 + 1 by omega] at this; exact this)
      have g3 : ((mkS (kk + 2)).toList != (mkS (kk + 2)).toList) = false := by simp
      generalize mkS (kk + 2) = mt at *
      have r2 := cell_regrown y2
      have y3' := Lib.hid y3
      have hkp : (0 : Int) ≤ (kk : Int) := by omega
      have hkub : (kk : Int) ≤ 100000000 := by omega
      clear hrow hbl hm hc2 e1 e2 e3 hml hM0 hm1 y2 y3
      go_wp2_with fail
      refine wp_region_quiet_below (by kernel_rfl) (by kernel_rfl) ?_
      repeat (quiet_step (exact cT _ _))
      refine wpQuiet_nil ?_
      intro _ hw'
      obtain ⟨⟨dq, osq⟩, hw''⟩ := hw'
      subst hw''
      have HB2 := Lib.hid (HB.out.trans ((below_regrown wr dq osq).mono HB.out.size))
      have y3 := cell_regrown y3'.out dq osq
      have hM := Lib.hid (heldMs ma ml mc (kk + 3) (Go.Sort.grow (redrawn wr dq) osq) (HM.out.kept (same_of_below (below_regrown wr dq osq))) hml2 (by omega))
      rw [show (((kk + 3 : Nat)) : Int) = (kk : Int) + 1 + 1 + 1 by omega] at hM
      clear cT r2 y0 y1
      generalize Go.Sort.grow (redrawn wr dq) osq = W3 at *
      go_wp2_with fail
      refine hM.out.mono ?_
      rintro e W4 ⟨rfl, rfl⟩
      generalize kk + 3 + 2 * ml = k9 at *
      have k90 : decide ((k9 : Int) < 0) = false := decide_eq_false (by omega)
      clear y3 hM
      go_wp2_with fail
      go_roundw
      case rel => exact ⟨i + 1, k9, by omega, by go_num, rfl, HK5, HB2.out⟩
      case measure => simp [intOf]; omega
    · obtain rfl : i = n := by omega
      have HP : Hid (kk = k0 + cntL ds) := by
        have h1 := hkk.out
        rw [List.take_of_length_le (by have := HN.out; omega)] at h1
        exact h1
      clear hkk
      go_wp2
      go_ret
      exact ⟨by have h := HP.out; subst h; rfl, HB.out⟩
end Go.Proofs.YtembapomapcdfaaDoor
