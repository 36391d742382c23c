/-
  A drawn program is changed (l14BentCode).
-/
import Derived.Test.YtjhgmmcglonokaaGreatDoorDrawCode
import Derived.Test.YtjhgmmcglonokaaGreatDoorAppSrc
import Derived.Test.YtjhgmmcglonokaaGreatDoorJ48
namespace Go.Proofs.YtjhgmmcglonokaaGreatDoor
open Go.RowKit
set_option linter.unusedVariables false
set_option linter.unusedSimpArgs false

structure TQ (p : Nat) (M : World → Prop) (S : Nat → Value → Prop) (R : Value → World → Prop) (L : Nat → Bool) (f : Nat → Value) (W : World) : Prop where
  inv : L p = false → M W
  pre : ∀ i, i < p → L i = true → S i (f i)
  call : L p = true → R (f p) W
  fin : L (p + 1) = true → f (p + 1) = f p
section
variable {p : Nat} {M : World → Prop} {S : Nat → Value → Prop} {R : Value → World → Prop} {L : Nat → Bool} {f : Nat → Value} {W W' : World}
theorem TQ.pre_op (h : TQ p M S R L f W) {i : Nat} {v : Value} (hi : i < p) (hv : S i v) : TQ p M S R (upd L i true) (upd f i v) W := by
  have u : ∀ {α : Type} (g : Nat → α) (x : α) (j : Nat), p ≤ j → upd g i x j = g j := fun g x j hj => upd_ne g x (by omega)
  refine ⟨?_, fun j hj hL => ?_, ?_, ?_⟩
  · rw [u _ _ _ (Nat.le_refl _)]; exact h.inv
  · by_cases e : j = i
    · subst e; rw [upd_self]; exact hv
    · rw [upd_ne _ _ e] at hL ⊢; exact h.pre j hj hL
  · rw [u _ _ _ (Nat.le_refl _), u _ _ _ (Nat.le_refl _)]; exact h.call
  · rw [u _ _ _ (by omega), u _ _ _ (by omega), u _ _ _ (Nat.le_refl _)]; exact h.fin
theorem TQ.call_op (h : TQ p M S R L f W) {v : Value} (h1 : L (p + 1) = false) (hR : R v W') : TQ p M S R (upd L p true) (upd f p v) W' := by
  refine ⟨fun a => (by rw [upd_self] at a; cases a), fun j hj hL => ?_, fun _ => (by rw [upd_self]; exact hR), ?_⟩
  · rw [upd_ne _ _ (by omega)] at hL ⊢; exact h.pre j hj hL
  · rw [upd_ne _ _ (by omega), h1]; exact fun a => by cases a
theorem TQ.fin_op (h : TQ p M S R L f W) (hp : L p = true) {v : Value} (hv : v = f p) : TQ p M S R (upd L (p + 1) true) (upd f (p + 1) v) W := by
  refine ⟨fun a => (by rw [upd_ne _ _ (by omega), hp] at a; cases a), fun j hj hL => ?_, fun _ => (by rw [upd_ne _ _ (by omega)]; exact h.call hp), fun _ => (by rw [upd_self, upd_ne _ _ (by omega)]; exact hv)⟩
  rw [upd_ne _ _ (by omega)] at hL ⊢; exact h.pre j hj hL
end
theorem CodeRow.below {B : Nat} {w w' : World} {v : Value} {ds : List Pl} {fs : List FI} (h : CodeRow B w v ds fs) (hb : Below w.heap.size w w') : CodeRow B w' v ds fs := h.grown (row := none) (below_grownM hb) (fun _ e => by cases e)
theorem src_code {B : Nat} {w : World} {a : Option Addr} {n c : Nat} {ds : List Pl} {fs : List FI} (h : CodeRow B w (.slice a n c) ds fs) (hn : n = ds.length) : Src w a n 4 (rowsI fs) := by
  refine ⟨by rw [rowsI_len, allO_len h.2, hn], fun h0 => ?_⟩
  obtain ⟨g, rfl, -⟩ := h.addr (by omega)
  exact ⟨_, rfl, owns_news (h.row hn)⟩
theorem src_part {B : Nat} {w : World} {g n c j : Nat} {ds : List Pl} {fs : List FI} (h : CodeRow B w (.slice (some ⟨g, 0, none⟩) n c) ds fs) (hn : n = ds.length) (hj : j ≤ n) (ad : Option Addr) (had : 0 < n - j → ad = some ⟨g, j * 4, none⟩) : Src w ad (n - j) 4 (rowsI (fs.drop j)) := by
  have hl := allO_len h.2
  refine ⟨by rw [rowsI_len, List.length_drop]; omega, fun h0 => ⟨_, had h0, fun i u hi => ?_⟩⟩
  have := owns_news (h.row hn) (j * 4 + i) u (by rw [rowsI_drop, List.getElem?_drop] at hi; exact hi)
  rw [addA, Nat.zero_add] at this
  rw [addA]; exact this
theorem app_four {wz : World} {base r x y : Nat} {v : Value} {l : List Value} (h : wz.ownsRow base tI 4 v (0 + r) ([] ++ l)) (hat : v.ownBlock = (Value.slice (some ⟨x, 0, none⟩) 0 0).ownBlock ∨ v.ownBlock = some y) : ∃ g c, v = .slice (some ⟨g, 0, none⟩) r c ∧ wz.ownsRow base tI 4 (.slice (some ⟨g, 0, none⟩) r c) r l := by
  rw [Nat.zero_add, List.nil_append] at h
  obtain ⟨g, c, rfl⟩ := own_formV h (by rcases hat with e | e <;> (rw [e]; simp [Value.ownBlock]))
  exact ⟨g, c, rfl, h⟩
def BentP (b p B : Nat) (w : World) (e : Ending) (w' : World) : Prop := ∃ (a : Option Addr) (n c : Nat) (ds : List Pl) (p' : Nat), e = .returned (.slice a n c) ∧ n = ds.length ∧ CodeW B w' (.slice a n c) ds ∧ SmW ds 101 ∧ Rd b w' b p' ∧ p' ≤ p + 4 ∧ w.grownBy w' (some b)
theorem SmW.up {ds : List Pl} (h : SmW ds 100) : SmW ds 101 := ⟨by have := h.1; omega, h.2⟩
theorem cap_row {w : World} {base sz n c : Nat} {e : TypeId} {g : Nat} {l : List Value} (h : w.ownsRow base e sz (.slice (some ⟨g, 0, none⟩) n c) n l) : n ≤ c := by
  rcases h.2 with ⟨e, -⟩ | ⟨_, cap, _, hv, _, _, k3, _⟩
  · cases e
  · obtain ⟨-, rfl⟩ : g = _ ∧ c = cap := by simpa using hv
    exact k3
theorem owns_none4 {w w' : World} {base n : Nat} {e : TypeId} {a : Option Addr} {m c : Nat} {l : List Value} (h : w.ownsRow base e 4 (.slice a m c) n l) (hb : Below w.heap.size w w') : w'.ownsRow base e 4 (.slice a m c) n l :=
  h.kept (row := none) (grown_any hb) (by cases a <;> simp [Value.ownBlock])
theorem cut4 {w : World} {base g n c r : Nat} {fs : List FI} (h : w.ownsRow base tI 4 (.slice (some ⟨g, 0, none⟩) n c) n (rowsI fs)) (hr : r ≤ n) : w.ownsRow base tI 4 (.slice (some ⟨g, 0, none⟩) r c) r (rowsI (fs.take r)) := by
  obtain ⟨h1, h2 | ⟨g', cap, cur, hv, k1, k2, k3, k4, k5, k6⟩⟩ := h
  · cases h2.1
  · obtain ⟨rfl, rfl⟩ : g = g' ∧ c = cap := by simpa using hv
    have e : rowsI (fs.take r) = cur.toList.take (r * 4) := by
      rw [rowsI_take, ← k6, List.take_take]
      congr 1
      omega
    refine ⟨?_, .inr ⟨g, c, cur, rfl, k1, k2, by omega, k4, k5, e.symm⟩⟩
    rw [rowsI_take, List.length_take, h1]
    omega
set_option maxRecDepth 100000 in
set_option maxHeartbeats 32000000 in
theorem bentCode (b p B : Nat) (a : Option Addr) (n c : Nat) (ds : List Pl) (w : World) (hr : Rd b w b p) (hp : p ≤ 100000) (hB : B ≤ w.heap.size) (hbB : b < B) (h : CodeW B w (.slice a n c) ds) (hn : n = ds.length) (hs : SmW ds 100) :
    Calls Tryz.prog 79 #[.pointer (some ⟨b, 0, none⟩), .slice a n c] w (BentP b p B w) := by
  obtain ⟨ii0, hi, hz0, hz1, hz2⟩ := info_parts infoIns
  have hn100 : n ≤ 100 := by have := hs.1; omega
  obtain ⟨fs, hcr⟩ := h
  have HCR := Lib.hid hcr
  have HSRC := Lib.hid (src_code hcr hn)
  have HN := Lib.hid hn
  have HS := Lib.hid hs
  have HR := Lib.hid hr
  have hBw := hB
  clear hcr hn hs hr
  go_enter Tryz.func79, Tryz.ntmps79
  have hA : Below w.heap.size w (w.alloc (.cells #[] 48)) := (Below.refl _ _).alloc (Nat.le_refl _) _
  have HSRC1 : Hid (Src (w.alloc (.cells #[] 48)) a n 4 (rowsI fs)) := Lib.hid (src_code (HCR.out.below hA) HN.out)
  have HA := Lib.hid hA
  clear hA HSRC
  go_upto_region 2 with (at_builtin; refine wpList_append_src ?y1 ?ys ?yx 22 ?y2 w.heap.size tI ii0 (.agg #[.int .i64 0, .int .i64 0, .string ⟨#[]⟩, .slice none 0 0]) 4 56 ?y3 ?y4 ?y5 ?y6 ?y7 ?y8 ?y9 (.slice (some ⟨w.heap.size, 0, none⟩) 0 0) 0 [] ?y10 ?yh1 a n c (rowsI fs) ?y11 ?ysrc ?yh3 ?yc2 ?yc3 ?yc4 ?_; (case y1 => rfl); (case y2 => rfl); (case y10 => rfl); (case y11 => rfl); (case yh1 => exact World.ownsRow_made w #[] 0 (Nat.le_refl _) (by unfold maxLen; omega) rfl); (case ysrc => exact HSRC1.out); (case y3 => exact Tryz.underlying22); (case y4 => exact hi); (case y5 => exact hz0); (case y6 => exact hz1); (case y7 => exact hz2); (case y8 => rfl); (case y9 => decide); (case yh3 => exact rowsI_one); (case yc2 => unfold maxLen; omega); (case yc3 => omega); (case yc4 => (simp only [World.size_alloc]; omega)); intro v1 w1 hown hgrow hat; obtain ⟨g, c2, rfl, hO⟩ := app_four hown hat; have hb1 : Below w.heap.size w w1 := (HA.out.grown hgrow (by simp only [World.size_alloc]; omega) (fun k e => by simp [Value.ownBlock] at e; omega)); have hgg := hO.lt g rfl; have HO1 := Lib.hid hO; have HB1 := Lib.hid hb1; clear hown hgrow hat hO hb1)
  have HCR1 : Hid (CodeRow B w1 (.slice (some ⟨g, 0, none⟩) n c2) ds fs) := Lib.hid ⟨by rw [← HN.out]; exact owns_mono HO1.out hB, (HCR.out.below HB1.out).2⟩
  have HR1 := Lib.hid (HR.out.kept (HB1.out.mono (Nat.le_of_lt HR.out.le.2)) (HB1.out.block b HR.out.le.2))
  have hcap := cap_row HO1.out
  have hgw : w.heap.size ≤ g := hgg.1
  clear HSRC1 HA HCR HR hgg
  rcases Nat.eq_zero_or_pos n with h0 | h0
  · subst h0
    go_wp2
    go_ret
    exact ⟨_, 0, c2, ds, p, rfl, HN.out, ⟨fs, HCR1.out⟩, HS.out.up, HR1.out, by omega, grown_any HB1.out⟩
  have n1 : (1 : Int) ≤ (n : Int) := by omega
  have nz : ((n : Int) == 0) = false := by simp; omega
  have nz2 : ¬ n = 0 := by omega
  have nz3 : ¬ (n : Int) = 0 := by omega
  go_wp2_with fail
  refine (pick b b p (n : Int) _ HR1.out (by omega) n1 (by omega)).mono ?_
  rintro e w7 ⟨kx, lk, uk, rfl, hr7, hg7, -⟩
  obtain ⟨k, rfl⟩ : ∃ k : Nat, kx = (k : Int) := ⟨kx.toNat, by omega⟩
  have hkn : k < n := by omega
  have k0 : (0 : Int) ≤ (k : Int) := by omega
  have HR7 := Lib.hid hr7
  have HG7 : Hid (w.grownBy w7 (some b)) := Lib.hid (grown_trans (grown_any HB1.out) hg7)
  have hbw : b < w.heap.size := by omega
  have hgb : g ≠ b := by omega
  have HCR7 : Hid (CodeRow B w7 (.slice (some ⟨g, 0, none⟩) n c2) ds fs) := Lib.hid (HCR1.out.grown hg7 (fun k e => by cases e; exact hbB))
  have HO7 : Hid (w7.ownsRow w.heap.size tI 4 (.slice (some ⟨g, 0, none⟩) n c2) n (rowsI fs)) := Lib.hid (HO1.out.kept hg7 (Or.inr (fun e => hgb (Option.some.inj e))))
  clear hr7 hg7 HR1 HB1 HCR1 HO1
  go_wp2_with fail
  refine (pick b b (p + 1) 5 _ HR7.out (by omega) (by omega) (by omega)).mono ?_
  rintro e w8 ⟨x8, l8, u8, rfl, hr8, hg8, -⟩
  have HR8 := Lib.hid hr8
  have HG8 : Hid (w.grownBy w8 (some b)) := Lib.hid (grown_trans HG7.out hg8)
  have HCR8 : Hid (CodeRow B w8 (.slice (some ⟨g, 0, none⟩) n c2) ds fs) := Lib.hid (HCR7.out.grown hg8 (fun k e => by cases e; exact hbB))
  have HO8 : Hid (w8.ownsRow w.heap.size tI 4 (.slice (some ⟨g, 0, none⟩) n c2) n (rowsI fs)) := Lib.hid (HO7.out.kept hg8 (Or.inr (fun e => hgb (Option.some.inj e))))
  have hw8 : w.heap.size ≤ w8.heap.size := HG8.out.size
  have hkd : k < ds.length := by have := HN.out; omega
  have hkf : k < fs.length := by rw [allO_len HCR8.out.2]; exact hkd
  clear hr8 hg8 HR7 HG7 HCR7 HO7
  have hx8 : x8 = 0 ∨ x8 = 1 ∨ x8 = 2 ∨ x8 = 3 ∨ x8 = 4 := by omega
  rcases hx8 with rfl | rfl | rfl | rfl | rfl
  · go_wp2_with fail
    refine (pick b b (p + 2) 14 _ HR8.out (by omega) (by omega) (by omega)).mono ?_
    rintro e w9 ⟨xv0, l9, u9, rfl, hr9, hg9, -⟩
    have HR9 := Lib.hid hr9
    have HG9 : Hid (w.grownBy w9 (some b)) := Lib.hid (grown_trans HG8.out hg9)
    have HCR3 : Hid (CodeRow B w9 (.slice (some ⟨g, 0, none⟩) n c2) ds fs) := Lib.hid (HCR8.out.grown hg9 (fun k e => by cases e; exact hbB))
    have HO9 : Hid (w9.ownsRow w.heap.size tI 4 (.slice (some ⟨g, 0, none⟩) n c2) n (rowsI fs)) := Lib.hid (HO8.out.kept hg9 (Or.inr (fun e => hgb (Option.some.inj e))))
    clear hr9 hg9 HR8 HG8 HCR8 HO8
    obtain ⟨xv, hxv⟩ : ∃ x, xv0 = x := ⟨_, rfl⟩
    subst hxv
    have hpk := allO_get HCR3.out.2 k hkd hkf
    obtain ⟨hset, hgs⟩ := HCR3.out.set HN.out k hkf ⟨xv0, ds[k].num, ds[k].nm, ds[k].ms⟩ ⟨xv0, fs[k].num, fs[k].name, fs[k].ma, fs[k].ml, fs[k].mc⟩ 0 (.int .i64 xv0) (by decide) rfl ⟨rfl, hpk.2.1, hpk.2.2.1, hpk.2.2.2.1, hpk.2.2.2.2⟩
    have HSET : Hid (CodeW B (w9.setCell ⟨g, k * 4 + 0, none⟩ (.int .i64 xv0)) (.slice (some ⟨g, 0, none⟩) n c2) (ds.set k ⟨xv0, ds[k].num, ds[k].nm, ds[k].ms⟩)) := Lib.hid ⟨_, hset⟩
    have HGF : Hid (w.grownBy (w9.setCell ⟨g, k * 4 + 0, none⟩ (.int .i64 xv0)) (some b)) := Lib.hid ⟨hgs.os.trans HG9.out.os, hgs.tape.trans HG9.out.tape, hgs.output.trans HG9.out.output, Nat.le_trans HG9.out.size hgs.size, fun i hi hne => (hgs.block i (Nat.lt_of_lt_of_le hi HG9.out.size) (fun e => by have e1 : i = g := Option.some.inj e; omega)).trans (HG9.out.block i hi hne)⟩
    have HRF : Hid (Rd b (w9.setCell ⟨g, k * 4 + 0, none⟩ (.int .i64 xv0)) b (p + 3)) := Lib.hid (HR9.out.kept ⟨hgs.os, hgs.tape, hgs.output, hgs.size, fun i hi => hgs.block i (by have := HR9.out.le.2; omega) (fun e => by have e1 : i = g := Option.some.inj e; omega)⟩ (hgs.block b HR9.out.le.2 (fun e => hgb (Option.some.inj e).symm)))
    have HSW : Hid (SmW (ds.set k ⟨xv0, ds[k].num, ds[k].nm, ds[k].ms⟩) 101) := Lib.hid (HS.out.up.set k ⟨(HS.out.2 ds[k] (List.getElem_mem _)).1, (HS.out.2 ds[k] (List.getElem_mem _)).2⟩)
    have HLN : Hid (n = (ds.set k ⟨xv0, ds[k].num, ds[k].nm, ds[k].ms⟩).length) := Lib.hid (by rw [List.length_set]; exact HN.out)
    obtain ⟨z0, z1, z2, z3⟩ := HCR3.out.cells HN.out k hkf
    have fz := HO9.out.frozenAt (k * 4)
    clear hset hgs hpk
    go_wp2
    go_ret
    exact ⟨_, n, c2, _, p + 3, rfl, HLN.out, HSET.out, HSW.out, HRF.out, by omega, HGF.out⟩

  · go_wp2_with fail
    refine (pick b b (p + 2) 9 _ HR8.out (by omega) (by omega) (by omega)).mono ?_
    rintro e w9 ⟨xv0, l9, u9, rfl, hr9, hg9, -⟩
    have HR9 := Lib.hid hr9
    have HG9 : Hid (w.grownBy w9 (some b)) := Lib.hid (grown_trans HG8.out hg9)
    have HCR3 : Hid (CodeRow B w9 (.slice (some ⟨g, 0, none⟩) n c2) ds fs) := Lib.hid (HCR8.out.grown hg9 (fun k e => by cases e; exact hbB))
    have HO9 : Hid (w9.ownsRow w.heap.size tI 4 (.slice (some ⟨g, 0, none⟩) n c2) n (rowsI fs)) := Lib.hid (HO8.out.kept hg9 (Or.inr (fun e => hgb (Option.some.inj e))))
    clear hr9 hg9 HR8 HG8 HCR8 HO8
    have ew : IntKind.i64.wrap (xv0 - 1) = xv0 - 1 := IntWalk.i64_in _ (by omega)
    have hpk := allO_get HCR3.out.2 k hkd hkf
    obtain ⟨hset, hgs⟩ := HCR3.out.set HN.out k hkf ⟨ds[k].op, (xv0 - 1), ds[k].nm, ds[k].ms⟩ ⟨fs[k].op, (xv0 - 1), fs[k].name, fs[k].ma, fs[k].ml, fs[k].mc⟩ 1 (.int .i64 (xv0 - 1)) (by decide) rfl ⟨hpk.1, rfl, hpk.2.2.1, hpk.2.2.2.1, hpk.2.2.2.2⟩
    have HSET : Hid (CodeW B (w9.setCell ⟨g, k * 4 + 1, none⟩ (.int .i64 (xv0 - 1))) (.slice (some ⟨g, 0, none⟩) n c2) (ds.set k ⟨ds[k].op, (xv0 - 1), ds[k].nm, ds[k].ms⟩)) := Lib.hid ⟨_, hset⟩
    have HGF : Hid (w.grownBy (w9.setCell ⟨g, k * 4 + 1, none⟩ (.int .i64 (xv0 - 1))) (some b)) := Lib.hid ⟨hgs.os.trans HG9.out.os, hgs.tape.trans HG9.out.tape, hgs.output.trans HG9.out.output, Nat.le_trans HG9.out.size hgs.size, fun i hi hne => (hgs.block i (Nat.lt_of_lt_of_le hi HG9.out.size) (fun e => by have e1 : i = g := Option.some.inj e; omega)).trans (HG9.out.block i hi hne)⟩
    have HRF : Hid (Rd b (w9.setCell ⟨g, k * 4 + 1, none⟩ (.int .i64 (xv0 - 1))) b (p + 3)) := Lib.hid (HR9.out.kept ⟨hgs.os, hgs.tape, hgs.output, hgs.size, fun i hi => hgs.block i (by have := HR9.out.le.2; omega) (fun e => by have e1 : i = g := Option.some.inj e; omega)⟩ (hgs.block b HR9.out.le.2 (fun e => hgb (Option.some.inj e).symm)))
    have HSW : Hid (SmW (ds.set k ⟨ds[k].op, (xv0 - 1), ds[k].nm, ds[k].ms⟩) 101) := Lib.hid (HS.out.up.set k ⟨(HS.out.2 ds[k] (List.getElem_mem _)).1, (HS.out.2 ds[k] (List.getElem_mem _)).2⟩)
    have HLN : Hid (n = (ds.set k ⟨ds[k].op, (xv0 - 1), ds[k].nm, ds[k].ms⟩).length) := Lib.hid (by rw [List.length_set]; exact HN.out)
    obtain ⟨z0, z1, z2, z3⟩ := HCR3.out.cells HN.out k hkf
    have fz := HO9.out.frozenAt (k * 4 + 1)
    clear hset hgs hpk
    go_wp2
    go_ret
    exact ⟨_, n, c2, _, p + 3, rfl, HLN.out, HSET.out, HSW.out, HRF.out, by omega, HGF.out⟩

  · have HRL := Lib.hid (rd_alloc HR8.out (.cells #[.string ⟨#[]⟩, .string ⟨#[97]⟩, .string ⟨#[65]⟩] 9))
    have HPO := Lib.hid (pickOf b b (p + 2) 3 w8.heap.size 3 (fun i => [(⟨#[]⟩ : ByteArray), ⟨#[97]⟩, ⟨#[65]⟩].getD i ByteArray.empty) (w8.alloc (.cells #[.string ⟨#[]⟩, .string ⟨#[97]⟩, .string ⟨#[65]⟩] 9)) HRL.out (by omega) (by omega) (by omega) (fun i hi => lits_at _ w8.heap.size rfl [(⟨#[]⟩ : ByteArray), ⟨#[97]⟩, ⟨#[65]⟩] rfl i hi) (by have := HR8.out.le.2; omega))
    have hA8 : Below w8.heap.size w8 (w8.alloc (.cells #[.string ⟨#[]⟩, .string ⟨#[97]⟩, .string ⟨#[65]⟩] 9)) := (Below.refl _ _).alloc (Nat.le_refl _) _
    have HA8 := Lib.hid hA8
    clear hA8
    go_wp2_with fail
    generalize (w8.alloc (.cells #[.string ⟨#[]⟩, .string ⟨#[97]⟩, .string ⟨#[65]⟩] 9)) = W8 at *
    refine HPO.out.mono ?_
    rintro e w9 ⟨ix, hix, rfl, hr9, hg9', -⟩
    have hg9 : w8.grownBy w9 (some b) := grown_trans (grown_any HA8.out) hg9'
    obtain ⟨xv, hxv⟩ : ∃ xv, (fun i => [(⟨#[]⟩ : ByteArray), ⟨#[97]⟩, ⟨#[65]⟩].getD i ByteArray.empty) ix = xv := ⟨_, rfl⟩
    have hxs : xv.size ≤ 8 := by
      have : ix = 0 ∨ ix = 1 ∨ ix = 2 := by omega
      rw [← hxv]
      rcases this with rfl | rfl | rfl <;> decide
    rw [hxv]
    clear hxv HPO HRL HA8 hg9'
    have HR9 := Lib.hid hr9
    have HG9 : Hid (w.grownBy w9 (some b)) := Lib.hid (grown_trans HG8.out hg9)
    have HCR3 : Hid (CodeRow B w9 (.slice (some ⟨g, 0, none⟩) n c2) ds fs) := Lib.hid (HCR8.out.grown hg9 (fun k e => by cases e; exact hbB))
    have HO9 : Hid (w9.ownsRow w.heap.size tI 4 (.slice (some ⟨g, 0, none⟩) n c2) n (rowsI fs)) := Lib.hid (HO8.out.kept hg9 (Or.inr (fun e => hgb (Option.some.inj e))))
    clear hr9 hg9 HR8 HG8 HCR8 HO8
    have hpk := allO_get HCR3.out.2 k hkd hkf
    obtain ⟨hset, hgs⟩ := HCR3.out.set HN.out k hkf ⟨ds[k].op, ds[k].num, xv, ds[k].ms⟩ ⟨fs[k].op, fs[k].num, xv, fs[k].ma, fs[k].ml, fs[k].mc⟩ 2 (.string xv) (by decide) rfl ⟨hpk.1, hpk.2.1, rfl, hpk.2.2.2.1, hpk.2.2.2.2⟩
    have HSET : Hid (CodeW B (w9.setCell ⟨g, k * 4 + 2, none⟩ (.string xv)) (.slice (some ⟨g, 0, none⟩) n c2) (ds.set k ⟨ds[k].op, ds[k].num, xv, ds[k].ms⟩)) := Lib.hid ⟨_, hset⟩
    have HGF : Hid (w.grownBy (w9.setCell ⟨g, k * 4 + 2, none⟩ (.string xv)) (some b)) := Lib.hid ⟨hgs.os.trans HG9.out.os, hgs.tape.trans HG9.out.tape, hgs.output.trans HG9.out.output, Nat.le_trans HG9.out.size hgs.size, fun i hi hne => (hgs.block i (Nat.lt_of_lt_of_le hi HG9.out.size) (fun e => by have e1 : i = g := Option.some.inj e; omega)).trans (HG9.out.block i hi hne)⟩
    have HRF : Hid (Rd b (w9.setCell ⟨g, k * 4 + 2, none⟩ (.string xv)) b (p + 3)) := Lib.hid (HR9.out.kept ⟨hgs.os, hgs.tape, hgs.output, hgs.size, fun i hi => hgs.block i (by have := HR9.out.le.2; omega) (fun e => by have e1 : i = g := Option.some.inj e; omega)⟩ (hgs.block b HR9.out.le.2 (fun e => hgb (Option.some.inj e).symm)))
    have HSW : Hid (SmW (ds.set k ⟨ds[k].op, ds[k].num, xv, ds[k].ms⟩) 101) := Lib.hid (HS.out.up.set k ⟨hxs, (HS.out.2 ds[k] (List.getElem_mem _)).2⟩)
    have HLN : Hid (n = (ds.set k ⟨ds[k].op, ds[k].num, xv, ds[k].ms⟩).length) := Lib.hid (by rw [List.length_set]; exact HN.out)
    obtain ⟨z0, z1, z2, z3⟩ := HCR3.out.cells HN.out k hkf
    have fz := HO9.out.frozenAt (k * 4 + 2)
    clear hset hgs hpk
    go_wp2
    go_ret
    exact ⟨_, n, c2, _, p + 3, rfl, HLN.out, HSET.out, HSW.out, HRF.out, by omega, HGF.out⟩

  · have HSH : Hid (sliced (some ⟨g, 0, none⟩) 0 k c2 4 = .slice (some ⟨g, 0, none⟩) k c2) := by refine Lib.hid ?_; simp [sliced, Addr.add]
    obtain ⟨AD, hsl, had⟩ : ∃ AD : Option Addr, sliced (some ⟨g, 0, none⟩) (k + 1) n c2 4 = .slice AD (n - (k + 1)) (c2 - (k + 1)) ∧ (0 < n - (k + 1) → AD = some ⟨g, (k + 1) * 4, none⟩) := by
      refine ⟨_, rfl, fun h0 => ?_⟩
      rw [if_neg (by omega)]
      show some ((⟨g, 0, none⟩ : Addr).add ((k + 1) * 4)) = _
      rw [addA, Nat.zero_add]
    have HSL := Lib.hid hsl
    have HAD := Lib.hid had
    have ek : IntKind.i64.wrap ((k : Int) + 1) = (k : Int) + 1 := IntWalk.i64_in _ (by omega)
    have SZ : ∀ {W : World}, (sizeOf (Tryz.prog.elem 22)).run Tryz.prog W = .ok 4 W := fun {W} => by
      have e : Tryz.prog.elem 22 = 48 := by kernel_rfl
      rw [e]
      simp [sizeOf, typeInfo, hi, hz1]
    clear hsl had
    go_wp2_with fail
    refine wp_region_invK (by kernel_rfl) (fun _ L fL W => TQ 7 (fun W => Below w8.heap.size w8 W) (fun i v => v = ([(Value.slice (some ⟨g, 0, none⟩) n c2), (.int .i64 (k : Int)), (.slice (some ⟨g, 0, none⟩) k c2), (.slice (some ⟨g, 0, none⟩) n c2), (.int .i64 (k : Int)), (.int .i64 ((k : Int) + 1)), (.slice AD (n - (k + 1)) (c2 - (k + 1)))] : List Value).getD i (.bool false)) (fun v W => ∃ (a : Option Addr) (n c : Nat) (ds : List Pl) (p' : Nat), v = .slice a n c ∧ n = ds.length ∧ CodeW B W (.slice a n c) ds ∧ SmW ds 101 ∧ Rd b W b p' ∧ p' ≤ p + 4 ∧ w.grownBy W (some b)) L fL W) (by kernel_rfl) ⟨fun _ => Below.drew (Below.refl _ _), fun _ _ a => (by cases a), fun a => (by cases a), fun a => (by cases a)⟩ ?_
    apply Exists.intro
    apply And.intro
    · intro f
      simp only [over, List.set]
      exact rfl
    refine ⟨?hops, ?hend⟩
    case hops =>
      refine EachOp.cons ?_ (EachOp.cons ?_ (EachOp.cons ?_ (EachOp.cons ?_ (EachOp.cons ?_ (EachOp.cons ?_ (EachOp.cons ?_ (EachOp.cons ?_ (EachOp.cons ?_ (EachOp.nil)))))))))
      · intro L ff kk ww hkk hJ hcl hLi hwt QQ' hQ
        try dsimp only
        go_big_wp2_with fail
        refine hQ _ (.slice (some ⟨g, 0, none⟩) n c2) _ ?_ (hJ.pre_op (by decide) rfl)
        first | rfl | (simp [upd]; done)
      · intro L ff kk ww hkk hJ hcl hLi hwt QQ' hQ
        try dsimp only
        go_big_wp2_with fail
        refine hQ _ (.int .i64 (k : Int)) _ ?_ (hJ.pre_op (by decide) rfl)
        first | rfl | (simp [upd]; done)
      · intro L ff kk ww hkk hJ hcl hLi hwt QQ' hQ
        try dsimp only
        have c0' : ff 0 = .slice (some ⟨g, 0, none⟩) n c2 := hJ.pre 0 (by decide) (hwt 0 (by decide))
        have c1' : ff 1 = .int .i64 (k : Int) := hJ.pre 1 (by decide) (hwt 1 (by decide))
        refine wpList_slice_h rfl 22 _ _ rfl (by kernel_rfl) _ _ _ k 4 c0' c1' (by omega) SZ _ HSH.out.symm ?_
        simp only [Act.put, List.setIfInBounds_toArray, List.set_cons_succ, List.set_cons_zero]
        exact hQ _ _ _ rfl (hJ.pre_op (i := 2) (by decide) rfl)
      · intro L ff kk ww hkk hJ hcl hLi hwt QQ' hQ
        try dsimp only
        go_big_wp2_with fail
        refine hQ _ (.slice (some ⟨g, 0, none⟩) n c2) _ ?_ (hJ.pre_op (by decide) rfl)
        first | rfl | (simp [upd]; done)
      · intro L ff kk ww hkk hJ hcl hLi hwt QQ' hQ
        try dsimp only
        go_big_wp2_with fail
        refine hQ _ (.int .i64 (k : Int)) _ ?_ (hJ.pre_op (by decide) rfl)
        first | rfl | (simp [upd]; done)
      · intro L ff kk ww hkk hJ hcl hLi hwt QQ' hQ
        try dsimp only
        have c4' : ff 4 = .int .i64 (k : Int) := hJ.pre 4 (by decide) (hwt 4 (by decide))
        go_big_wp2_with fail
        refine hQ _ (.int .i64 ((k : Int) + 1)) _ ?_ (hJ.pre_op (by decide) rfl)
        first | rfl | (simp [upd, c4']; done)
      · intro L ff kk ww hkk hJ hcl hLi hwt QQ' hQ
        try dsimp only
        have c3' : ff 3 = .slice (some ⟨g, 0, none⟩) n c2 := hJ.pre 3 (by decide) (hwt 3 (by decide))
        have c5' : ff 5 = .int .i64 ((k : Int) + 1) := hJ.pre 5 (by decide) (hwt 5 (by decide))
        have c5'' : ff 5 = .int .i64 ((k + 1 : Nat) : Int) := by rw [c5']; rfl
        refine wpList_slice_l rfl 22 _ _ rfl (by kernel_rfl) _ _ _ (k + 1) 4 c3' c5'' (by omega) SZ _ HSL.out.symm ?_
        simp only [Act.put, List.setIfInBounds_toArray, List.set_cons_succ, List.set_cons_zero]
        exact hQ _ _ _ rfl (hJ.pre_op (i := 6) (by decide) rfl)
      · intro L ff kk ww hkk hJ hcl hLi hwt QQ' hQ
        try dsimp only
        have nm : L 7 = false := hLi
        have nm1 : L 8 = false := by
          cases hx : L 8 with
          | false => rfl
          | true => have h1 : L 7 = true := hcl 8 _ rfl hx 7 (by decide); rw [nm] at h1; cases h1
        have c2' : ff 2 = .slice (some ⟨g, 0, none⟩) k c2 := hJ.pre 2 (by decide) (hwt 2 (by decide))
        have c6' : ff 6 = .slice AD (n - (k + 1)) (c2 - (k + 1)) := hJ.pre 6 (by decide) (hwt 6 (by decide))
        have hB := hJ.inv nm
        have hOk := owns_none4 HO8.out hB
        have hCk := HCR8.out.below hB
        refine wpList_append_src rfl _ _ 22 rfl w.heap.size tI ii0 (.agg #[.int .i64 0, .int .i64 0, .string ⟨#[]⟩, .slice none 0 0]) 4 56 Tryz.underlying22 hi hz0 hz1 hz2 rfl (by decide) (.slice (some ⟨g, 0, none⟩) k c2) k (rowsI (fs.take k)) c2' (cut4 hOk (by omega)) AD (n - (k + 1)) (c2 - (k + 1)) (rowsI (fs.drop (k + 1))) c6' (src_part hCk HN.out (by omega) AD HAD.out) rowsI_one (by unfold maxLen; omega) (by omega) (Nat.le_trans hw8 hB.size) ?_
        intro v' wz ho hg hat
        simp only [Act.put, List.setIfInBounds_toArray, List.set_cons_succ, List.set_cons_zero]
        refine hQ _ _ wz rfl (hJ.call_op nm1 ?_)
        have hl := allO_len hCk.2
        obtain ⟨ga, ca, hv'⟩ := own_formV ho (by rcases hat with e | e <;> (rw [e]; simp [Value.ownBlock]))
        have hrow : ∀ b, (Value.slice (some ⟨g, 0, none⟩) k c2).ownBlock = some b → ∃ cur, ww.heap[b]? = some (.cells cur tI (0, 0)) := fun b e => (owns_typed hOk (show (Value.slice (some ⟨g, 0, none⟩) n c2).ownBlock = some b from e)).2
        have hall : AllO B wz (ds.take k ++ ds.drop (k + 1)) (fs.take k ++ fs.drop (k + 1)) := allO_imp (fun _ _ q => q.kept hg hrow) (allO_app (allO_take k hCk.2) (allO_drop (k + 1) hCk.2))
        have hlen : k + (n - (k + 1)) = (ds.take k ++ ds.drop (k + 1)).length := by rw [List.length_append, List.length_take, List.length_drop]; have := HN.out; omega
        have hcode : CodeW B wz v' (ds.take k ++ ds.drop (k + 1)) := ⟨_, by rw [rowsI_app, ← hlen]; exact owns_mono ho hBw, hall⟩
        have hgr : w.grownBy wz (some b) := ⟨hg.os.trans (hB.os.trans HG8.out.os), hg.tape.trans (hB.tape.trans HG8.out.tape), hg.output.trans (hB.output.trans HG8.out.output), Nat.le_trans HG8.out.size (Nat.le_trans hB.size hg.size), fun i hi hne => (hg.block i (by have := hB.size; omega) (fun e => by have e1 : i = g := Option.some.inj e; omega)).trans ((hB.block i (by omega)).trans (HG8.out.block i hi hne))⟩
        have hb8 := HR8.out.le.2
        have hrd : Rd b wz b (p + 2) := HR8.out.kept ⟨hg.os.trans hB.os, hg.tape.trans hB.tape, hg.output.trans hB.output, Nat.le_trans hB.size hg.size, fun i hi => (hg.block i (by have := hB.size; omega) (fun e => by have e1 : i = g := Option.some.inj e; omega)).trans (hB.block i (by omega))⟩ ((hg.block b (by have := hB.size; omega) (fun e => hgb (Option.some.inj e).symm)).trans (hB.block b hb8))
        exact ⟨some ⟨ga, 0, none⟩, k + (n - (k + 1)), ca, ds.take k ++ ds.drop (k + 1), p + 2, hv', hlen, by rw [← hv']; exact hcode, HS.out.up.cut k (k + 1) (by omega), hrd, by omega, hgr⟩
      · intro L ff kk ww hkk hJ hcl hLi hwt QQ' hQ
        try dsimp only
        have hm : L 7 = true := hwt 7 (by decide)
        go_big_wp2_with fail
        refine hQ _ _ _ ?_ (hJ.fin_op hm rfl)
        first | rfl | (simp [upd]; done)
    case hend =>
      intro L ff kk w9 hkb hL hJ
      try dsimp only
      have h8 := hJ.fin (hL 8 (by decide))
      obtain ⟨a9, n9, c9, ds9, p9, hv9, hn9, hc9, hs9, hr9, hp9, hg9⟩ := hJ.call (hL 7 (by decide))
      have h8' : ff 8 = .slice a9 n9 c9 := h8.trans hv9
      rw [h8']
      have HH := Lib.hid (And.intro hn9 (And.intro hc9 (And.intro hs9 (And.intro hr9 (And.intro hp9 hg9)))))
      clear h8 h8' hv9 hn9 hc9 hs9 hr9 hp9 hg9 hJ hL
      go_wp2
      go_ret
      exact ⟨a9, n9, c9, ds9, p9, rfl, HH.out⟩

  · obtain ⟨z0, z1, z2, z3⟩ := HCR8.out.cells HN.out k hkf
    have HPK := Lib.hid (allO_get HCR8.out.2 k hkd hkf)
    have HSK := Lib.hid (HS.out.2 ds[k] (List.getElem_mem _))
    have HFK : Hid (fs[k] = fs[k]) := rfl
    obtain ⟨fk, hfk⟩ : ∃ fk, fs[k] = fk := ⟨_, rfl⟩
    rw [hfk] at z0 z1 z2 z3 HPK
    obtain ⟨o, nn, s, ma, ml, mc⟩ := fk
    dsimp only at z0 z1 z2 z3
    clear hfk HFK
    have hX8 : Below w8.heap.size w8 (w8.alloc (.cells #[.int .i64 o, .int .i64 nn, .string s, .slice ma ml mc] 48)) := (Below.refl _ _).alloc (Nat.le_refl _) _
    have HX8 := Lib.hid hX8
    clear hX8
    go_wp2_with (at_builtin; refine wpList_append_lies ?xw ?x1 ?xs ?xx 22 ?x2 w.heap.size 48 ii0 (.agg #[.int .i64 0, .int .i64 0, .string ⟨#[]⟩, .slice none 0 0]) 4 56 ?x3 ?x4 ?x5 ?x6 ?x7 ?x8 ?x9 (.slice (some ⟨g, 0, none⟩) n c2) n (rowsI fs) ?x10 ?xh1 ⟨w8.heap.size, 0, none⟩ 1 1 (rowsI [⟨o, nn, s, ma, ml, mc⟩]) ?x11 ?x12 ?xh2 ?xh3 ?xc1 ?xc2 ?xc3 ?xc4 (w8.heap.size + 1) ?xc5 ?_; (case x1 => rfl); (case x2 => rfl); (case x10 => rfl); (case x11 => rfl); (case xh1 => exact owns_none4 HO8.out HX8.out); (case x3 => exact Tryz.underlying22); (case x4 => exact hi); (case x5 => exact hz0); (case x6 => exact hz1); (case x7 => exact hz2); (case x8 => rfl); (case x9 => decide); (case x12 => rfl); (case xh2 => exact (World.news_of_block (heap_alloc_new w8 _))); (case xh3 => exact rowsI_one); (case xc1 => decide); (case xc2 => unfold maxLen; omega); (case xc3 => omega); (case xc4 => (simp only [World.size_alloc]; omega)); (case xc5 => simp only [World.size_alloc]); intro gy cy wz ho hgZ hat hlt)
    have hg : w8.grownBy wz (Value.slice (some ⟨g, 0, none⟩) n c2).ownBlock := grown_trans (grown_any HX8.out) hgZ
    have hcode : CodeW B wz (.slice (some ⟨gy, 0, none⟩) (n + 1) cy) (ds ++ [ds[k]]) := ⟨_, HCR8.out.app (allO_one HPK.out) (by rw [HN.out]; rfl) (owns_mono ho hBw) hg⟩
    have HCD := Lib.hid hcode
    have hgr : w.grownBy wz (some b) := ⟨hg.os.trans HG8.out.os, hg.tape.trans HG8.out.tape, hg.output.trans HG8.out.output, Nat.le_trans HG8.out.size hg.size, fun i hi hne => (hg.block i (by omega) (fun e => by have e1 : i = g := Option.some.inj e; omega)).trans (HG8.out.block i hi hne)⟩
    have HGR := Lib.hid hgr
    have HRD : Hid (Rd b wz b (p + 2)) := Lib.hid (HR8.out.kept ⟨hg.os, hg.tape, hg.output, hg.size, fun i hi => hg.block i (by have := HR8.out.le.2; omega) (fun e => by have e1 : i = g := Option.some.inj e; omega)⟩ (hg.block b HR8.out.le.2 (fun e => hgb (Option.some.inj e).symm)))
    clear ho hgZ hat hlt hg hcode hgr
    go_wp2
    go_ret
    exact ⟨_, n + 1, cy, _, p + 2, rfl, by rw [List.length_append, ← HN.out]; rfl, HCD.out, HS.out.snoc HSK.out, HRD.out, by omega, HGR.out⟩

end Go.Proofs.YtjhgmmcglonokaaGreatDoor
