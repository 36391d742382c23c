/-
  What DrawMoneyShare draws: an amount, and a list of ints in new memory.
-/
import Derived.Test.YtnhniglldkmanaaWeights
import Derived.Test.YtnhniglldkmanaaDrawMoney2
import Derived.Deep.DeepMust
import Derived.Deep.AppendLies
namespace Go.Proofs.Ytnhniglldkmanaa
open Go.RowKit
set_option linter.unusedVariables false

/-- An owned row of ints, few and small. -/
def OwnZ (B : Nat) (w : World) (v : Value) (n : Nat) : Prop := ∃ zs : List Int, zs.length = n ∧ w.ownsRow B 3 1 v n (zs.map (Value.int .i64)) ∧ (∀ x ∈ zs, -1 ≤ x ∧ x ≤ 1000001) ∧ v ≠ .slice none 0 0
def DrawnZ (b p0 : Nat) (w : World) (e : Ending) (w' : World) : Prop := ∃ (v : Value) (n p : Nat), n ≤ 9 ∧ e = .returned v ∧ OwnZ (b + 1) w' v n ∧ Rd b w' b p ∧ p ≤ p0 + 60 ∧ Below b w w'
def lenV : Value → Nat
  | .slice _ n _ => n
  | _ => 0
theorem snoc_bd {zs : List Int} {y : Int} (h : ∀ x ∈ zs, -1 ≤ x ∧ x ≤ 1000001) (hy : -1 ≤ y ∧ y ≤ 1000001) : ∀ x ∈ zs ++ [y], -1 ≤ x ∧ x ≤ 1000001 := by
  intro x hx
  rcases List.mem_append.1 hx with h1 | h1
  · exact h x h1
  · simp at h1; subst h1; exact hy
theorem int_pred {k : Nat} (h : 0 < k) : Value.int .i64 ((k : Int) - 1) = .int .i64 ((k - 1 : Nat) : Int) := by
  have : (k : Int) - 1 = ((k - 1 : Nat) : Int) := by omega
  rw [this]
theorem own_form {w : World} {B n s : Nat} {e : TypeId} {v : Value} {xs : List Value} (h : w.ownsRow B e s v n xs) (hv : v ≠ .slice none 0 0) : ∃ g cap, v = .slice (some ⟨g, 0, none⟩) n cap := by
  obtain ⟨-, h | ⟨g, cap, cur, rfl, -⟩⟩ := h
  · exact absurd h.1 hv
  · exact ⟨g, cap, rfl⟩
theorem some_ne {a : Addr} {l c : Nat} : Value.slice (some a) l c ≠ .slice none 0 0 := by simp
theorem ints_infoZ : (Try.prog.info? 3).map (fun i => (i.zero, i.size, i.bytes)) = some (some (.int .i64 0), 1, 8) := infoInt
theorem bgrow {b : Nat} {w w1 w2 : World} (h : Below b w w1) (hb : b ≤ w1.heap.size) (hg : w1.grownBy w2 (some b)) : Below b w w2 := h.grown hg hb (fun k e => by cases e; exact Nat.le_refl _)

set_option maxHeartbeats 2000000 in
theorem drawWeights (b p : Nat) (w : World) (hr : Rd b w b p) (hp : p ≤ 100000) :
    Calls Try.prog 18 #[.pointer (some ⟨b, 0, none⟩)] w (DrawnZ b p w) := by
  obtain ⟨i0, hi, hz0, hz1, hz2⟩ := info_parts infoInt
  have hle := hr.le
  have hown0 : (w.alloc (.cells #[] 3)).ownsRow (b + 1) 3 1 (.slice (some ⟨w.heap.size, 0, none⟩) 0 0) 0 [] := World.ownsRow_made _ _ _ (by omega) (by unfold maxLen; omega) rfl
  have hrA := rd_alloc hr (.cells #[] 3)
  have hbA : Below b w (w.alloc (.cells #[] 3)) := (Below.refl _ _).alloc (by omega) _
  have hzA : (w.alloc (.cells #[] 3)).heap.size = w.heap.size + 1 := by simp
  go_enter Try.func18, Try.ntmps18
  go_wp2_with fail
  refine (pick b b p 6 _ hrA (by omega) (by omega) (by omega)).mono ?_
  rintro e w1 ⟨x1, l1, u1, rfl, hr1, hg1, -⟩
  have hb1 := bgrow hbA (by omega) hg1
  have hown1 := hown0.kept hg1 (Or.inr (by simp [Value.ownBlock]; omega))
  obtain ⟨m, rfl⟩ := Int.eq_ofNat_of_zero_le l1
  clear hown0
  go_wp2_with fail
  go_loopw [3, 4] (fun v n wr => ∃ k j q : Nat, n = .int .i64 k ∧ k + j ≤ 5 ∧ OwnZ (b + 1) wr v j ∧ Rd b wr b q ∧ q + 3 * k ≤ p + 20 ∧ Below b w wr) (fun _ n _ => (intOf n).toNat)
  case atStart => exact ⟨m, 0, _, rfl, by omega, ⟨[], rfl, hown1, by simp, by simp⟩, hr1, by omega, hb1⟩
  case round =>
    obtain ⟨k, j, q, rfl, hkj, ⟨zs, hzl, hown, hzs, hnil⟩, hrr, hq, hb⟩ := hrel
    obtain ⟨g, cp, rfl⟩ := own_form hown hnil
    have hlt := hown.lt g rfl
    have hler := hrr.le
    have Hown := Lib.hid hown
    have Hzs := Lib.hid hzs
    clear hown hzs
    rcases Nat.lt_or_ge 0 k with hk | hk
    · clear hnil
      go_wp2_with fail
      refine (pick b b q 5 _ hrr (by omega) (by omega) (by omega)).mono ?_
      rintro e w2 ⟨x2, l2, u2, rfl, hr2, hg2, -⟩
      have hb2 := bgrow hb (by omega) hg2
      have ho2 := Hown.out.kept hg2 (Or.inr (by simp [Value.ownBlock]; omega))
      have hs2 := hg2.size
      go_wp2_with fail
      refine (pick b b _ 1000 _ hr2 (by omega) (by omega) (by omega)).mono ?_
      rintro e w3 ⟨x3, l3, u3, rfl, hr3, hg3, -⟩
      have hb3 := bgrow hb2 (by omega) hg3
      have ho3 := ho2.kept hg3 (Or.inr (by simp [Value.ownBlock]; omega))
      have hs3 := hg3.size
      go_wp2_with fail
      refine (pick b b _ 3 _ (rd_alloc hr3 _) (by omega) (by omega) (by omega)).mono ?_
      rintro e w4 ⟨x4, l4, u4, rfl, hr4, hg4, -⟩
      obtain ⟨i, rfl⟩ := Int.eq_ofNat_of_zero_le l4
      have hi3 : i < 3 := by omega
      have hs4 := hg4.size
      simp only [World.size_alloc] at hs4
      have hb4 : Below b w w4 := bgrow (hb3.alloc (by omega) _) (by simp only [World.size_alloc]; omega) hg4
      have ho4 := (ho3.alloc (.cells #[.int .i64 x2, .int .i64 x3, .int .i64 0] 3)).kept hg4 (Or.inr (by simp [Value.ownBlock]; omega))
      have HO4 := Lib.hid ho4
      obtain ⟨y, y1, y2, c1⟩ := one_of w3.heap.size rfl [x2, x3, 0] rfl (-1) 1000001 (by intro v hv; simp at hv; omega) i hi3 hg4 (by have := hr3.le; omega)
      clear ho2 ho3 ho4
      go_wp2_with (at_builtin; refine wpList_append_lies ?pw ?p1 ?ps ?px 23 ?p2 (b + 1) 3 i0 (.int .i64 0) 1 8 ?p3 ?p4 ?p5 ?p6 ?p7 ?p8 ?p9 (.slice (some ⟨g, 0, none⟩) j cp) j (zs.map (Value.int .i64)) ?p10 ?ph1 ⟨w4.heap.size, 0, none⟩ 1 1 [.int .i64 y] ?p11 ?p12 ?ph2 ?ph3 ?pc1 ?pc2 ?pc3 ?pc4 (w4.heap.size + 1) ?pc5 ?_; (case p1 => rfl); (case p2 => rfl); (case p10 => rfl); (case p11 => rfl); (case ph1 => exact HO4.out.alloc _); (case p3 => exact Try.underlying23); (case p4 => exact hi); (case p5 => exact hz0); (case p6 => exact hz1); (case p7 => exact hz2); (case p8 => rfl); (case p9 => decide); (case p12 => rfl); (case ph2 => go_must (exact cell_one_new _ _ _)); (case ph3 => go_must (intro u hu; simp at hu; subst hu; rfl)); (case pc1 => decide); (case pc2 => go_must (unfold maxLen; omega)); (case pc3 => go_must (omega)); (case pc4 => go_must (simp only [World.size_alloc]; omega)); (case pc5 => simp only [World.size_alloc]); intro g2 cp2 wz hownZ hgrowZ hatZ hltZ)
      have hrz := rd_alloc hr4 (.cells #[.int .i64 y] 3)
      have hbz := hb4.alloc (by omega) (.cells #[.int .i64 y] 3)
      have hgb2 : Below b (w4.alloc (.cells #[.int .i64 y] 3)) wz := (Below.refl _ _).grown hgrowZ (by have := hrz.le; omega) (fun q e => by simp [Value.ownBlock] at e; omega)
      have hrz2 := hrz.kept hgb2 (hgrowZ.block _ hrz.le.2 (by simp [Value.ownBlock]; omega))
      have hownz2 : OwnZ (b + 1) wz (.slice (some ⟨g2, 0, none⟩) (j + 1) cp2) (j + 1) := ⟨zs ++ [y], by simp [hzl], by rw [List.map_append]; exact hownZ, ?hzz, some_ne⟩
      case hzz => exact snoc_bd Hzs.out ⟨y1, y2⟩
      have hbz2 := hbz.trans hgb2
      have hzz2 := hrz2.le
      go_roundw
      case rel => exact ⟨k - 1, j + 1, q + 1 + 1 + 1, int_pred hk, by omega, hownz2, hrz2, by omega, hbz2⟩
      case measure => simp [intOf]; omega
    · obtain rfl : k = 0 := by omega
      go_wp2_with fail
      refine (pick b b q 16 _ hrr (by omega) (by omega) (by omega)).mono ?_
      rintro e w2 ⟨x2, l2, u2, rfl, hr2, hg2, -⟩
      have hb2 := bgrow hb (by omega) hg2
      have ho2 := Hown.out.kept hg2 (Or.inr (by simp [Value.ownBlock]; omega))
      have hs2 := hg2.size
      have HO2 := Lib.hid ho2
      have hle2 := hr2.le
      clear ho2
      cases hx : (x2 == 0) with
      | false =>
        go_wp2_with fail
        refine (pick b b (q + 1) 24 _ hr2 (by omega) (by omega) (by omega)).mono ?_
        rintro e wa ⟨xa, la, ua, rfl, hra, hga, -⟩
        have hba := bgrow hb2 (by omega) hga
        have hoa := HO2.out.kept hga (Or.inr (by simp [Value.ownBlock]; omega))
        have HOa := Lib.hid hoa
        clear hoa
        have hlea := hra.le
        cases hxa : (xa == 0) with
        | false =>
          go_wp2
          go_ret
          exact ⟨_, j, (q + 1) + 1, by omega, rfl, ⟨zs, hzl, HOa.out, Hzs.out, some_ne⟩, hra, by omega, hba⟩
        | true =>
          go_wp2_with fail
          go_loopw [3] (fun v wr => ∃ j : Nat, j ≤ 9 ∧ lenV v = j ∧ OwnZ (b + 1) wr v j ∧ Rd b wr b ((q + 1) + 1) ∧ Below b w wr) (fun v _ => 10 - lenV v)
          case atStart => exact ⟨j, by omega, rfl, ⟨zs, hzl, HOa.out, Hzs.out, some_ne⟩, hra, hba⟩
          case round =>
            obtain ⟨j, hj9, hjv, ⟨zs, hzl, hown, hzs, hnil⟩, hrr, hb⟩ := hrel
            obtain ⟨g, cp, rfl⟩ := own_form hown hnil
            have hlt := hown.lt g rfl
            have hler := hrr.le
            have Hown := Lib.hid hown
            have Hzs := Lib.hid hzs
            clear hown hzs hjv
            rcases Nat.lt_or_ge 8 j with h8 | h8
            · go_wp2
              go_ret
              exact ⟨_, j, (q + 1) + 1, by omega, rfl, ⟨zs, hzl, Hown.out, Hzs.out, some_ne⟩, hrr, by omega, hb⟩
            · clear hnil
              go_wp2_with (at_builtin; refine wpList_append_lies ?rw ?r1 ?rs ?rx 23 ?r2 (b + 1) 3 i0 (.int .i64 0) 1 8 ?r3 ?r4 ?r5 ?r6 ?r7 ?r8 ?r9 (.slice (some ⟨g, 0, none⟩) j cp) j (zs.map (Value.int .i64)) ?r10 ?rh1 ⟨wr.heap.size, 0, none⟩ 1 1 [.int .i64 1] ?r11 ?r12 ?rh2 ?rh3 ?rc1 ?rc2 ?rc3 ?rc4 (wr.heap.size + 1) ?rc5 ?_; (case r1 => rfl); (case r2 => rfl); (case r10 => rfl); (case r11 => rfl); (case rh1 => exact Hown.out.alloc _); (case r3 => exact Try.underlying23); (case r4 => exact hi); (case r5 => exact hz0); (case r6 => exact hz1); (case r7 => exact hz2); (case r8 => rfl); (case r9 => decide); (case r12 => rfl); (case rh2 => go_must (exact cell_one_new _ _ _)); (case rh3 => go_must (intro u hu; simp at hu; subst hu; rfl)); (case rc1 => decide); (case rc2 => go_must (unfold maxLen; omega)); (case rc3 => go_must (omega)); (case rc4 => go_must (simp only [World.size_alloc]; omega)); (case rc5 => simp only [World.size_alloc]); intro g2 cp2 wz hownZ hgrowZ hatZ hltZ)
              have hrz := rd_alloc hrr (.cells #[.int .i64 1] 3)
              have hbz := hb.alloc (by omega) (.cells #[.int .i64 1] 3)
              have hgb2 : Below b (wr.alloc (.cells #[.int .i64 1] 3)) wz := (Below.refl _ _).grown hgrowZ (by have := hrz.le; omega) (fun q e => by simp [Value.ownBlock] at e; omega)
              have hrz2 := hrz.kept hgb2 (hgrowZ.block _ hrz.le.2 (by simp [Value.ownBlock]; omega))
              have hownz2 : OwnZ (b + 1) wz (.slice (some ⟨g2, 0, none⟩) (j + 1) cp2) (j + 1) := ⟨zs ++ [1], by simp [hzl], by rw [List.map_append]; exact hownZ, ?hzz, some_ne⟩
              case hzz => exact snoc_bd Hzs.out ⟨by omega, by omega⟩
              have hbz2 := hbz.trans hgb2
              have hzz2 := hrz2.le
              go_roundw
              case rel => exact ⟨j + 1, by omega, rfl, hownz2, hrz2, hbz2⟩
              case measure => simp [lenV]; omega
      | true =>
        go_wp2_with fail
        refine (pick b b _ 3 _ (rd_alloc hr2 _) (by omega) (by omega) (by omega)).mono ?_
        rintro e w4 ⟨x4, l4, u4, rfl, hr4, hg4, -⟩
        obtain ⟨i, rfl⟩ := Int.eq_ofNat_of_zero_le l4
        have hi3 : i < 3 := by omega
        have hs4 := hg4.size
        simp only [World.size_alloc] at hs4
        have hb4 : Below b w w4 := bgrow (hb2.alloc (by omega) _) (by simp only [World.size_alloc]; omega) hg4
        have ho4 := (HO2.out.alloc (.cells #[.int .i64 (-1), .int .i64 1000000, .int .i64 1000001] 3)).kept hg4 (Or.inr (by simp [Value.ownBlock]; omega))
        have HO4 := Lib.hid ho4
        obtain ⟨y, y1, y2, c1⟩ := one_of w2.heap.size rfl [-1, 1000000, 1000001] rfl (-1) 1000001 (by intro v hv; simp at hv; omega) i hi3 hg4 (by omega)
        clear ho4
        go_wp2_with (at_builtin; refine wpList_append_lies ?tw ?t1 ?ts ?tx 23 ?t2 (b + 1) 3 i0 (.int .i64 0) 1 8 ?t3 ?t4 ?t5 ?t6 ?t7 ?t8 ?t9 (.slice (some ⟨g, 0, none⟩) j cp) j (zs.map (Value.int .i64)) ?t10 ?th1 ⟨w4.heap.size, 0, none⟩ 1 1 [.int .i64 y] ?t11 ?t12 ?th2 ?th3 ?tc1 ?tc2 ?tc3 ?tc4 (w4.heap.size + 1) ?tc5 ?_; (case t1 => rfl); (case t2 => rfl); (case t10 => rfl); (case t11 => rfl); (case th1 => exact HO4.out.alloc _); (case t3 => exact Try.underlying23); (case t4 => exact hi); (case t5 => exact hz0); (case t6 => exact hz1); (case t7 => exact hz2); (case t8 => rfl); (case t9 => decide); (case t12 => rfl); (case th2 => go_must (exact cell_one_new _ _ _)); (case th3 => go_must (intro u hu; simp at hu; subst hu; rfl)); (case tc1 => decide); (case tc2 => go_must (unfold maxLen; omega)); (case tc3 => go_must (omega)); (case tc4 => go_must (simp only [World.size_alloc]; omega)); (case tc5 => simp only [World.size_alloc]); intro g2 cp2 wz hownZ hgrowZ hatZ hltZ)
        have hrz := rd_alloc hr4 (.cells #[.int .i64 y] 3)
        have hbz := hb4.alloc (by omega) (.cells #[.int .i64 y] 3)
        have hgb2 : Below b (w4.alloc (.cells #[.int .i64 y] 3)) wz := (Below.refl _ _).grown hgrowZ (by have := hrz.le; omega) (fun q e => by simp [Value.ownBlock] at e; omega)
        have hrz2 := hrz.kept hgb2 (hgrowZ.block _ hrz.le.2 (by simp [Value.ownBlock]; omega))
        have hlt2 := hownZ.lt g2 rfl
        have HOz : Hid (wz.ownsRow (b + 1) 3 1 (.slice (some ⟨g2, 0, none⟩) (j + 1) cp2) (j + 1) ((zs ++ [y]).map (Value.int .i64))) := by show World.ownsRow _ _ _ _ _ _ _; rw [List.map_append]; exact hownZ
        have hownz2 : OwnZ (b + 1) wz (.slice (some ⟨g2, 0, none⟩) (j + 1) cp2) (j + 1) := ⟨zs ++ [y], by simp [hzl], by rw [List.map_append]; exact hownZ, ?hzz, some_ne⟩
        case hzz => exact snoc_bd Hzs.out ⟨y1, y2⟩
        have hbz2 := hbz.trans hgb2
        have hzz2 := hrz2.le
        clear hownZ hgrowZ hatZ hownz2
        refine (pick b b (q + 1 + 1) 24 _ hrz2 (by omega) (by omega) (by omega)).mono ?_
        rintro e wa ⟨xa, la, ua, rfl, hra, hga, -⟩
        have hba := bgrow hbz2 (by omega) hga
        have hoa := HOz.out.kept hga (Or.inr (by simp [Value.ownBlock]; omega))
        have HOa := Lib.hid hoa
        clear hoa
        have hlea := hra.le
        cases hxa : (xa == 0) with
        | false =>
          go_wp2
          go_ret
          exact ⟨_, (j + 1), (q + 1 + 1) + 1, by omega, rfl, ⟨(zs ++ [y]), (by simp [hzl]), HOa.out, (snoc_bd Hzs.out ⟨y1, y2⟩), some_ne⟩, hra, by omega, hba⟩
        | true =>
          go_wp2_with fail
          go_loopw [3] (fun v wr => ∃ j : Nat, j ≤ 9 ∧ lenV v = j ∧ OwnZ (b + 1) wr v j ∧ Rd b wr b ((q + 1 + 1) + 1) ∧ Below b w wr) (fun v _ => 10 - lenV v)
          case atStart => exact ⟨(j + 1), by omega, rfl, ⟨(zs ++ [y]), (by simp [hzl]), HOa.out, (snoc_bd Hzs.out ⟨y1, y2⟩), some_ne⟩, hra, hba⟩
          case round =>
            obtain ⟨j, hj9, hjv, ⟨zs, hzl, hown, hzs, hnil⟩, hrr, hb⟩ := hrel
            obtain ⟨g, cp, rfl⟩ := own_form hown hnil
            have hlt := hown.lt g rfl
            have hler := hrr.le
            have Hown := Lib.hid hown
            have Hzs := Lib.hid hzs
            clear hown hzs hjv
            rcases Nat.lt_or_ge 8 j with h8 | h8
            · go_wp2
              go_ret
              exact ⟨_, j, (q + 1 + 1) + 1, by omega, rfl, ⟨zs, hzl, Hown.out, Hzs.out, some_ne⟩, hrr, by omega, hb⟩
            · clear hnil
              go_wp2_with (at_builtin; refine wpList_append_lies ?uw ?u1 ?us ?ux 23 ?u2 (b + 1) 3 i0 (.int .i64 0) 1 8 ?u3 ?u4 ?u5 ?u6 ?u7 ?u8 ?u9 (.slice (some ⟨g, 0, none⟩) j cp) j (zs.map (Value.int .i64)) ?u10 ?uh1 ⟨wr.heap.size, 0, none⟩ 1 1 [.int .i64 1] ?u11 ?u12 ?uh2 ?uh3 ?uc1 ?uc2 ?uc3 ?uc4 (wr.heap.size + 1) ?uc5 ?_; (case u1 => rfl); (case u2 => rfl); (case u10 => rfl); (case u11 => rfl); (case uh1 => exact Hown.out.alloc _); (case u3 => exact Try.underlying23); (case u4 => exact hi); (case u5 => exact hz0); (case u6 => exact hz1); (case u7 => exact hz2); (case u8 => rfl); (case u9 => decide); (case u12 => rfl); (case uh2 => go_must (exact cell_one_new _ _ _)); (case uh3 => go_must (intro u hu; simp at hu; subst hu; rfl)); (case uc1 => decide); (case uc2 => go_must (unfold maxLen; omega)); (case uc3 => go_must (omega)); (case uc4 => go_must (simp only [World.size_alloc]; omega)); (case uc5 => simp only [World.size_alloc]); intro g2 cp2 wz hownZ hgrowZ hatZ hltZ)
              have hrz := rd_alloc hrr (.cells #[.int .i64 1] 3)
              have hbz := hb.alloc (by omega) (.cells #[.int .i64 1] 3)
              have hgb2 : Below b (wr.alloc (.cells #[.int .i64 1] 3)) wz := (Below.refl _ _).grown hgrowZ (by have := hrz.le; omega) (fun q e => by simp [Value.ownBlock] at e; omega)
              have hrz2 := hrz.kept hgb2 (hgrowZ.block _ hrz.le.2 (by simp [Value.ownBlock]; omega))
              have hownz2 : OwnZ (b + 1) wz (.slice (some ⟨g2, 0, none⟩) (j + 1) cp2) (j + 1) := ⟨zs ++ [1], by simp [hzl], by rw [List.map_append]; exact hownZ, ?hzz, some_ne⟩
              case hzz => exact snoc_bd Hzs.out ⟨by omega, by omega⟩
              have hbz2 := hbz.trans hgb2
              have hzz2 := hrz2.le
              go_roundw
              case rel => exact ⟨j + 1, by omega, rfl, hownz2, hrz2, hbz2⟩
              case measure => simp [lenV]; omega
end Go.Proofs.Ytnhniglldkmanaa
