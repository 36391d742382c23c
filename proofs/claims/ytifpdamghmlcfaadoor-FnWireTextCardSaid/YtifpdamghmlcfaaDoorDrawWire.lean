/-
  The words that the laws draw: a list of texts in new memory, few and short.
-/
import Derived.Test.YtifpdamghmlcfaaDoorOf
import Derived.Test.YtifpdamghmlcfaaDoorMany
import Derived.Test.YtifpdamghmlcfaaDoorStrs
import Derived.OwnWalk
import Derived.Deep.DeepMust
import Derived.Maps.AppendAt
namespace Go.Proofs.YtifpdamghmlcfaaDoor
open Go.RowKit
set_option linter.unusedVariables false

theorem infoStrD : (Tryd.prog.info? 9).map (fun i => (i.zero, i.size, i.bytes)) = some (some (.string ⟨#[]⟩), 1, 16) := by kernel_rfl
def wordTexts : List ByteArray := [⟨#[]⟩, ⟨#[97]⟩, ⟨#[49, 58, 120, 44]⟩, ⟨#[116, 119, 111, 32, 119, 111, 114, 100, 115]⟩, ⟨#[44]⟩]
def wordAt (i : Nat) : ByteArray := wordTexts.getD i ByteArray.empty
/-- An owned row of texts, none longer than 6000. -/
def Words (B : Nat) (w : World) (v : Value) (n : Nat) : Prop := ∃ ss : List ByteArray, ss.length = n ∧ w.ownsRow B 9 1 v n (ss.map Value.string) ∧ (∀ s ∈ ss, s.size ≤ 6000) ∧ v ≠ .slice none 0 0

theorem int_pred {k : Nat} (h : 0 < k) : Value.int .i64 ((k : Int) - 1) = .int .i64 ((k - 1 : Nat) : Int) := by
  have : (k : Int) - 1 = ((k - 1 : Nat) : Int) := by omega
  rw [this]
theorem int_add40 (m : Nat) : Value.int .i64 (40 + (m : Int)) = .int .i64 ((40 + m : Nat) : Int) := by
  have : 40 + (m : Int) = ((40 + m : Nat) : Int) := by omega
  rw [this]
def WordsPost (w : World) (e : Ending) (w' : World) : Prop := ∃ (v : Value) (n : Nat), n ≤ 42 ∧ e = .returned v ∧ Words (w.heap.size + 1) w' v n ∧ Below w.heap.size w w'

set_option maxHeartbeats 1000000 in
theorem drawWords (a0 : Option Addr) (len cap : Nat) (z : List Int) (w : World) (w0 : IsRow .u8 w a0 len cap z) :
    Calls Tryd.prog 10 #[.slice a0 len cap] w (WordsPost w) := by
  obtain ⟨i0, hi, hz0, hz1, hz2⟩ := info_parts infoStrD
  go_enter Tryd.func10, Tryd.ntmps10
  go_wp2_with fail
  refine (opened a0 len cap z _ w0).mono ?_
  rintro e w1 ⟨rfl, hr1, hb1, -⟩
  clear w0
  have hown1 : (w1.alloc (.cells #[] 9)).ownsRow (w.heap.size + 1) 9 1 (.slice (some ⟨w1.heap.size, 0, none⟩) 0 0) 0 [] := World.ownsRow_made _ _ _ (by have := hr1.le; omega) (by unfold maxLen; omega) rfl
  have hbB : Below w.heap.size w (w1.alloc (.cells #[] 9)) := hb1.alloc hb1.size _
  have hrA := rd_alloc hr1 (.cells #[] 9)
  have hsz1 := hr1.le.2
  go_wp2_with fail
  refine (pick w.heap.size w.heap.size 0 6 _ hrA (by omega) (by omega) (by omega)).mono ?_
  rintro e w2 ⟨x1, l1, u1, rfl, hr2, hg2, -⟩
  have hb2 : Below w.heap.size w w2 := hbB.grown hg2 hbB.size (fun k e => by cases e; exact Nat.le_refl _)
  have hown2 := hown1.kept hg2 (Or.inr (by simp [Value.ownBlock]; omega))
  go_wp2_with fail
  refine (pick w.heap.size w.heap.size _ 24 _ hr2 (by omega) (by omega) (by omega)).mono ?_
  rintro e w3 ⟨x2, l2, u2, rfl, hr3, hg3, -⟩
  have hb3 : Below w.heap.size w w3 := hb2.grown hg3 hb2.size (fun k e => by cases e; exact Nat.le_refl _)
  have hown3 := hown2.kept hg3 (Or.inr (by simp [Value.ownBlock]; omega))
  obtain ⟨m, rfl⟩ := Int.eq_ofNat_of_zero_le l1
  cases hx : (x2 == 0) with
  | true =>
    go_wp2_with fail
    refine (pick w.heap.size w.heap.size _ 2 _ hr3 (by omega) (by omega) (by omega)).mono ?_
    rintro e w4 ⟨x3, l3, u3, rfl, hr4, hg4, -⟩
    have hb4 : Below w.heap.size w w4 := hb3.grown hg4 hb3.size (fun k e => by cases e; exact Nat.le_refl _)
    have hown4 := hown3.kept hg4 (Or.inr (by simp [Value.ownBlock]; omega))
    obtain ⟨m3, rfl⟩ := Int.eq_ofNat_of_zero_le l3
    go_wp2_with fail
    go_loopw [4, 5] (fun v n wr => ∃ (k j p : Nat), n = .int .i64 k ∧ k + j ≤ 41 ∧ Words (w.heap.size + 1) wr v j ∧ Rd w.heap.size wr w.heap.size p ∧ p + k ≤ 50 ∧ Below w.heap.size w wr) (fun _ n _ => (intOf n).toNat)
    case atStart => exact ⟨40 + m3, 0, _, int_add40 m3, by omega, ⟨[], rfl, hown4, by simp, by simp⟩, hr4, by omega, hb4⟩
    case round =>
      obtain ⟨k, j, p, rfl, hkj, ⟨ss, rfl, hown, hss, hnil⟩, hr, hpk, hb⟩ := hrel
      have Hss := Lib.hid hss
      have Hown := Lib.hid hown
      have Hnil := Lib.hid hnil
      clear hss hown hnil
      rcases Nat.lt_or_ge 0 k with hk | hk
      · go_wp2_with fail
        have hrle := hr.le
        refine (pickOf w.heap.size w.heap.size p 5 _ 5 wordAt _ (rd_alloc hr _) (by omega) (by omega) (by omega) (fun i hi => lits_at _ _ rfl wordTexts rfl i hi) (by omega)).mono ?_
        rintro e w5 ⟨i, hi5, rfl, hr5, hg5, -⟩
        have hts : (wordAt i).size ≤ 6000 := by
          have : ∀ i, i < 5 → (wordAt i).size ≤ 6000 := by decide
          exact this i hi5
        generalize wordAt i = tx at *
        have hbA : Below w.heap.size w (wr.alloc (.cells #[.string ⟨#[]⟩, .string ⟨#[97]⟩, .string ⟨#[49, 58, 120, 44]⟩, .string ⟨#[116, 119, 111, 32, 119, 111, 114, 100, 115]⟩, .string ⟨#[44]⟩] 9)) := hb.alloc hb.size _
        have hb5 : Below w.heap.size w w5 := hbA.grown hg5 hbA.size (fun k e => by cases e; exact Nat.le_refl _)
        have hv1 := (Hown.out.alloc (.cells #[.string ⟨#[]⟩, .string ⟨#[97]⟩, .string ⟨#[49, 58, 120, 44]⟩, .string ⟨#[116, 119, 111, 32, 119, 111, 114, 100, 115]⟩, .string ⟨#[44]⟩] 9)).lt
        have hown5 := (Hown.out.alloc (.cells #[.string ⟨#[]⟩, .string ⟨#[97]⟩, .string ⟨#[49, 58, 120, 44]⟩, .string ⟨#[116, 119, 111, 32, 119, 111, 114, 100, 115]⟩, .string ⟨#[44]⟩] 9)).kept hg5 (Or.inr (fun e => by have := (hv1 _ e).1; omega))
        have HO := Lib.hid hown5
        have HV := Lib.hid hv1
        have HG := Lib.hid hg5
        clear hown5 hv1 hg5
        have hz5 := hb5.size
        go_wp2_with (at_builtin; go_must (refine wpList_append_own _ rfl _ _ 24 rfl (w.heap.size + 1) 9 i0 (.string ⟨#[]⟩) 1 16 Tryd.underlying24 hi hz0 hz1 hz2 rfl (by decide) _ _ _ rfl (HO.out.alloc _) ⟨w5.heap.size, 0, none⟩ 1 1 [.string tx] rfl rfl ?c1 ?c2 ?c3 ?c4 ?c5 ?_); (case c1 => go_must (exact cell_one_new _ _ _)); (case c2 => go_must (intro u hu; simp at hu; subst hu; rfl)); (case c3 => go_must (unfold maxLen; omega)); (case c4 => go_must (omega)); (case c5 => go_must (simp only [World.size_alloc]; omega)); intro v' w6 hown6 hgrow6 hnil6)
        go_roundw
        case rel =>
          have hbA6 : Below w.heap.size w (w5.alloc (.cells #[.string tx] 9)) := hb5.alloc hz5 _
          have hr6 := rd_alloc hr5 (.cells #[.string tx] 9)
          have hbs : Below w.heap.size (w5.alloc (.cells #[.string tx] 9)) w6 := (Below.refl _ _).grown hgrow6 (by have := hr6.le; omega) (fun q e => by have := (HV.out q e).1; omega)
          refine ⟨k - 1, ss.length + 1, p + 1, int_pred hk, by omega, ⟨ss ++ [tx], by simp, by rw [List.map_append]; exact hown6, ?_, fun e => by have := hnil6.1 e; omega⟩, hr6.kept hbs (hgrow6.block _ hr6.le.2 (fun e => by have := (HV.out _ e.symm).1; omega)), by omega, hbA6.trans hbs⟩
          intro s hs
          rcases List.mem_append.1 hs with h | h
          · exact Hss.out s h
          · simp at h; subst h; exact hts
        case measure => simp [intOf]; omega
      · obtain rfl : k = 0 := by omega
        have hrle := hr.le
        go_wp2_with fail
        refine (pick w.heap.size w.heap.size p 24 _ hr (by omega) (by omega) (by omega)).mono ?_
        rintro e w5 ⟨y1, m1, v1, rfl, hr5, hg5, -⟩
        have hb5 : Below w.heap.size w w5 := hb.grown hg5 hb.size (fun k e => by cases e; exact Nat.le_refl _)
        have hlt := Hown.out.lt
        have hown5 := Hown.out.kept hg5 (Or.inr (fun e => by have := (hlt _ e).1; omega))
        have HO5 := Lib.hid hown5
        have HV := Lib.hid hlt
        clear hlt hown5
        cases hy : (y1 == 0) with
        | false =>
          go_wp2
          go_ret
          exact ⟨_, ss.length, by omega, rfl, ⟨ss, rfl, HO5.out, Hss.out, Hnil.out⟩, hb5⟩
        | true =>
          go_wp2_with fail
          refine (pick w.heap.size w.heap.size _ 9 _ hr5 (by omega) (by omega) (by omega)).mono ?_
          rintro e w7 ⟨y2, m2, v2, rfl, hr7, hg7, -⟩
          obtain ⟨q, rfl⟩ := Int.eq_ofNat_of_zero_le m2
          have hb7 : Below w.heap.size w w7 := hb5.grown hg7 hb5.size (fun k e => by cases e; exact Nat.le_refl _)
          have hown7 := HO5.out.kept hg7 (Or.inr (fun e => by have := (HV.out _ e).1; omega))
          have HO := Lib.hid hown7
          clear hown7
          go_wp2_with fail
          rw [show (6000 - (q : Int)) = ((6000 - q : Nat) : Int) from by omega]
          refine (manyS ⟨#[116]⟩ (6000 - q) 6000 _ (by have e : (⟨#[116]⟩ : ByteArray).size = 1 := rfl; rw [e]; omega) (by omega) (by have e : (⟨#[116]⟩ : ByteArray).size = 1 := rfl; rw [e]; omega) (by omega)).mono ?_
          rintro e w' ⟨tx, hts, rfl, rfl⟩
          have hz7 := hb7.size
          have hr7le := hr7.le
          go_wp2_with (at_builtin; go_must (refine wpList_append_own _ rfl _ _ 24 rfl (w.heap.size + 1) 9 i0 (.string ⟨#[]⟩) 1 16 Tryd.underlying24 hi hz0 hz1 hz2 rfl (by decide) _ _ _ rfl (HO.out.alloc _) ⟨w7.heap.size, 0, none⟩ 1 1 [.string tx] rfl rfl ?c1 ?c2 ?c3 ?c4 ?c5 ?_); (case c1 => go_must (exact cell_one_new _ _ _)); (case c2 => go_must (intro u hu; simp at hu; subst hu; rfl)); (case c3 => go_must (unfold maxLen; omega)); (case c4 => go_must (omega)); (case c5 => go_must (simp only [World.size_alloc]; omega)); intro v' w8 hown6 hgrow6 hnil6)
          go_ret
          have hbA8 : Below w.heap.size w (w7.alloc (.cells #[.string tx] 9)) := hb7.alloc hz7 _
          have hbs : Below w.heap.size (w7.alloc (.cells #[.string tx] 9)) w8 := (Below.refl _ _).grown hgrow6 (by simp only [World.size_alloc]; omega) (fun q e => by have := (HV.out q e).1; omega)
          refine ⟨_, ss.length + 1, by omega, rfl, ⟨ss ++ [tx], by simp, by rw [List.map_append]; exact hown6, ?_, fun e => by have := hnil6.1 e; omega⟩, hbA8.trans hbs⟩
          intro s hs
          rcases List.mem_append.1 hs with h | h
          · exact Hss.out s h
          · simp at h; subst h; exact hts
  | false =>
    go_wp2_with fail
    go_loopw [4, 5] (fun v n wr => ∃ (k j p : Nat), n = .int .i64 k ∧ k + j ≤ 41 ∧ Words (w.heap.size + 1) wr v j ∧ Rd w.heap.size wr w.heap.size p ∧ p + k ≤ 50 ∧ Below w.heap.size w wr) (fun _ n _ => (intOf n).toNat)
    case atStart => exact ⟨m, 0, _, rfl, by omega, ⟨[], rfl, hown3, by simp, by simp⟩, hr3, by omega, hb3⟩
    case round =>
      obtain ⟨k, j, p, rfl, hkj, ⟨ss, rfl, hown, hss, hnil⟩, hr, hpk, hb⟩ := hrel
      have Hss := Lib.hid hss
      have Hown := Lib.hid hown
      have Hnil := Lib.hid hnil
      clear hss hown hnil
      rcases Nat.lt_or_ge 0 k with hk | hk
      · go_wp2_with fail
        have hrle := hr.le
        refine (pickOf w.heap.size w.heap.size p 5 _ 5 wordAt _ (rd_alloc hr _) (by omega) (by omega) (by omega) (fun i hi => lits_at _ _ rfl wordTexts rfl i hi) (by omega)).mono ?_
        rintro e w5 ⟨i, hi5, rfl, hr5, hg5, -⟩
        have hts : (wordAt i).size ≤ 6000 := by
          have : ∀ i, i < 5 → (wordAt i).size ≤ 6000 := by decide
          exact this i hi5
        generalize wordAt i = tx at *
        have hbA : Below w.heap.size w (wr.alloc (.cells #[.string ⟨#[]⟩, .string ⟨#[97]⟩, .string ⟨#[49, 58, 120, 44]⟩, .string ⟨#[116, 119, 111, 32, 119, 111, 114, 100, 115]⟩, .string ⟨#[44]⟩] 9)) := hb.alloc hb.size _
        have hb5 : Below w.heap.size w w5 := hbA.grown hg5 hbA.size (fun k e => by cases e; exact Nat.le_refl _)
        have hv1 := (Hown.out.alloc (.cells #[.string ⟨#[]⟩, .string ⟨#[97]⟩, .string ⟨#[49, 58, 120, 44]⟩, .string ⟨#[116, 119, 111, 32, 119, 111, 114, 100, 115]⟩, .string ⟨#[44]⟩] 9)).lt
        have hown5 := (Hown.out.alloc (.cells #[.string ⟨#[]⟩, .string ⟨#[97]⟩, .string ⟨#[49, 58, 120, 44]⟩, .string ⟨#[116, 119, 111, 32, 119, 111, 114, 100, 115]⟩, .string ⟨#[44]⟩] 9)).kept hg5 (Or.inr (fun e => by have := (hv1 _ e).1; omega))
        have HO := Lib.hid hown5
        have HV := Lib.hid hv1
        have HG := Lib.hid hg5
        clear hown5 hv1 hg5
        have hz5 := hb5.size
        go_wp2_with (at_builtin; go_must (refine wpList_append_own _ rfl _ _ 24 rfl (w.heap.size + 1) 9 i0 (.string ⟨#[]⟩) 1 16 Tryd.underlying24 hi hz0 hz1 hz2 rfl (by decide) _ _ _ rfl (HO.out.alloc _) ⟨w5.heap.size, 0, none⟩ 1 1 [.string tx] rfl rfl ?c1 ?c2 ?c3 ?c4 ?c5 ?_); (case c1 => go_must (exact cell_one_new _ _ _)); (case c2 => go_must (intro u hu; simp at hu; subst hu; rfl)); (case c3 => go_must (unfold maxLen; omega)); (case c4 => go_must (omega)); (case c5 => go_must (simp only [World.size_alloc]; omega)); intro v' w6 hown6 hgrow6 hnil6)
        go_roundw
        case rel =>
          have hbA6 : Below w.heap.size w (w5.alloc (.cells #[.string tx] 9)) := hb5.alloc hz5 _
          have hr6 := rd_alloc hr5 (.cells #[.string tx] 9)
          have hbs : Below w.heap.size (w5.alloc (.cells #[.string tx] 9)) w6 := (Below.refl _ _).grown hgrow6 (by have := hr6.le; omega) (fun q e => by have := (HV.out q e).1; omega)
          refine ⟨k - 1, ss.length + 1, p + 1, int_pred hk, by omega, ⟨ss ++ [tx], by simp, by rw [List.map_append]; exact hown6, ?_, fun e => by have := hnil6.1 e; omega⟩, hr6.kept hbs (hgrow6.block _ hr6.le.2 (fun e => by have := (HV.out _ e.symm).1; omega)), by omega, hbA6.trans hbs⟩
          intro s hs
          rcases List.mem_append.1 hs with h | h
          · exact Hss.out s h
          · simp at h; subst h; exact hts
        case measure => simp [intOf]; omega
      · obtain rfl : k = 0 := by omega
        have hrle := hr.le
        go_wp2_with fail
        refine (pick w.heap.size w.heap.size p 24 _ hr (by omega) (by omega) (by omega)).mono ?_
        rintro e w5 ⟨y1, m1, v1, rfl, hr5, hg5, -⟩
        have hb5 : Below w.heap.size w w5 := hb.grown hg5 hb.size (fun k e => by cases e; exact Nat.le_refl _)
        have hlt := Hown.out.lt
        have hown5 := Hown.out.kept hg5 (Or.inr (fun e => by have := (hlt _ e).1; omega))
        have HO5 := Lib.hid hown5
        have HV := Lib.hid hlt
        clear hlt hown5
        cases hy : (y1 == 0) with
        | false =>
          go_wp2
          go_ret
          exact ⟨_, ss.length, by omega, rfl, ⟨ss, rfl, HO5.out, Hss.out, Hnil.out⟩, hb5⟩
        | true =>
          go_wp2_with fail
          refine (pick w.heap.size w.heap.size _ 9 _ hr5 (by omega) (by omega) (by omega)).mono ?_
          rintro e w7 ⟨y2, m2, v2, rfl, hr7, hg7, -⟩
          obtain ⟨q, rfl⟩ := Int.eq_ofNat_of_zero_le m2
          have hb7 : Below w.heap.size w w7 := hb5.grown hg7 hb5.size (fun k e => by cases e; exact Nat.le_refl _)
          have hown7 := HO5.out.kept hg7 (Or.inr (fun e => by have := (HV.out _ e).1; omega))
          have HO := Lib.hid hown7
          clear hown7
          go_wp2_with fail
          rw [show (6000 - (q : Int)) = ((6000 - q : Nat) : Int) from by omega]
          refine (manyS ⟨#[116]⟩ (6000 - q) 6000 _ (by have e : (⟨#[116]⟩ : ByteArray).size = 1 := rfl; rw [e]; omega) (by omega) (by have e : (⟨#[116]⟩ : ByteArray).size = 1 := rfl; rw [e]; omega) (by omega)).mono ?_
          rintro e w' ⟨tx, hts, rfl, rfl⟩
          have hz7 := hb7.size
          have hr7le := hr7.le
          go_wp2_with (at_builtin; go_must (refine wpList_append_own _ rfl _ _ 24 rfl (w.heap.size + 1) 9 i0 (.string ⟨#[]⟩) 1 16 Tryd.underlying24 hi hz0 hz1 hz2 rfl (by decide) _ _ _ rfl (HO.out.alloc _) ⟨w7.heap.size, 0, none⟩ 1 1 [.string tx] rfl rfl ?c1 ?c2 ?c3 ?c4 ?c5 ?_); (case c1 => go_must (exact cell_one_new _ _ _)); (case c2 => go_must (intro u hu; simp at hu; subst hu; rfl)); (case c3 => go_must (unfold maxLen; omega)); (case c4 => go_must (omega)); (case c5 => go_must (simp only [World.size_alloc]; omega)); intro v' w8 hown6 hgrow6 hnil6)
          go_ret
          have hbA8 : Below w.heap.size w (w7.alloc (.cells #[.string tx] 9)) := hb7.alloc hz7 _
          have hbs : Below w.heap.size (w7.alloc (.cells #[.string tx] 9)) w8 := (Below.refl _ _).grown hgrow6 (by simp only [World.size_alloc]; omega) (fun q e => by have := (HV.out q e).1; omega)
          refine ⟨_, ss.length + 1, by omega, rfl, ⟨ss ++ [tx], by simp, by rw [List.map_append]; exact hown6, ?_, fun e => by have := hnil6.1 e; omega⟩, hbA8.trans hbs⟩
          intro s hs
          rcases List.mem_append.1 hs with h | h
          · exact Hss.out s h
          · simp at h; subst h; exact hts
end Go.Proofs.YtifpdamghmlcfaaDoor
