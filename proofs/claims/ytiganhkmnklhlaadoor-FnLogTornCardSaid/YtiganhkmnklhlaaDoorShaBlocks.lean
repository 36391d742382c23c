/-
  Blocks put into a sum one behind the other, by the program.
-/
import Derived.Test.YtiganhkmnklhlaaDoorShaBlock
import Derived.Lib.Strings
namespace Go.Proofs.YtiganhkmnklhlaaDoor
open Go.RowKit
set_option linter.unusedVariables false

def blocksTo (st : S8) (t : List UInt8) : Nat → S8
  | 0 => st
  | k + 1 => blockS (blocksTo st t k) ((t.drop (64 * k)).take 64)
theorem laidK_grown {w w' : World} {b : Nat} (h : LaidK w) (hg : w.grownBy w' (some b)) (hb : ∀ t fr, w.heap[b]? ≠ some (.cells kArr t fr)) : LaidK w' := by
  obtain ⟨t, fr, hh⟩ := var_heap gRounds h
  have hlt : 3 < w.heap.size := (Array.getElem?_eq_some_iff.1 hh).1
  have hne : ¬ 3 = b := fun e => hb t fr (by rw [← e]; exact hh)
  have he := hg.block 3 hlt (fun e => hne (by cases e; rfl))
  unfold LaidK Lib.TabIs World.var? at h ⊢
  rw [gRounds] at h ⊢
  simp only [Option.bind_some] at h ⊢
  rw [he]; exact h
theorem arr_ne (s : S8) : s.arr ≠ kArr := by
  intro h
  have := congrArg Array.size h
  simp [S8.arr, kArr, kTab] at this

def BlocksPost (hb : Nat) (r : S8) (w : World) (e : Ending) (w' : World) : Prop := (∃ v, e = .returned v) ∧ w'.heap[hb]? = some (.cells r.arr 79 (0, 0)) ∧ w.grownBy w' (some hb) ∧ LaidK w'

set_option maxRecDepth 100000 in
set_option maxHeartbeats 4000000 in
theorem addBlocksS (hb : Nat) (st : S8) (t : ByteArray) (n : Nat) (w : World) (hs : t.size = 64 * n) (hn : n ≤ 100000) (hK : LaidK w) (hrow : w.heap[hb]? = some (.cells st.arr 79 (0, 0))) :
    Calls Tryd.prog 46 #[.pointer (some ⟨hb, 0, none⟩), .string t] w (BlocksPost hb (blocksTo st t.data.toList n) w) := by
  go_enter Tryd.func46, Tryd.ntmps46
  go_wp2_with fail
  go_loopw [4] (fun i wr => ∃ k : Nat, i = .int .i64 ((64 * k : Nat) : Int) ∧ k ≤ n ∧ wr.heap[hb]? = some (.cells (blocksTo st t.data.toList k).arr 79 (0, 0)) ∧ w.grownBy wr (some hb) ∧ LaidK wr) (fun i _ => 64 * n - (intOf i).toNat)
  case atStart => exact ⟨0, rfl, by omega, hrow, grownN w 0 _, hK⟩
  case round =>
    clear hrow hK
    obtain ⟨k, rfl, hk, hrow, hg, hK⟩ := hrel
    obtain ⟨m, hm⟩ : ∃ m : Nat, m = 64 * k := ⟨_, rfl⟩
    rw [← hm]
    obtain ⟨m2, hm2⟩ : ∃ m2 : Nat, m2 = m + 64 := ⟨_, rfl⟩
    rcases Nat.lt_or_ge k n with hlt | hge
    · have i1 : (m : Int) < (t.size : Int) := by omega
      have i2 : (m2 : Int) ≤ (t.size : Int) := by omega
      have i3 : (m : Int) ≤ (m2 : Int) := by omega
      have q1 : IntKind.i64.wrap ((m : Int) + 64) = (m2 : Int) := by rw [IntWalk.i64_in _ (by omega)]; omega
      have hz : (t.extract m m2).size = 64 := by rw [ByteArray.size_extract]; omega
      have hx : (t.extract m m2).data.toList = (t.data.toList.drop (64 * k)).take 64 := by
        rw [Lib.extract_data, hm]; congr 1; omega
      have Hz := Lib.hid hz
      have Hx := Lib.hid hx
      have Hm := Lib.hid (And.intro hm hm2)
      have HR := Lib.hid hrow
      have HK := Lib.hid hK
      clear hz hx hm hm2 hs hrow hK
      go_wp2_with fail
      refine (addBlockS hb (blocksTo st t.data.toList k) (t.extract m m2) _ Hz.out HK.out HR.out).mono ?_
      rintro e w2 ⟨⟨v, rfl⟩, h2, hg2⟩
      have hK2 : LaidK w2 := laidK_grown HK.out hg2 (fun t fr e => by
        rw [HR.out] at e
        have := Option.some.inj e
        injection this with e1
        exact arr_ne _ e1)
      rw [Hx.out] at h2
      have H2 := Lib.hid h2
      clear h2
      go_wp2
      go_roundw
      case rel => exact ⟨k + 1, by rw [show ((64 * (k + 1) : Nat) : Int) = (m2 : Int) from by have := Hm.out; omega], by omega, H2.out, grown_trans hg hg2, hK2⟩
      case measure => simp [intOf]; have := Hm.out; omega
    · obtain rfl : k = n := by omega
      have i1 : ¬ (m : Int) < (t.size : Int) := by omega
      go_wp2
      refine bodyPost_end (results_none rfl _ _ _) rfl ?_
      exact ⟨⟨_, rfl⟩, hrow, hg, hK⟩

theorem blocks_app (st : S8) (a b : List UInt8) (n : Nat) (ha : a.length = 64 * n) : ∀ m, 64 * m ≤ b.length → blocksTo st (a ++ b) (n + m) = blocksTo (blocksTo st a n) b m
  | 0, _ => by
    have key : ∀ k, k ≤ n → blocksTo st (a ++ b) k = blocksTo st a k := by
      intro k
      induction k with
      | zero => intro _; rfl
      | succ k ih =>
        intro hk
        rw [blocksTo, blocksTo, ih (by omega), List.drop_append_of_le_length (by omega), List.take_append_of_le_length (by simp; omega)]
    exact key n (Nat.le_refl _)
  | m + 1, h => by
    rw [← Nat.add_assoc, blocksTo, blocksTo, blocks_app st a b n ha m (by omega)]
    congr 2
    rw [show 64 * (n + m) = a.length + 64 * m from by omega, List.drop_append]
    simp
end Go.Proofs.YtiganhkmnklhlaaDoor
