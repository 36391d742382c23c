/-
  Lists of ints in memory: a copy, sameness, and the marks that the exact laws write into a result.
-/
import Derived.Test.YtdaccpffdnbkiaaGreatDoorJ1
import Derived.OwnWalk
import Derived.IntWalk
namespace Go.Proofs.YtdaccpffdnbkiaaGreatDoor
open Go.RowKit
set_option linter.unusedVariables false

/-- The slice (a, len) reads as the ints z. -/
def Nums (w : World) (a : Option Addr) (len : Nat) (z : Nat → Int) : Prop :=
  len = 0 ∨ ∃ b off, a = some ⟨b, off, none⟩ ∧ b < w.heap.size ∧ ∀ i, i < len → w.cell? ⟨b, off + i, none⟩ = some (.int .i64 (z i))
theorem Nums.kept {w w' : World} {a : Option Addr} {len : Nat} {z : Nat → Int} (h : Nums w a len z) (hb : Below w.heap.size w w') : Nums w' a len z := by
  rcases h with h | ⟨b, off, h2, h3, h4⟩
  · exact Or.inl h
  · exact Or.inr ⟨b, off, h2, Nat.lt_of_lt_of_le h3 hb.size, fun i hi => (hb.cell (p := ⟨b, off + i, none⟩) h3).trans (h4 i hi)⟩
/-- .. of a block of its own, which may be written. -/
def NumsW (B : Nat) (w : World) (a : Option Addr) (len : Nat) (z : Nat → Int) : Prop :=
  len = 0 ∨ ∃ g, a = some ⟨g, 0, none⟩ ∧ B ≤ g ∧ g < w.heap.size ∧ ∀ i, i < len → w.cell? ⟨g, i, none⟩ = some (.int .i64 (z i)) ∧ w.frozen? ⟨g, i, none⟩ = false
theorem NumsW.kept {B : Nat} {w w' : World} {a : Option Addr} {len : Nat} {z : Nat → Int} (h : NumsW B w a len z) (hb : Below w.heap.size w w') : NumsW B w' a len z := by
  rcases h with h | ⟨g, h1, h2, h3, h4⟩
  · exact Or.inl h
  · exact Or.inr ⟨g, h1, h2, Nat.lt_of_lt_of_le h3 hb.size, fun i hi => ⟨(hb.cell (p := ⟨g, i, none⟩) h3).trans (h4 i hi).1, (hb.frozen (p := ⟨g, i, none⟩) h3).trans (h4 i hi).2⟩⟩
theorem NumsW.nums {B : Nat} {w : World} {a : Option Addr} {len : Nat} {z : Nat → Int} (h : NumsW B w a len z) : Nums w a len z := by
  rcases h with h | ⟨g, h1, h2, h3, h4⟩
  · exact Or.inl h
  · exact Or.inr ⟨g, 0, h1, h3, fun i hi => by rw [Nat.zero_add]; exact (h4 i hi).1⟩
theorem NumsW.mono {B B' : Nat} {w : World} {a : Option Addr} {len : Nat} {z : Nat → Int} (h : NumsW B w a len z) (hB : B' ≤ B) : NumsW B' w a len z := by
  rcases h with h | ⟨g, h1, h2, h3, h4⟩
  · exact Or.inl h
  · exact Or.inr ⟨g, h1, Nat.le_trans hB h2, h3, h4⟩

theorem infoInt : (Tryz.prog.info? 3).map (fun i => (i.zero, i.size, i.bytes)) = some (some (.int .i64 0), 1, 8) := by kernel_rfl

def CopyN (len : Nat) (z : Nat → Int) (w : World) (e : Ending) (w' : World) : Prop :=
  ∃ a : Option Addr, e = .returned (.slice a len len) ∧ NumsW w.heap.size w' a len z ∧ Below w.heap.size w w'

set_option maxHeartbeats 1000000 in
theorem eqInts (a a' : Option Addr) (len cap cap' : Nat) (z : Nat → Int) (w : World) (h : Nums w a len z) (h' : Nums w a' len z) (hl : len ≤ 1048576) :
    Calls Tryz.prog 23 #[.slice a len cap, .slice a' len cap'] w fun e w' => e = .returned (.bool true) ∧ Drew w w' := by
  go_enter Tryz.func23, Tryz.ntmps23
  go_wp2_with fail
  go_loopw [5] (fun i wr => ∃ k : Nat, k ≤ len ∧ i = .int .i64 k ∧ ∃ q, wr = w.drewN q) (fun i _ => len - (intOf i).toNat)
  case atStart => exact ⟨0, Nat.zero_le _, rfl, 0, rfl⟩
  case round =>
    obtain ⟨k, hk, rfl, q, rfl⟩ := hrel
    rcases Nat.lt_or_ge k len with hlt | hge
    · rcases h with hc | ⟨b, off, rfl, hbl, hcell⟩
      · omega
      rcases h' with hc' | ⟨b', off', rfl, hbl', hcell'⟩
      · omega
      have c1 := hcell k hlt
      have c2 := hcell' k hlt
      clear hcell hcell'
      generalize z k = s at *
      have k1 : (k : Int) < len := by omega
      have k0 : (0 : Int) ≤ k := by omega
      go_wp2_with fail
      go_quiet (fail)
      go_wp2
      go_roundw
      case rel => exact ⟨k + 1, by omega, by go_num, _, rfl⟩
      case measure => simp [intOf]; omega
    · obtain rfl : k = len := by omega
      go_wp2
      go_ret
      exact ⟨rfl, q, rfl⟩

def MarkN (a : Option Addr) (len : Nat) (k0 : Int) (w : World) (e : Ending) (w' : World) : Prop :=
  e = .returned (.int .i64 (k0 + len)) ∧ (len = 0 ∧ w' = w ∨ ∃ g, a = some ⟨g, 0, none⟩ ∧ w.grownBy w' (some g) ∧ w'.heap.size = w.heap.size ∧ ∀ i, i < len → w'.cell? ⟨g, i, none⟩ = some (.int .i64 (k0 + i)))

set_option maxHeartbeats 1000000 in
theorem markInts (B : Nat) (a : Option Addr) (len cap : Nat) (z : Nat → Int) (k0 : Int) (w : World) (h : NumsW B w a len z) (hl : len ≤ 1048576) (h0 : 0 ≤ k0) (h1 : k0 ≤ 1048576) :
    Calls Tryz.prog 25 #[.slice a len cap, .int .i64 k0] w (MarkN a len k0 w) := by
  rcases h with h | ⟨g, rfl, hB, hg, hc⟩
  · have hle : len ≤ 0 := by omega
    have hpost : MarkN a len k0 w (.returned (.int .i64 k0)) w := ⟨by rw [h]; simp, Or.inl ⟨h, rfl⟩⟩
    have HP := Lib.hid hpost
    clear h hpost
    go_enter Tryz.func25, Tryz.ntmps25
    go_wp2_with fail
    go_loopw [5, 1] (fun i v wr => i = .int .i64 0 ∧ v = .int .i64 k0 ∧ wr = w) (fun i _ _ => 0)
    case atStart => exact ⟨rfl, rfl, rfl⟩
    case round =>
      obtain ⟨rfl, rfl, rfl⟩ := hrel
      go_wp2
      go_ret
      exact HP.out
  · have Hc := Lib.hid hc
    clear hc
    go_enter Tryz.func25, Tryz.ntmps25
    go_wp2_with fail
    go_loopw [5, 1] (fun i v wr => ∃ k : Nat, k ≤ len ∧ i = .int .i64 k ∧ v = .int .i64 (k0 + k) ∧ w.grownBy wr (some g) ∧ wr.heap.size = w.heap.size ∧ Hid (∀ i, i < len → (∃ u, wr.cell? ⟨g, i, none⟩ = some u) ∧ wr.frozen? ⟨g, i, none⟩ = false) ∧ Hid (∀ i, i < k → wr.cell? ⟨g, i, none⟩ = some (.int .i64 (k0 + i)))) (fun i _ _ => len - (intOf i).toNat)
    case atStart => exact ⟨0, Nat.zero_le _, rfl, by go_num, grownN w 0 _, rfl, fun i hi => ⟨⟨_, (Hc.out i hi).1⟩, (Hc.out i hi).2⟩, fun i hi => by omega⟩
    case round =>
      obtain ⟨k, hk, rfl, rfl, hgr, hsz, hf, hm⟩ := hrel
      rcases Nat.lt_or_ge k len with hlt | hge
      · obtain ⟨⟨u, c1⟩, f1⟩ := hf.out k hlt
        go_wp2
        go_roundw
        case rel =>
          refine ⟨k + 1, by omega, by go_num, by go_num, grown_trans hgr (grown_set wr ⟨g, k, none⟩ _), by simpa using hsz, fun i hi => ?_, fun i hi => ?_⟩
          · obtain ⟨⟨u', c'⟩, f'⟩ := hf.out i hi
            refine ⟨?_, by simpa [go_sem] using f'⟩
            by_cases e : i = k
            · subst e; exact ⟨.int .i64 (k0 + i), by simp [go_sem, c1]⟩
            · exact ⟨u', by simp [go_sem, c']; try omega⟩
          · by_cases e : i = k
            · subst e; simp [go_sem, c1]
            · have := hm.out i (by omega)
              simp [go_sem, this]; try omega
        case measure => simp [intOf]; omega
      · obtain rfl : k = len := by omega
        go_wp2
        go_ret
        exact ⟨rfl, Or.inr ⟨g, rfl, hgr, hsz, hm.out⟩⟩

set_option maxHeartbeats 1000000 in
theorem heldInts (a : Option Addr) (len cap : Nat) (k0 : Int) (w : World) (h : Nums w a len (fun i => k0 + i)) (hl : len ≤ 1048576) (h0 : 0 ≤ k0) (h1 : k0 ≤ 1048576) :
    Calls Tryz.prog 27 #[.slice a len cap, .int .i64 k0] w fun e w' => e = .returned (.int .i64 (k0 + len)) ∧ Drew w w' := by
  go_enter Tryz.func27, Tryz.ntmps27
  go_wp2_with fail
  go_loopw [5, 1] (fun i v wr => ∃ k : Nat, k ≤ len ∧ i = .int .i64 k ∧ v = .int .i64 (k0 + k) ∧ ∃ q, wr = w.drewN q) (fun i _ _ => len - (intOf i).toNat)
  case atStart => exact ⟨0, Nat.zero_le _, rfl, by go_num, 0, rfl⟩
  case round =>
    obtain ⟨k, hk, rfl, rfl, q, rfl⟩ := hrel
    rcases Nat.lt_or_ge k len with hlt | hge
    · rcases h with hc | ⟨b, off, rfl, hbl, hcell⟩
      · omega
      have c1 : w.cell? ⟨b, off + k, none⟩ = some (.int .i64 (k0 + k)) := hcell k hlt
      clear hcell
      have k1 : (k : Int) < len := by omega
      have k0' : (0 : Int) ≤ k := by omega
      go_wp2
      go_roundw
      case rel => exact ⟨k + 1, by omega, by go_num, by go_num, q, rfl⟩
      case measure => simp [intOf]; omega
    · obtain rfl : k = len := by omega
      go_wp2
      go_ret
      exact ⟨rfl, q, rfl⟩
end Go.Proofs.YtdaccpffdnbkiaaGreatDoor
