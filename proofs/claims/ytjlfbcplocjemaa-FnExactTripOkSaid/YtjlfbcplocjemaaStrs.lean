/-
  Lists of texts in memory: their sizes together, a copy of them, and whether two are the same.
-/
import Derived.Test.YtjlfbcplocjemaaBase
namespace Go.Proofs.Ytjlfbcplocjemaa
open Go.RowKit
set_option linter.unusedVariables false

/-- The slice (a, len) reads as the texts ss. -/
def Strs (w : World) (a : Option Addr) (len : Nat) (ss : List ByteArray) : Prop :=
  ss.length = len ∧ (len = 0 ∨ ∃ b off, a = some ⟨b, off, none⟩ ∧ b < w.heap.size ∧ ∀ i, i < len → w.cell? ⟨b, off + i, none⟩ = some (.string (ss.getD i ByteArray.empty)))
def total : List ByteArray → Nat
  | [] => 0
  | s :: r => s.size + total r
theorem total_snoc (l : List ByteArray) (s : ByteArray) : total (l ++ [s]) = total l + s.size := by
  induction l with
  | nil => simp [total]
  | cons x r ih => simp only [List.cons_append, total, ih]; omega
theorem total_take_le (l : List ByteArray) (k : Nat) : total (l.take k) ≤ total l := by
  induction l generalizing k with
  | nil => simp [total]
  | cons x r ih =>
    cases k with
    | zero => simp [total]
    | succ k => simp only [List.take_succ_cons, total]; have := ih k; omega
theorem takeStr (l : List ByteArray) (k : Nat) (h : k < l.length) : l.take (k + 1) = l.take k ++ [l.getD k ByteArray.empty] := by
  rw [List.take_succ_eq_append_getElem h]
  simp [h]

theorem Strs.kept {w w' : World} {a : Option Addr} {len : Nat} {ss : List ByteArray} (h : Strs w a len ss) (hb : Below w.heap.size w w') : Strs w' a len ss := by
  obtain ⟨h1, h2⟩ := h
  refine ⟨h1, ?_⟩
  rcases h2 with h2 | ⟨b, off, h2, h3, h4⟩
  · exact Or.inl h2
  · exact Or.inr ⟨b, off, h2, Nat.lt_of_lt_of_le h3 hb.size, fun i hi => (hb.cell (p := ⟨b, off + i, none⟩) h3).trans (h4 i hi)⟩
theorem strs_of_row {w : World} {a : Option Addr} {len cap : Nat} {z : List ByteArray} (h : IsRowS w a len cap z) : Strs w a len (z.take len) ∧ len ≤ cap ∧ cap ≤ maxLen := by
  rcases h with ⟨rfl, rfl, rfl, rfl⟩ | ⟨x, rfl, hl, hm, hz, hcell, hwz⟩
  · exact ⟨⟨rfl, Or.inl rfl⟩, Nat.le_refl _, by unfold maxLen; omega⟩
  · refine ⟨⟨by simp; omega, ?_⟩, hl, hm⟩
    by_cases h0 : len = 0
    · exact Or.inl h0
    · obtain ⟨b, off, spot⟩ := x
      have hc := hcell 0 (by omega)
      have hspot : spot = none := by simpa [Addr.add] using World.cell?_spot hc
      subst hspot
      have hlt := World.block_lt_of_cell? w _ hc
      refine Or.inr ⟨b, off, rfl, by simpa [Addr.add] using hlt, fun i hi => ?_⟩
      have := hcell i (by omega)
      have e : (⟨b, off, none⟩ : Addr).add i = ⟨b, off + i, none⟩ := by by_cases hi0 : i = 0 <;> simp [Addr.add, hi0]
      rw [e] at this
      have e2 : (z.take len).getD i ByteArray.empty = z.getD i ByteArray.empty := by simp [List.getD, hi]
      rw [e2]; exact this

def SzPost (ss : List ByteArray) (left : Int) (w : World) (e : Ending) (w' : World) : Prop := ∃ r : Int, -1 ≤ r ∧ r ≤ left ∧ e = .returned (.int .i64 r) ∧ Hid (0 ≤ r → (total ss : Int) + ss.length ≤ left) ∧ w = w'

set_option maxHeartbeats 1000000 in
theorem szStrs (a : Option Addr) (len cap : Nat) (ss : List ByteArray) (left : Int) (w : World) (h : Strs w a len ss) (hl : (len : Int) ≤ 9223372036854775807) (h0 : 0 ≤ left) (h1 : left ≤ 1048576) (hss : ∀ s ∈ ss, s.size ≤ 9223372036854775807) :
    Calls Try.prog 27 #[.slice a len cap, .int .i64 left] w (SzPost ss left w) := by
  obtain ⟨hlen, hc⟩ := h
  have Hlen := Lib.hid hlen
  have Hss := Lib.hid hss
  clear hlen hss
  rcases Int.lt_or_le (left - len) 0 with c0 | c0
  · go_enter Try.func27, Try.ntmps27
    go_wp2
    go_ret
    exact ⟨_, by omega, by omega, rfl, fun h => by omega, rfl⟩
  · go_enter Try.func27, Try.ntmps27
    go_wp2_with fail
    go_loop [1, 5] (fun v i => ∃ k : Nat, k ≤ len ∧ i = .int .i64 k ∧ ∃ r : Int, v = .int .i64 r ∧ 0 ≤ r ∧ r ≤ left ∧ Hid ((total (ss.take k) : Int) + r + len = left)) (fun _ i => len - (intOf i).toNat)
    case atStart => exact ⟨0, Nat.zero_le _, rfl, _, rfl, c0, by omega, by show _ = _; simp [total]; try omega⟩
    case round =>
      obtain ⟨k, hk, rfl, r, rfl, r0, r1, hr⟩ := hrel
      rcases Nat.lt_or_ge k len with hlt | hge
      · rcases hc with hc | ⟨b, off, rfl, hb, hcell⟩
        · omega
        · have c1 := hcell k hlt
          have hsz : (ss.getD k ByteArray.empty).size ≤ 9223372036854775807 := by
            have hm : ss.getD k ByteArray.empty ∈ ss := by
              have : ss.getD k ByteArray.empty = ss[k]'(by have := Hlen.out; omega) := by simp [Hlen.out, hlt]
              rw [this]; exact List.getElem_mem _
            exact Hss.out _ hm
          have Ht : Hid (total (ss.take (k + 1)) = total (ss.take k) + (ss.getD k ByteArray.empty).size) := by
            show _ = _
            rw [takeStr ss k (by have := Hlen.out; omega), total_snoc]
          have Hle : Hid (total (ss.take (k + 1)) ≤ total ss) := total_take_le _ _
          generalize ss.getD k ByteArray.empty = s at *
          clear hcell
          rcases Int.lt_or_le (r - s.size) 0 with c2 | c2
          · go_wp2
            go_ret
            exact ⟨_, by omega, by omega, rfl, fun h => by omega, rfl⟩
          · go_wp2
            go_round
            case rel => exact ⟨k + 1, by omega, by go_num, r - s.size, rfl, c2, by omega, by have := hr.out; have := Ht.out; show _ = _; omega⟩
            case measure => simp [intOf]; omega
      · obtain rfl : k = len := by omega
        go_wp2
        go_ret
        refine ⟨_, by omega, r1, rfl, fun _ => ?_, rfl⟩
        have := hr.out
        rw [List.take_of_length_le (by rw [Hlen.out]; exact Nat.le_refl _)] at this
        rw [Hlen.out]; omega
end Go.Proofs.Ytjlfbcplocjemaa
