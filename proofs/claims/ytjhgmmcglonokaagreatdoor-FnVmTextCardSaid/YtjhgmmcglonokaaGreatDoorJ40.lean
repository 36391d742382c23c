/-
  The reader by which the laws draw their arguments: what opening it, and picking from it, does to the world.
  One of a list of ints that was just written out.
  What l14Fuel draws: fuel, or a number near its bounds.
  One of a list of texts, picked by the reader.
-/
import Derived.Test.YtjhgmmcglonokaaGreatDoorJ1
import Derived.OpenShut
import Derived.IntWalk
namespace Go.Proofs.YtjhgmmcglonokaaGreatDoor
open Go.RowKit
set_option linter.unusedVariables false

def Bytes (B : Nat) (w : World) (a : Option Addr) (len : Nat) : Prop :=
  len = 0 ∨ ∃ (b off : Nat) (z : Nat → Int), a = some ⟨b, off, none⟩ ∧ b < B ∧ (∀ i, i < len → w.cell? ⟨b, off + i, none⟩ = some (.int .u8 (z i))) ∧ (∀ i, i < len → 0 ≤ z i ∧ z i ≤ 255)
def Rd (B : Nat) (w : World) (b p : Nat) : Prop :=
  ∃ a len cap, B ≤ b ∧ b < w.heap.size ∧ w.cell? ⟨b, 0, none⟩ = some (.slice a len cap) ∧ w.cell? ⟨b, 1, none⟩ = some (.int .i64 p) ∧ w.frozen? ⟨b, 1, none⟩ = false ∧ len ≤ 2000 ∧ Bytes B w a len

theorem Bytes.kept {B : Nat} {w w' : World} {a : Option Addr} {len : Nat} (h : Bytes B w a len) (hb : Below B w w') : Bytes B w' a len := by
  rcases h with h | ⟨b, off, z, h1, h2, h3, h4⟩
  · exact .inl h
  · exact .inr ⟨b, off, z, h1, h2, fun i hi => (hb.cell (p := ⟨b, off + i, none⟩) h2).trans (h3 i hi), h4⟩
theorem Rd.kept {B : Nat} {w w' : World} {b p : Nat} (h : Rd B w b p) (hb : Below B w w') (he : w'.heap[b]? = w.heap[b]?) : Rd B w' b p := by
  obtain ⟨a, len, cap, h1, h1', h2, h3, h4, h5, h6⟩ := h
  exact ⟨a, len, cap, h1, Nat.lt_of_lt_of_le h1' hb.size, (World.cell?_of_block (a := ⟨b, 0, none⟩) he).trans h2, (World.cell?_of_block (a := ⟨b, 1, none⟩) he).trans h3, (World.frozen?_of_block (a := ⟨b, 1, none⟩) he).trans h4, h5, h6.kept hb⟩
theorem Rd.le {B : Nat} {w : World} {b p : Nat} (h : Rd B w b p) : B ≤ b ∧ b < w.heap.size := by obtain ⟨_, _, _, h1, h2, _⟩ := h; exact ⟨h1, h2⟩
theorem bytes_of_row {w : World} {a0 : Option Addr} {len cap n : Nat} {z : List Int} (w0 : IsRow .u8 w a0 len cap z) (hn : n ≤ len) : Bytes w.heap.size w a0 n := by
  by_cases h0 : n = 0
  · exact Or.inl h0
  rcases w0 with ⟨rfl, rfl, rfl, rfl⟩ | ⟨x, rfl, hl, hm, hz, hcell, hwz⟩
  · omega
  · obtain ⟨b, off, spot⟩ := x
    have hc := hcell 0 (by omega)
    have hspot : spot = none := by simpa [Addr.add] using World.cell?_spot hc
    subst hspot
    have hb := World.block_lt_of_cell? w _ hc
    refine Or.inr ⟨b, off, fun i => z.getD i 0, rfl, by simpa [Addr.add] using hb, fun i hi => ?_, fun i hi => ?_⟩
    · have := hcell i (by omega)
      have e : (⟨b, off, none⟩ : Addr).add i = ⟨b, off + i, none⟩ := by by_cases hi0 : i = 0 <;> simp [Addr.add, hi0]
      rw [e] at this
      simpa using this
    · simpa using range_u8 hwz i

theorem rd_new {w : World} {a : Option Addr} {len cap : Nat} (h : Bytes w.heap.size w a len) (hl : len ≤ 2000) (T : TypeId) :
    Rd w.heap.size (w.alloc (.cells #[.slice a len cap, .int .i64 0] T)) w.heap.size 0 := by
  refine ⟨a, len, cap, Nat.le_refl _, by simp, ?_, ?_, ?_, hl, h.kept ((Below.refl _ _).alloc (Nat.le_refl _) _)⟩ <;> simp [go_sem]

def Opened (w : World) (e : Ending) (w' : World) : Prop := e = .returned (.pointer (some ⟨w.heap.size, 0, none⟩)) ∧ Rd w.heap.size w' w.heap.size 0 ∧ Below w.heap.size w w' ∧ w'.heap.size = w.heap.size + 1

set_option maxHeartbeats 400000 in
theorem opened (a0 : Option Addr) (len cap : Nat) (z : List Int) (w : World) (w0 : IsRow .u8 w a0 len cap z) :
    Calls Tryz.prog 41 #[.slice a0 len cap] w (Opened w) := by
  have hb : ∀ n, n ≤ len → Bytes w.heap.size w a0 n := fun n hn => bytes_of_row w0 hn
  have Hb := Lib.hid hb
  clear hb
  by_cases h : 2000 < len
  · rcases w0 with ⟨rfl, rfl, rfl, rfl⟩ | ⟨x, rfl, hl, hm, hz, hcell, hwz⟩
    · omega
    · clear hcell hwz hz
      unfold maxLen at hm
      go_enter Tryz.func41, Tryz.ntmps41
      go_wp2
      go_ret
      exact ⟨rfl, rd_new (Hb.out 2000 (by omega)) (by omega) _, (Below.refl _ _).alloc (Nat.le_refl _) _, by simp⟩
  · have hm : cap ≤ 9223372036854775807 := by
      rcases w0 with ⟨rfl, rfl, rfl, rfl⟩ | ⟨x, rfl, hl, hm, hz, hcell, hwz⟩
      · omega
      · unfold maxLen at hm; omega
    clear w0
    go_enter Tryz.func41, Tryz.ntmps41
    go_wp2
    go_ret
    exact ⟨rfl, rd_new (Hb.out len (by omega)) (by omega) _, (Below.refl _ _).alloc (Nat.le_refl _) _, by simp⟩

def Picked (B b p : Nat) (n : Int) (w : World) (e : Ending) (w' : World) : Prop :=
  ∃ x : Int, 0 ≤ x ∧ x < n ∧ e = .returned (.int .i64 x) ∧ Rd B w' b (p + 1) ∧ w.grownBy w' (some b) ∧ w'.heap.size = w.heap.size

theorem picked {B b p : Nat} {n : Int} {w : World} {x : Int} (hr : Rd B w b p) (h0 : 0 ≤ x) (h1 : x < n) (q : Nat) (v : Int) (hv : v = (p : Int) + 1) :
    Picked B b p n w (.returned (.int .i64 x)) ((w.setCell ⟨b, 1, none⟩ (.int .i64 v)).drewN q) := by
  subst hv
  refine ⟨x, h0, h1, rfl, ?_, grown_trans (grown_set w ⟨b, 1, none⟩ _) (grownN _ _ _), by simp [World.drewN, World.setCell]⟩
  obtain ⟨a, len, cap, g1, g1', g2, g3, g4, g5, g6⟩ := hr
  have hb : Below B w ((w.setCell ⟨b, 1, none⟩ (.int .i64 ((p : Int) + 1))).drewN q) := belowN ((Below.refl _ _).setCell g1 _) _
  refine ⟨a, len, cap, g1, by simpa [World.drewN, World.setCell] using g1', ?_, ?_, ?_, g5, g6.kept hb⟩
  · rw [World.cell?_drewN]; simp [go_sem, g2]
  · rw [World.cell?_drewN]; simp [go_sem, g3]
  · simp [go_sem, g4]

theorem ofInt64 (a : Nat) (ha : a < 9223372036854775808) : (BitVec.ofInt 64 (a : Int)).toNat = a := by
  rw [BitVec.ofInt_natCast, BitVec.toNat_ofNat]; exact Nat.mod_eq_of_lt (by omega)
theorem xor64 (a b : Nat) (ha : a < 9223372036854775808) (hb : b < 9223372036854775808) : bits .xor .i64 (a : Int) (b : Int) = ((a ^^^ b : Nat) : Int) := by
  have hx : a ^^^ b < 2 ^ 63 := Nat.xor_lt_two_pow (by omega) (by omega)
  show IntKind.i64.wrap ((BitVec.ofInt 64 (a : Int) ^^^ BitVec.ofInt 64 (b : Int)).toNat : Int) = _
  rw [BitVec.toNat_xor, ofInt64 a ha, ofInt64 b hb, IntWalk.i64_in _ (by omega)]
theorem xor_nn {x : Int} (h : 0 ≤ x ∧ x < 9223372036854775808) : 0 ≤ bits .xor .i64 x (x / 64) := by
  obtain ⟨X, rfl⟩ := Int.eq_ofNat_of_zero_le h.1
  have e : ((X : Int) / 64) = ((X / 64 : Nat) : Int) := by omega
  rw [e, xor64 X (X / 64) (by omega) (by omega)]
  exact Int.natCast_nonneg _
theorem xor_mod0 {x n : Int} (h : 0 ≤ x ∧ x < 9223372036854775808) (hn : 1 ≤ n) : 0 ≤ (bits .xor .i64 x (x / 64)).tmod n := Int.tmod_nonneg _ (xor_nn h)
theorem xor_mod1 {x n : Int} (h : 0 ≤ x ∧ x < 9223372036854775808) (hn : 1 ≤ n) : (bits .xor .i64 x (x / 64)).tmod n < n := Int.tmod_lt_of_pos _ (by omega)

set_option maxHeartbeats 1000000 in
theorem pick (B b p : Nat) (n : Int) (w : World) (hr : Rd B w b p) (hp : p ≤ 1000000000) (n1 : 1 ≤ n) (n2 : n ≤ 1000000000) :
    Calls Tryz.prog 42 #[.pointer (some ⟨b, 0, none⟩), .int .i64 n] w (Picked B b p n w) := by
  have Hr := Lib.hid hr
  obtain ⟨a, len, cap, g1, g1', g2, g3, g4, g5, g6⟩ := hr
  clear g1 g1'
  by_cases h0 : len = 0
  · subst h0
    clear g6
    go_enter Tryz.func42, Tryz.ntmps42
    go_wp2
    go_ret
    exact picked Hr.out (by omega) (by omega) 0 _ rfl
  · rcases g6 with h | ⟨bb, off, z, rfl, g7, g8, g9⟩
    · exact absurd h h0
    have hl0 : ((len : Int) == 0) = false := by simp; omega
    have hne : bb ≠ b := by have := Hr.out.le; omega
    have hne' : b ≠ bb := fun e => hne e.symm
    clear g7
    by_cases hk : p < len
    · have c1 := g8 p hk
      obtain ⟨z0, z1⟩ := g9 p hk
      have c2 : (w.setCell ⟨b, 1, none⟩ (.int .i64 ((p : Int) + 1))).cell? ⟨bb, off + p, none⟩ = some (.int .u8 (z p)) := by simp [go_sem, c1]
      have m0 : 0 ≤ z p % n := Int.emod_nonneg _ (by omega)
      have m1 : z p % n < n := Int.emod_lt_of_pos _ (by omega)
      clear g8 g9
      go_enter Tryz.func42, Tryz.ntmps42
      go_wp2
      go_ret
      exact picked Hr.out m0 m1 0 _ rfl
    · have hl : 0 < len := by omega
      have k1 : p % len < len := Nat.mod_lt _ hl
      have k2 : (p * 7 + 3) % len < len := Nat.mod_lt _ hl
      have c1 := g8 _ k1
      have c2 := g8 _ k2
      obtain ⟨y0, y1⟩ := g9 _ k1
      obtain ⟨z0, z1⟩ := g9 _ k2
      have d1 : (w.setCell ⟨b, 1, none⟩ (.int .i64 ((p : Int) + 1))).cell? ⟨bb, off + p % len, none⟩ = some (.int .u8 (z (p % len))) := by simp [go_sem, c1]
      have d2 : (w.setCell ⟨b, 1, none⟩ (.int .i64 ((p : Int) + 1))).cell? ⟨bb, off + (p * 7 + 3) % len, none⟩ = some (.int .u8 (z ((p * 7 + 3) % len))) := by simp [go_sem, c2]
      have i1 : 0 ≤ (p : Int) % (len : Int) := Int.emod_nonneg _ (by omega)
      have i2 : (p : Int) % (len : Int) < len := Int.emod_lt_of_pos _ (by omega)
      have i3 : 0 ≤ ((p : Int) * 7 + 3) % (len : Int) := Int.emod_nonneg _ (by omega)
      have i4 : ((p : Int) * 7 + 3) % (len : Int) < len := Int.emod_lt_of_pos _ (by omega)
      have i5 : 0 ≤ (p : Int) / (len : Int) := Int.ediv_nonneg (by omega) (by omega)
      have i6 : (p : Int) / (len : Int) ≤ p := Int.ediv_le_self _ (by omega)
      clear g8 g9
      go_enter Tryz.func42, Tryz.ntmps42
      go_wp2
      go_quiet (fail)
      go_wp2
      go_ret
      exact picked Hr.out (xor_mod0 (by omega) n1) (xor_mod1 (by omega) n1) _ _ rfl
theorem rd_alloc {B : Nat} {w : World} {b p : Nat} (h : Rd B w b p) (o : Obj) : Rd B (w.alloc o) b p :=
  h.kept ((Below.refl _ _).alloc (Nat.le_of_lt (Nat.lt_of_le_of_lt h.le.1 h.le.2)) o) (Below.heap_alloc _ _ _ h.le.2)

end Go.Proofs.YtjhgmmcglonokaaGreatDoor

namespace Go.Proofs.YtjhgmmcglonokaaGreatDoor
open Go.RowKit
set_option linter.unusedVariables false

theorem ints_at {w : World} {cs : Array Value} (T : TypeId) (lb : Nat) (hb : lb = w.heap.size) (vs : List Int) (hc : cs = (vs.map (Value.int .i64)).toArray) (i : Nat) (hi : i < vs.length) :
    (w.alloc (.cells cs T)).cell? ⟨lb, i, none⟩ = some (.int .i64 (vs.getD i 0)) := by
  subst hb hc
  have : (w.alloc (.cells (vs.map (Value.int .i64)).toArray T)).heap[w.heap.size]? = some (.cells (vs.map (Value.int .i64)).toArray T) := (MapKept.heap_alloc w _).1
  unfold World.cell?
  rw [this]
  simp [hi]
/-- One of a list of ints that was just written out, all within bounds. -/
theorem one_of {w : World} {cs : Array Value} {T : TypeId} {w' : World} {b : Nat} (lb : Nat) (hb : lb = w.heap.size) (vs : List Int) (hc : cs = (vs.map (Value.int .i64)).toArray) (lo hi : Int) (hv : ∀ v ∈ vs, lo ≤ v ∧ v ≤ hi) (i : Nat) (hi' : i < vs.length)
    (hg : (w.alloc (.cells cs T)).grownBy w' (some b)) (hne : lb ≠ b) : ∃ y : Int, lo ≤ y ∧ y ≤ hi ∧ w'.cell? ⟨lb, i, none⟩ = some (.int .i64 y) := by
  have hm : vs.getD i 0 ∈ vs := by
    have : vs.getD i 0 = vs[i] := by simp [hi']
    rw [this]; exact List.getElem_mem _
  exact ⟨vs.getD i 0, (hv _ hm).1, (hv _ hm).2, hg.cell (ints_at T lb hb vs hc i hi') (by simpa using hne)⟩

end Go.Proofs.YtjhgmmcglonokaaGreatDoor

namespace Go.Proofs.YtjhgmmcglonokaaGreatDoor
open Go.RowKit
set_option linter.unusedVariables false

theorem grown_alloc {w : World} (o : Obj) (row : Option Nat) : w.grownBy (w.alloc o) row := by
  have h : Below w.heap.size w (w.alloc o) := (Below.refl _ _).alloc (Nat.le_refl _) _
  exact ⟨h.os, h.tape, h.output, h.size, fun k hk _ => h.block k hk⟩
end Go.Proofs.YtjhgmmcglonokaaGreatDoor

namespace Go.Proofs.YtjhgmmcglonokaaGreatDoor
open Go.RowKit
set_option linter.unusedVariables false

def PickedOf (B b p n : Nat) (ss : Nat → ByteArray) (w : World) (e : Ending) (w' : World) : Prop :=
  ∃ i : Nat, i < n ∧ e = .returned (.string (ss i)) ∧ Rd B w' b (p + 1) ∧ w.grownBy w' (some b) ∧ w'.heap.size = w.heap.size

set_option maxHeartbeats 400000 in
theorem pickOf (B b p n lb cap : Nat) (ss : Nat → ByteArray) (w : World) (hr : Rd B w b p) (hp : p ≤ 1000000000) (n1 : 1 ≤ n) (n2 : n ≤ 1000000) (hc : ∀ i, i < n → w.cell? ⟨lb, i, none⟩ = some (.string (ss i))) (hb : lb ≠ b) :
    Calls Tryz.prog 43 #[.pointer (some ⟨b, 0, none⟩), .slice (some ⟨lb, 0, none⟩) n cap] w (PickedOf B b p n ss w) := by
  have Hc := Lib.hid hc
  clear hc
  go_enter Tryz.func43, Tryz.ntmps43
  go_wp2_with fail
  refine (pick B b p n _ hr hp (by omega) (by omega)).mono ?_
  rintro e w' ⟨x, x0, x1, rfl, hr', hg, hz⟩
  obtain ⟨i, rfl⟩ := Int.eq_ofNat_of_zero_le x0
  have hi : i < n := by omega
  have c1 : w'.cell? ⟨lb, i, none⟩ = some (.string (ss i)) := hg.cell (Hc.out i hi) (by simpa using hb)
  go_wp2
  go_ret
  exact ⟨i, hi, rfl, hr', hg, hz⟩

theorem lits_at {w : World} {cs : Array Value} (T : TypeId) (lb : Nat) (hb : lb = w.heap.size) (ss : List ByteArray) (hc : cs = (ss.map Value.string).toArray) (i : Nat) (hi : i < ss.length) :
    (w.alloc (.cells cs T)).cell? ⟨lb, i, none⟩ = some (.string (ss.getD i ByteArray.empty)) := by
  subst hb hc
  have : (w.alloc (.cells (ss.map Value.string).toArray T)).heap[w.heap.size]? = some (.cells (ss.map Value.string).toArray T) := (MapKept.heap_alloc w _).1
  unfold World.cell?
  rw [this]
  simp [hi]
end Go.Proofs.YtjhgmmcglonokaaGreatDoor
