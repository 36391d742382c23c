/-
  Any log that is drawn: cut off, or with a byte that is another one.
-/
import Derived.Test.YtiganhkmnklhlaaDoorDrawLog
namespace Go.Proofs.YtiganhkmnklhlaaDoor
open Go.RowKit
set_option linter.unusedVariables false
set_option linter.unusedSimpArgs false

theorem bits8_lo (a b : Int) : 0 ≤ bits .xor .u8 a b ∧ bits .xor .u8 a b < 256 := by
  show 0 ≤ IntKind.u8.wrap _ ∧ IntKind.u8.wrap _ < 256
  rw [IntKind.wrap_u8']; omega
theorem u8s_set (l : List UInt8) (k : Nat) (v : Int) (h0 : 0 ≤ v) (h1 : v < 256) : (u8s l).set k (.int .u8 v) = u8s (l.set k (UInt8.ofNat v.toNat)) := by
  unfold u8s
  rw [List.map_set]
  congr 2
  have : (UInt8.ofNat v.toNat).toNat = v.toNat := by
    rw [UInt8.toNat_ofNat']; omega
  rw [this]; omega
theorem set_far (w : World) (g k j : Nat) (v : Value) (h : k ≠ j) : (w.setCell ⟨g, k, none⟩ v).cell? ⟨g, j, none⟩ = w.cell? ⟨g, j, none⟩ := by
  have ne : (⟨g, k, none⟩ : Addr) ≠ ⟨g, j, none⟩ := by intro e; simp only [Addr.mk.injEq] at e; omega
  first
    | exact World.cell?_setCell_other ne
    | exact World.cell?_setCell_other _ ne
    | exact World.cell?_setCell_other _ _ ne
    | exact World.cell?_setCell_other _ _ _ ne
    | exact World.cell?_setCell_other _ _ _ _ ne
theorem own_set {B : Nat} {w : World} {g n cap : Nat} {l : List UInt8} (h : OwnV B w (.slice (some ⟨g, 0, none⟩) n cap) (u8s l)) (k : Nat) (hk : k < n) (v : Int) (h0 : 0 ≤ v) (h1 : v < 256) : OwnV B (w.setCell ⟨g, k, none⟩ (.int .u8 v)) (.slice (some ⟨g, 0, none⟩) n cap) (u8s (l.set k (UInt8.ofNat v.toNat))) := by
  rw [← u8s_set l k v h0 h1]
  rcases h with ⟨h, -⟩ | ⟨g', o', cap', he, hB, hg, hc, hcell, hok⟩
  · cases h
  · simp only [Value.slice.injEq, Option.some.injEq, Addr.mk.injEq] at he
    obtain ⟨⟨rfl, rfl, -⟩, rfl, rfl⟩ := he
    refine Or.inr ⟨g, 0, cap, by rw [List.length_set], hB, by simpa [World.setCell] using hg, by rw [List.length_set]; exact hc, fun j hj => ?_, fun j hj => ?_⟩
    · rw [List.length_set] at hj
      by_cases e : j = k
      · subst e
        have h1 := (hok j (by omega)).1
        rw [Nat.zero_add] at h1 ⊢
        rw [World.cell?_setCell_same' _ _ _ h1]
        simp [hj]
      · rw [List.getElem?_set_ne (fun h => e h.symm), ← hcell j hj]
        exact set_far w g k (0 + j) _ (by omega)
    · refine ⟨?_, by rw [World.frozen?_setCell]; exact (hok j hj).2⟩
      by_cases e : j = k
      · subst e
        have h1 := (hok j hj).1
        rw [Nat.zero_add] at h1 ⊢
        rw [World.cell?_setCell_same' _ _ _ h1]; rfl
      · rw [set_far w g k (0 + j) _ (by omega)]
        exact (hok j hj).1
theorem OwnV.far {B : Nat} {w w' : World} {b : Nat} {v : Value} {xs : List Value} (h : OwnV B w v xs) (hg : w.grownBy w' (some b)) (hb : b < B) : OwnV B w' v xs := by
  rcases h with ⟨rfl, rfl⟩ | ⟨g, o, cap, rfl, hB, hgl, hc, hcell, hok⟩
  · exact Or.inl ⟨rfl, rfl⟩
  · have e := hg.block g hgl (fun e => by cases e; omega)
    refine Or.inr ⟨g, o, cap, rfl, hB, Nat.lt_of_lt_of_le hgl hg.size, hc, fun j hj => ?_, fun j hj => ?_⟩
    · rw [World.cell?_of_block (a := ⟨g, o + j, none⟩) e]; exact hcell j hj
    · rw [World.cell?_of_block (a := ⟨g, o + j, none⟩) e, World.frozen?_of_block (a := ⟨g, o + j, none⟩) e]; exact hok j hj
theorem own_at {B : Nat} {w : World} {g n cap : Nat} {l : List UInt8} (h : OwnV B w (.slice (some ⟨g, 0, none⟩) n cap) (u8s l)) (k : Nat) (hk : k < n) : ∃ x : Int, w.cell? ⟨g, k, none⟩ = some (.int .u8 x) ∧ w.frozen? ⟨g, k, none⟩ = false ∧ n ≤ cap := by
  rcases h with ⟨h, -⟩ | ⟨g', o', cap', he, hB, hg, hc, hcell, hok⟩
  · cases h
  · simp only [Value.slice.injEq, Option.some.injEq, Addr.mk.injEq] at he
    obtain ⟨⟨rfl, rfl, -⟩, rfl, rfl⟩ := he
    have h1 := hcell k hk
    rw [Nat.zero_add] at h1
    have h2 := (hok k (by omega)).2
    rw [Nat.zero_add] at h2
    rw [u8s_len] at hk
    refine ⟨(l[k]'hk).toNat, ?_, h2, hc⟩
    rw [h1]
    simp [u8s, hk]

theorem rd_drewL {B : Nat} {w : World} {b p : Nat} (h : Rd B w b p) : Rd B w.drew b p := h.kept (Below.refl _ _).drew rfl
def AnyCut (B b p : Nat) (w : World) (e : Ending) (w' : World) : Prop := LogDrawn B b p 13 w e w'
set_option maxRecDepth 100000 in
set_option maxHeartbeats 4000000 in
theorem drawAny (B b p : Nat) (w : World) (hr : Rd B w b p) (hp : p ≤ 100) (hBw : B ≤ b) :
    Calls Tryd.prog 13 #[.pointer (some ⟨b, 0, none⟩)] w (LogDrawn B b p 13 w) := by
  have kc := fun (w : World) (s : ByteArray) => Lib.run_convert_string_bytes (P := Tryd.prog) w 9 22 5 s Tryd.underlying9 Tryd.underlying22 Tryd.underlying5
  go_enter Tryd.func13, Tryd.ntmps13
  go_wp2_with fail
  refine (drawLog B b p _ hr (by omega) hBw).mono ?_
  rintro e w1 ⟨s, q, rfl, hs, hr1, hq, hg1⟩
  go_wp2_with fail
  refine (pick B b q 5 _ hr1 (by omega) (by omega) (by omega)).mono ?_
  rintro e w2 ⟨x, l1, u1, rfl, hr2, hg2, -⟩
  have hg12 := grown_trans hg1 hg2
  cases hx0 : (x == 0) with
  | true =>
    go_wp2_with fail
    refine (pick B b (q + 1) ((s.size : Int) + 1) _ hr2 (by omega) (by omega) (by omega)).mono ?_
    rintro e w3 ⟨y, m1, v1, rfl, hr3, hg3, -⟩
    obtain ⟨k, rfl⟩ := Int.eq_ofNat_of_zero_le m1
    have j1 : (k : Int) ≤ s.size := by omega
    go_wp2
    go_ret
    exact ⟨_, q + 1 + 1, rfl, by rw [ByteArray.size_extract]; omega, hr3, by omega, grown_trans hg12 hg3⟩
  | false =>
    cases hx1 : (x == 1) with
    | false =>
      go_wp2
      go_ret
      exact ⟨s, q + 1, rfl, hs, hr2, by omega, hg12⟩
    | true =>
      rcases Nat.eq_zero_or_pos s.size with hz | hz
      · have g0 : decide ((0 : Int) < (s.size : Int)) = false := by rw [hz]; rfl
        go_wp2
        go_ret
        exact ⟨s, q + 1, rfl, hs, hr2, by omega, hg12⟩
      · have g0 : decide ((0 : Int) < (s.size : Int)) = true := by simp; omega
        have hO := Lib.hid (own_bytes w2 s)
        have hbA : Below w2.heap.size w2 (Lib.bytesWorld w2 5 s) := Lib.bytesWorld_below _ _ _
        have HbA := Lib.hid hbA
        have hl2 := hr2.le.2
        have hrA : Rd B (Lib.bytesWorld w2 5 s) b (q + 1) := hr2.kept (hbA.mono (by omega)) (hbA.block b hl2)
        clear hbA
        go_wp2_with fail
        refine (pick B b (q + 1) (s.size : Int) _ hrA (by omega) (by omega) (by omega)).mono ?_
        rintro e w3 ⟨y, m1, v1, rfl, hr3, hg3, -⟩
        obtain ⟨k, rfl⟩ := Int.eq_ofNat_of_zero_le m1
        have hO3 : OwnV w2.heap.size w3 (.slice (some ⟨w2.heap.size, 0, none⟩) s.size (grownCap w2 s.size 0 5)) (u8s s.data.toList) := hO.out.far hg3 (by omega)
        have hlu : (u8s s.data.toList).length = s.size := by rw [u8s_len]; simp
        obtain ⟨bx, d1, d2, d3⟩ := own_at hO3 k (by omega)
        have HO3 := Lib.hid hO3
        clear hO3
        generalize grownCap w2 s.size 0 5 = gc at *
        have hne : w2.heap.size ≠ b := by omega
        have hlt3 : w2.heap.size < w3.heap.size := World.block_lt_of_cell? w3 _ d1
        have k1 : (k : Int) < (s.size : Int) := v1
        go_wp2_with fail
        go_region_with (go_at_call 15; refine (pick B b (q + 1 + 1) 100 _ ?_ ?_ ?_ ?_).mono ?_; exact rd_drewL hr3; omega; omega; omega; rintro e w4 ⟨z, z0, z1, rfl, hr4, hg4, -⟩; have d4 := (hg4.cell_far ⟨w2.heap.size, k, none⟩ hlt3 (by simpa using hne)).trans d1; have f4 := (hg4.frozen_far ⟨w2.heap.size, k, none⟩ hlt3 (by simpa using hne)).trans d2)
        all_goals
          obtain ⟨b0, b1⟩ := bits8_lo bx (IntKind.u8.wrap (IntKind.i64.wrap (1 + z)))
          have hg4' : w3.grownBy w4 (some b) := (drewG w3 _).trans hg4
          generalize bits BinOp.xor IntKind.u8 bx (IntKind.u8.wrap (IntKind.i64.wrap (1 + z))) = bv at *
          have hO5 := own_set (HO3.out.far hg4' (by omega)) k (by omega) bv b0 b1
          have hll : (s.data.toList.set k (UInt8.ofNat bv.toNat)).length = s.size := by rw [List.length_set]; simp
          have hconv := convB hO5 (by omega)
          generalize s.data.toList.set k (UInt8.ofNat bv.toNat) = nl at *
          have hle2 := hg2.size
          have hle1 := hg1.size
          go_wp2
          go_ret
          refine ⟨_, q + 1 + 1 + 1, rfl, ?_, ?_, by omega, ?_⟩
          · show nl.toArray.size ≤ 9000
            rw [List.size_toArray]; omega
          · exact hr4.kept ((Below.refl B w4).setCell (p := ⟨w2.heap.size, k, none⟩) (by show B ≤ w2.heap.size; omega) _) (Below.heap_setCell _ _ _ _ (by show b ≠ w2.heap.size; omega))
          · exact (((hg12.trans (toG HbA.out _)).trans hg3).trans hg4').andThen (grown_set w4 ⟨w2.heap.size, k, none⟩ _) (fun j hj => by cases hj; left; exact hg12.size)
end Go.Proofs.YtiganhkmnklhlaaDoor
