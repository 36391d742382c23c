/-
  One round of the sum, by the program: eight words and a ninth.
-/
import Derived.Test.YtiganhkmnklhlaaDoorShaRot
import Derived.Deep.OwnRows
import Derived.Laws.Rows
namespace Go.Proofs.YtiganhkmnklhlaaDoor
open Go.RowKit
set_option linter.unusedVariables false

structure S8 where
  (a b c d e f g h : Int)
def S8.arr (s : S8) : Array Value := #[.int .u32 s.a, .int .u32 s.b, .int .u32 s.c, .int .u32 s.d, .int .u32 s.e, .int .u32 s.f, .int .u32 s.g, .int .u32 s.h]
def mixA (x : Int) : Int := bits .xor .u32 (bits .xor .u32 (rotr 4 1073741824 x) (rotr 8192 524288 x)) (rotr 4194304 1024 x)
def mixE (x : Int) : Int := bits .xor .u32 (bits .xor .u32 (rotr 64 67108864 x) (rotr 2048 2097152 x)) (rotr 33554432 128 x)
def most (a b c : Int) : Int := bits .xor .u32 (bits .xor .u32 (bits .and .u32 a b) (bits .and .u32 a c)) (bits .and .u32 b c)
def choice (e f g : Int) : Int := bits .xor .u32 (bits .and .u32 e f) (bits .and .u32 (bits .xor .u32 IntKind.u32.max e) g)
def S8.first (s : S8) (x : Int) : Int := s.h + mixE s.e + choice s.e s.f s.g + x
def S8.rnd (s : S8) (x : Int) : S8 := ⟨(s.first x + mixA s.a + most s.a s.b s.c) % 4294967296, s.a, s.b, s.c, (s.d + s.first x) % 4294967296, s.e, s.f, s.g⟩
theorem row_is {w : World} {b t n : Nat} {f : Nat → Value} {cs : Array Value} (h : w.rowIs b t n f) (hs : cs.size = n) (hf : ∀ i, i < n → cs[i]? = some (f i)) : w.heap[b]? = some (.cells cs t (0, 0)) := by
  obtain ⟨c, hb, hn, hc⟩ := h
  have : c = cs := by
    apply Array.ext (by omega)
    intro i h1 h2
    have e1 := hc i (by omega)
    have e2 := hf i (by omega)
    rw [Array.getElem?_eq_getElem h1] at e1
    rw [Array.getElem?_eq_getElem h2] at e2
    exact Option.some.inj (e1.trans e2.symm)
  rw [← this]; exact hb
theorem row8 {w : World} {b t : Nat} {f : Nat → Value} (h : w.rowIs b t 8 f) (v0 v1 v2 v3 v4 v5 v6 v7 : Value) :
    ((((((((w.setCell ⟨b, 0, none⟩ v0).setCell ⟨b, 1, none⟩ v1).setCell ⟨b, 2, none⟩ v2).setCell ⟨b, 3, none⟩ v3).setCell ⟨b, 4, none⟩ v4).setCell ⟨b, 5, none⟩ v5).setCell ⟨b, 6, none⟩ v6).setCell ⟨b, 7, none⟩ v7).heap[b]? = some (.cells #[v0, v1, v2, v3, v4, v5, v6, v7] t (0, 0)) := by
  refine row_is ((((((((h.set 0 v0).set 1 v1).set 2 v2).set 3 v3).set 4 v4).set 5 v5).set 6 v6).set 7 v7) rfl ?_
  intro i hi
  have : i = 0 ∨ i = 1 ∨ i = 2 ∨ i = 3 ∨ i = 4 ∨ i = 5 ∨ i = 6 ∨ i = 7 := by omega
  rcases this with rfl | rfl | rfl | rfl | rfl | rfl | rfl | rfl <;> rfl
theorem below8 {B : Nat} {w w' : World} {b : Nat} (h : Below B w w') (hb : B ≤ b) (v0 v1 v2 v3 v4 v5 v6 v7 : Value) :
    Below B w ((((((((w'.setCell ⟨b, 0, none⟩ v0).setCell ⟨b, 1, none⟩ v1).setCell ⟨b, 2, none⟩ v2).setCell ⟨b, 3, none⟩ v3).setCell ⟨b, 4, none⟩ v4).setCell ⟨b, 5, none⟩ v5).setCell ⟨b, 6, none⟩ v6).setCell ⟨b, 7, none⟩ v7) :=
  (((((((h.setCell (p := ⟨b, 0, none⟩) hb _).setCell (p := ⟨b, 1, none⟩) hb _).setCell (p := ⟨b, 2, none⟩) hb _).setCell (p := ⟨b, 3, none⟩) hb _).setCell (p := ⟨b, 4, none⟩) hb _).setCell (p := ⟨b, 5, none⟩) hb _).setCell (p := ⟨b, 6, none⟩) hb _).setCell (p := ⟨b, 7, none⟩) hb _
theorem sizeArr : (Tryd.prog.info? 77).map (·.size) = some 8 := by kernel_rfl
theorem retAgg {a b : Array Value} (h : a = b) : Ending.returned (.agg a) = .returned (.agg b) := by rw [h]

set_option maxHeartbeats 4000000 in
theorem roundS (s : S8) (x : Int) (w : World) :
    Calls Tryd.prog 75 #[.agg s.arr, .int .u32 x] w fun e w' => e = .returned (.agg (s.rnd x).arr) ∧ Below w.heap.size w w' := by
  obtain ⟨a, b, c, d, e, f, g, k⟩ := s
  unfold S8.arr
  dsimp only
  go_enter Tryd.func75, Tryd.ntmps75
  go_wp2_with fail
  go_quiet (fail)
  go_wp2_with fail
  refine (rl2 a _).mono ?_
  rintro e1 w1 ⟨rfl, rfl⟩
  go_wp2_with fail
  refine (rl13 a _).mono ?_
  rintro e1 w1 ⟨rfl, rfl⟩
  go_wp2_with fail
  refine (rl22 a _).mono ?_
  rintro e1 w1 ⟨rfl, rfl⟩
  go_wp2_with fail
  refine (rl6 e _).mono ?_
  rintro e1 w1 ⟨rfl, rfl⟩
  go_wp2_with fail
  refine (rl11 e _).mono ?_
  rintro e1 w1 ⟨rfl, rfl⟩
  go_wp2_with fail
  refine (rl25 e _).mono ?_
  rintro e1 w1 ⟨rfl, rfl⟩
  go_wp2
  refine bodyPost_ret (v := .agg (S8.rnd ⟨a, b, c, d, e, f, g, k⟩ x).arr) ?_ rfl ⟨rfl, ?_⟩
  · refine (results_cell_row rfl _ _ (w.heap.size + 1) 77 _ (0, 0) _ rfl (row8 (f := fun _ => .int .u32 0) ?_ _ _ _ _ _ _ _ _) Tryd.underlying77 rfl sizeArr).trans ?_
    · have h0 := World.rowIs_alloc (w.alloc (.cells #[.int .u32 a, .int .u32 b, .int .u32 c, .int .u32 d, .int .u32 e, .int .u32 f, .int .u32 g, .int .u32 k] 77)) #[.int .u32 0, .int .u32 0, .int .u32 0, .int .u32 0, .int .u32 0, .int .u32 0, .int .u32 0, .int .u32 0] 77 (fun _ => .int .u32 0) (fun i hi => by
        have : i = 0 ∨ i = 1 ∨ i = 2 ∨ i = 3 ∨ i = 4 ∨ i = 5 ∨ i = 6 ∨ i = 7 := by simp at hi; omega
        rcases this with rfl | rfl | rfl | rfl | rfl | rfl | rfl | rfl <;> rfl)
      rw [World.size_alloc] at h0
      exact h0
    · rfl
  · have h1 : Below w.heap.size w (((w.alloc (.cells #[.int .u32 a, .int .u32 b, .int .u32 c, .int .u32 d, .int .u32 e, .int .u32 f, .int .u32 g, .int .u32 k] 77)).alloc (.cells #[.int .u32 0, .int .u32 0, .int .u32 0, .int .u32 0, .int .u32 0, .int .u32 0, .int .u32 0, .int .u32 0] 77)).drewN nq) := belowN (((Below.refl _ w).alloc (Nat.le_refl _) _).alloc (by simp) _) nq
    exact below8 h1 (Nat.le_succ _) _ _ _ _ _ _ _ _
end Go.Proofs.YtiganhkmnklhlaaDoor
