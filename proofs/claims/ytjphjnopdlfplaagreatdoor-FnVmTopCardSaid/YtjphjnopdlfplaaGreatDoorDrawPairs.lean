/-
  What l14Pairs draws: names and their numbers, in new memory.
-/
import Derived.Test.YtjphjnopdlfplaaGreatDoorJ4
import Derived.Test.YtjphjnopdlfplaaGreatDoorDrawMarksR
import Derived.Test.YtjphjnopdlfplaaGreatDoorJ43
import Derived.Test.YtjphjnopdlfplaaGreatDoorJ21
import Derived.Test.YtjphjnopdlfplaaGreatDoorJ25
import Derived.Deep.CutRange
import Derived.Deep.DeepMust
import Derived.Deep.RegionWith
import Derived.Deep.RegionLaw
import Derived.Deep.AppendLies
namespace Go.Proofs.YtjphjnopdlfplaaGreatDoor
open Go.RowKit
set_option linter.unusedVariables false
set_option linter.unusedSimpArgs false

def cellsP (ns : List (ByteArray × Int)) : List Value := ns.flatMap fun p => [.string p.1, .int .i64 p.2]
theorem cellsP_at (ns : List (ByteArray × Int)) (i : Nat) (h : i < ns.length) : (cellsP ns)[i * 2]? = some (.string (ns[i]).1) ∧ (cellsP ns)[i * 2 + 1]? = some (.int .i64 (ns[i]).2) := by
  induction ns generalizing i with
  | nil => simp at h
  | cons m r ih =>
    cases i with
    | zero => simp [cellsP]
    | succ i =>
      have := ih i (by simpa using h)
      simp only [cellsP, List.flatMap_cons] at this ⊢
      rw [show (i + 1) * 2 = i * 2 + 1 + 1 from by omega]
      simpa using this
theorem cellsP_snoc (ns : List (ByteArray × Int)) (s : ByteArray) (x : Int) : cellsP ns ++ [.string s, .int .i64 x] = cellsP (ns ++ [(s, x)]) := by simp [cellsP]
theorem infoPairD : (Tryz.prog.info? 67).map (fun i => (i.zero, i.size, i.bytes)) = some (some (.agg #[.string ⟨#[]⟩, .int .i64 0]), 2, 24) := by kernel_rfl
theorem pairsN_own {B : Nat} {w : World} {a : Option Addr} {n c : Nat} {ns : List (ByteArray × Int)} (h : w.ownsRow B 67 2 (.slice a n c) ns.length (cellsP ns)) : n = ns.length ∧ PairsN (fun x => B ≤ x) w a n ns := by
  rcases h.2 with ⟨e, e0⟩ | ⟨g, cap, cur, e, hg, hh, -⟩
  · injection e with e1 e2 e3
    subst e1 e2
    exact ⟨e0.symm, e0.symm, Or.inl rfl⟩
  · injection e with e1 e2 e3
    subst e1 e2 e3
    have hgl := (h.lt g rfl).2
    refine ⟨rfl, rfl, Or.inr ⟨g, 0, rfl, hg, hgl, fun i hi => ?_⟩⟩
    obtain ⟨c0, c1⟩ := cellsP_at ns i hi
    have e : ns.getD i (⟨#[]⟩, 0) = ns[i] := by simp [hi]
    rw [Nat.zero_add, e, h.cellAt (i * 2) (by omega), h.cellAt (i * 2 + 1) (by omega)]
    exact ⟨c0, c1⟩
def DrawnP (b p : Nat) (w : World) (e : Ending) (w' : World) : Prop :=
  ∃ (a : Option Addr) (n c : Nat) (ns : List (ByteArray × Int)) (p' : Nat), e = .returned (.slice a n c) ∧ PairsN (fun x => w.heap.size ≤ x) w' a n ns ∧ n ≤ 6 ∧ Rd b w' b p' ∧ p' ≤ p + 200 ∧ w.grownBy w' (some b)
def IPr (b lb : Nat) (w : World) (a : Option Addr) (n c : Nat) (ns : List (ByteArray × Int)) (f : Nat → ByteArray) (q kk : Nat) (W : World) : Prop :=
  (∃ q', Rd b W b q' ∧ q' ≤ q + kk) ∧ W.ownsRow w.heap.size 67 2 (.slice a n c) n (cellsP ns) ∧ w.grownBy W (some b) ∧ (∀ i, i < 6 → W.cell? ⟨lb, i, none⟩ = some (.string (f i)))
theorem IPr.next {b lb : Nat} {w : World} {a : Option Addr} {n c : Nat} {ns : List (ByteArray × Int)} {f : Nat → ByteArray} {q kk : Nat} {W : World} (h : IPr b lb w a n c ns f q kk W) : IPr b lb w a n c ns f q (kk + 1) W := by
  obtain ⟨⟨q', h1, h2⟩, h3⟩ := h
  exact ⟨⟨q', h1, by omega⟩, h3⟩
theorem IPr.grown {b lb : Nat} {w : World} {a : Option Addr} {n c : Nat} {ns : List (ByteArray × Int)} {f : Nat → ByteArray} {q kk q2 : Nat} {W W' : World} (hb : b < w.heap.size) (hl : lb ≠ b) (h : IPr b lb w a n c ns f q kk W) (hr : Rd b W' b q2) (hq : q2 ≤ q + (kk + 1)) (hg : W.grownBy W' (some b)) : IPr b lb w a n c ns f q (kk + 1) W' := by
  obtain ⟨⟨q', h1, h2⟩, h3, h4, h5⟩ := h
  exact ⟨⟨q2, hr, hq⟩, own_rowKept h3 hg (fun g e e2 => by injection e with e; have := (h3.lt g e2).1; omega), grown_trans h4 hg, fun i hi => hg.cell (h5 i hi) (by simpa using hl)⟩
theorem IPr.alloc {b lb : Nat} {w : World} {a : Option Addr} {n c : Nat} {ns : List (ByteArray × Int)} {f : Nat → ByteArray} {q kk : Nat} {W : World} (hb : b < w.heap.size) (hl : lb ≠ b) (h : IPr b lb w a n c ns f q kk W) (o : Obj) : IPr b lb w a n c ns f q (kk + 1) (W.alloc o) := by
  obtain ⟨q', h1, h2⟩ := h.1
  exact h.grown hb hl (rd_alloc h1 o) (by omega) (grown_alloc o (some b))
def SPr (b lb : Nat) (vi : Nat) (s : ByteArray) (ov : Value) (i : Nat) (W : World) (v : Value) : Prop := match i with
  | 0 => v = ov
  | 1 => v = .slice (some ⟨lb, 0, none⟩) 6 6
  | 2 => v = .int .i64 (vi : Int)
  | 3 => v = .pointer (some ⟨lb, vi, none⟩)
  | 4 => v = .string s
  | 5 => v = .pointer (some ⟨b, 0, none⟩)
  | 6 => ∃ x : Int, 0 ≤ x ∧ x < 60 ∧ v = .int .i64 x
  | 7 => v = .pointer (some ⟨b, 0, none⟩)
  | 8 => ∃ x : Int, 0 ≤ x ∧ x < 9 ∧ v = .int .i64 x
  | 9 => ∃ x : Int, -4 ≤ x ∧ x < 5 ∧ v = .int .i64 x
  | 10 => ∃ g : Nat, v = .slice (some ⟨g, 0, none⟩) 5 5 ∧ g ≠ b ∧ ∀ i, i < 5 → ∃ y : Int, W.cell? ⟨g, i, none⟩ = some (.int .i64 y)
  | 11 => v = .pointer (some ⟨b, 0, none⟩)
  | 12 => ∃ x : Int, 0 ≤ x ∧ x < 9 ∧ v = .int .i64 x
  | 13 => ∃ x : Int, 0 ≤ x ∧ x < 45 ∧ v = .int .i64 x
  | 14 => ∃ x : Int, 0 ≤ x ∧ x < 5 ∧ v = .int .i64 x
  | 15 => ∃ (g i : Nat) (y : Int), g ≠ b ∧ v = .pointer (some ⟨g, i, none⟩) ∧ W.cell? ⟨g, i, none⟩ = some (.int .i64 y)
  | 16 => ∃ y : Int, v = .int .i64 y
  | 17 => ∃ y : Int, v = .agg #[.string s, .int .i64 y]
  | 18 => ∃ (gx : Nat) (y : Int), v = .slice (some ⟨gx, 0, none⟩) 1 1 ∧ W.heap[gx]? = some (.cells #[.string s, .int .i64 y] 67 (0, 0)) ∧ gx ≠ b
  | _ => True
theorem SPr.kept {b lb vi : Nat} {s : ByteArray} {ov : Value} {i : Nat} {W W' : World} {v : Value} (h : SPr b lb vi s ov i W v) (hg : W.grownBy W' (some b)) : SPr b lb vi s ov i W' v := by
  match i, h with
  | 0, h | 1, h | 2, h | 3, h | 4, h | 5, h | 6, h | 7, h | 8, h | 9, h | 11, h | 12, h | 13, h | 14, h | 16, h | 17, h => exact h
  | 10, ⟨g, e, hn, hc⟩ => exact ⟨g, e, hn, fun i hi => (hc i hi).imp fun y hy => hg.cell hy (by simpa using hn)⟩
  | 15, ⟨g, i, y, hn, e, hc⟩ => exact ⟨g, i, y, hn, e, hg.cell hc (by simpa using hn)⟩
  | 18, ⟨gx, y, e, hz, hn⟩ => exact ⟨gx, y, e, (hg.block gx (Array.getElem?_eq_some_iff.1 hz).1 (fun e => hn (Option.some.inj e))).trans hz, hn⟩
  | n + 19, _ => exact True.intro
theorem five_at {w : World} {x1 x2 : Int} : ∀ i, i < 5 → ∃ y : Int, (w.alloc (.cells #[.int .i64 x1, .int .i64 x2, .int .i64 0, .int .i64 100000, .int .i64 1000000000000] 3)).cell? ⟨w.heap.size, i, none⟩ = some (.int .i64 y) := fun i hi => ⟨_, ints_at 3 w.heap.size rfl [x1, x2, 0, 100000, 1000000000000] rfl i hi⟩
set_option maxRecDepth 100000 in
set_option maxHeartbeats 16000000 in
theorem drawPairs (b p : Nat) (w : World) (hr : Rd b w b p) (hp : p ≤ 100000) :
    Calls Tryz.prog 44 #[.pointer (some ⟨b, 0, none⟩)] w (DrawnP b p w) := by
  obtain ⟨i0, hi, hz0, hz1, hz2⟩ := info_parts infoPairD
  have HBL : Hid (b < w.heap.size) := hr.le.2
  have hown0 : (w.alloc (.cells #[] 67)).ownsRow w.heap.size 67 2 (.slice (some ⟨w.heap.size, 0, none⟩) 0 0) 0 (cellsP []) := World.ownsRow_made w #[] 0 (Nat.le_refl _) (by unfold maxLen; omega) rfl
  have hB1 : Below w.heap.size w (w.alloc (.cells #[] 67)) := (Below.refl _ _).alloc (Nat.le_refl _) _
  have hB2 : Below (w.alloc (.cells #[] 67)).heap.size (w.alloc (.cells #[] 67)) ((w.alloc (.cells #[] 67)).alloc (.cells #[.string ⟨#[97]⟩, .string ⟨#[98]⟩, .string ⟨#[117, 115, 101]⟩, .string ⟨#[108, 101, 103, 115]⟩, .string ⟨#[115, 101, 97, 116, 115]⟩, .string ⟨#[116, 105, 109, 101]⟩] 9)) := (Below.refl _ _).alloc (Nat.le_refl _) _
  have O0 := Lib.hid (own_rowKept (row := none) hown0 (grown_any hB2) (fun b e => by cases e))
  have R0 := Lib.hid (rd_alloc (rd_alloc hr (.cells #[] 67)) (.cells #[.string ⟨#[97]⟩, .string ⟨#[98]⟩, .string ⟨#[117, 115, 101]⟩, .string ⟨#[108, 101, 103, 115]⟩, .string ⟨#[115, 101, 97, 116, 115]⟩, .string ⟨#[116, 105, 109, 101]⟩] 9))
  have G0 := Lib.hid (grown_trans (grown_any hB1 (row := some b)) (grown_any hB2 (row := some b)))
  have N0 : Hid (∀ i, (h : i < 6) → ((w.alloc (.cells #[] 67)).alloc (.cells #[.string ⟨#[97]⟩, .string ⟨#[98]⟩, .string ⟨#[117, 115, 101]⟩, .string ⟨#[108, 101, 103, 115]⟩, .string ⟨#[115, 101, 97, 116, 115]⟩, .string ⟨#[116, 105, 109, 101]⟩] 9)).cell? ⟨w.heap.size + 1, i, none⟩ = some (.string ([(⟨#[97]⟩ : ByteArray), (⟨#[98]⟩ : ByteArray), (⟨#[117, 115, 101]⟩ : ByteArray), (⟨#[108, 101, 103, 115]⟩ : ByteArray), (⟨#[115, 101, 97, 116, 115]⟩ : ByteArray), (⟨#[116, 105, 109, 101]⟩ : ByteArray)].getD i ByteArray.empty))) := fun i hi => lits_at 9 (w := w.alloc (.cells #[] 67)) (w.heap.size + 1) (by simp only [World.size_alloc]) [(⟨#[97]⟩ : ByteArray), (⟨#[98]⟩ : ByteArray), (⟨#[117, 115, 101]⟩ : ByteArray), (⟨#[108, 101, 103, 115]⟩ : ByteArray), (⟨#[115, 101, 97, 116, 115]⟩ : ByteArray), (⟨#[116, 105, 109, 101]⟩ : ByteArray)] rfl i hi
  have NS : Hid (∀ i, (h : i < 6) → ([(⟨#[97]⟩ : ByteArray), (⟨#[98]⟩ : ByteArray), (⟨#[117, 115, 101]⟩ : ByteArray), (⟨#[108, 101, 103, 115]⟩ : ByteArray), (⟨#[115, 101, 97, 116, 115]⟩ : ByteArray), (⟨#[116, 105, 109, 101]⟩ : ByteArray)].getD i ByteArray.empty).size ≤ 5) := fun i hi => by
    have : i = 0 ∨ i = 1 ∨ i = 2 ∨ i = 3 ∨ i = 4 ∨ i = 5 := by omega
    rcases this with rfl | rfl | rfl | rfl | rfl | rfl <;> decide
  have S0 : w.heap.size + 2 ≤ ((w.alloc (.cells #[] 67)).alloc (.cells #[.string ⟨#[97]⟩, .string ⟨#[98]⟩, .string ⟨#[117, 115, 101]⟩, .string ⟨#[108, 101, 103, 115]⟩, .string ⟨#[115, 101, 97, 116, 115]⟩, .string ⟨#[116, 105, 109, 101]⟩] 9)).heap.size := by simp only [World.size_alloc]; omega
  clear hr hown0 hB1 hB2
  go_enter Tryz.func44, Tryz.ntmps44
  go_wp2_with fail
  generalize hW0 : ((w.alloc (.cells #[] 67)).alloc (.cells #[.string ⟨#[97]⟩, .string ⟨#[98]⟩, .string ⟨#[117, 115, 101]⟩, .string ⟨#[108, 101, 103, 115]⟩, .string ⟨#[115, 101, 97, 116, 115]⟩, .string ⟨#[116, 105, 109, 101]⟩] 9)) = W0 at *
  clear hW0
  go_loopw [3, 5] (fun vo vi wr => ∃ (i q n c : Nat) (a : Option Addr) (ns : List (ByteArray × Int)), i ≤ 6 ∧ vi = .int .i64 i ∧ vo = .slice a n c ∧ Hid (n = ns.length) ∧ n ≤ i ∧ Hid (wr.ownsRow w.heap.size 67 2 (.slice a n c) n (cellsP ns)) ∧ Hid (∀ g, (Value.slice a n c).ownBlock = some g → g ≠ w.heap.size + 1) ∧ Hid (Rd b wr b q) ∧ q ≤ p + i * 22 ∧ Hid (∀ i, (h : i < 6) → wr.cell? ⟨w.heap.size + 1, i, none⟩ = some (.string ([(⟨#[97]⟩ : ByteArray), (⟨#[98]⟩ : ByteArray), (⟨#[117, 115, 101]⟩ : ByteArray), (⟨#[108, 101, 103, 115]⟩ : ByteArray), (⟨#[115, 101, 97, 116, 115]⟩ : ByteArray), (⟨#[116, 105, 109, 101]⟩ : ByteArray)].getD i ByteArray.empty))) ∧ Hid (w.grownBy wr (some b)) ∧ w.heap.size + 2 ≤ wr.heap.size) (fun _ vi _ => 6 - (intOf vi).toNat)
  case atStart => exact ⟨0, p, 0, 0, some ⟨w.heap.size, 0, none⟩, [], Nat.zero_le _, rfl, rfl, Lib.hid rfl, Nat.le_refl _, O0, fun g e => by simp [Value.ownBlock] at e; omega, R0, by omega, N0, G0, S0⟩
  case round =>
    obtain ⟨i, q, n, c, a, ns, hi6, rfl, rfl, hnl, hni, hO, hne, hR, hq, hN, hG, hS⟩ := hrel
    clear R0 N0 G0 O0
    have hbw : b < wr.heap.size := hR.out.le.2
    rcases Nat.lt_or_ge i 6 with hlt | hge
    · have k1 : decide ((i : Int) < 6) = true := decide_eq_true (by omega)
      have k2 : (i : Int) < 6 := by omega
      have k0 : (0 : Int) ≤ i := by omega
      have kw : IntKind.i64.wrap ((i : Int) + 1) = ((i + 1 : Nat) : Int) := by rw [IntWalk.i64_in _ (by omega)]; omega
      go_wp2_with fail
      refine (pick b b q 12 _ hR.out (by omega) (by omega) (by omega)).mono ?_
      rintro e w1 ⟨x0, a0, b0, rfl, hr1, hg1, -⟩
      have hs1 : wr.heap.size ≤ w1.heap.size := hg1.size
      have hO1 := own_rowKept hO.out hg1 (fun g e e2 => by injection e with e; have := (hO.out.lt g e2).1; have := HBL.out; omega)
      have hN1 : ∀ i, (h : i < 6) → w1.cell? ⟨w.heap.size + 1, i, none⟩ = some (.string ([(⟨#[97]⟩ : ByteArray), (⟨#[98]⟩ : ByteArray), (⟨#[117, 115, 101]⟩ : ByteArray), (⟨#[108, 101, 103, 115]⟩ : ByteArray), (⟨#[115, 101, 97, 116, 115]⟩ : ByteArray), (⟨#[116, 105, 109, 101]⟩ : ByteArray)].getD i ByteArray.empty)) := fun i h => hg1.cell (hN.out i h) (by have := HBL.out; simp; omega)
      have hG1 := grown_trans hG.out hg1
      rcases Int.lt_or_le 0 x0 with hx0 | hx0
      · have kz : decide (0 < x0) = true := decide_eq_true hx0
        have s0 := hN1 i hlt
        obtain ⟨s, hs⟩ : ∃ s, s = [(⟨#[97]⟩ : ByteArray), (⟨#[98]⟩ : ByteArray), (⟨#[117, 115, 101]⟩ : ByteArray), (⟨#[108, 101, 103, 115]⟩ : ByteArray), (⟨#[115, 101, 97, 116, 115]⟩ : ByteArray), (⟨#[116, 105, 109, 101]⟩ : ByteArray)].getD i ByteArray.empty := ⟨_, rfl⟩
        rw [← hs] at s0
        have HO1 := Lib.hid hO1
        have HN1 := Lib.hid hN1
        have HG1 := Lib.hid hG1
        have HS := Lib.hid hs
        clear hO1 hN1 hG1 hs hg1 hN hG hO
        have hlb : w.heap.size + 1 ≠ b := by have := HBL.out; omega
        have HLBX := Lib.hid hlb
        have HI0 : Hid (IPr b (w.heap.size + 1) w a n c ns (fun i => [(⟨#[97]⟩ : ByteArray), (⟨#[98]⟩ : ByteArray), (⟨#[117, 115, 101]⟩ : ByteArray), (⟨#[108, 101, 103, 115]⟩ : ByteArray), (⟨#[115, 101, 97, 116, 115]⟩ : ByteArray), (⟨#[116, 105, 109, 101]⟩ : ByteArray)].getD i ByteArray.empty) (q + 1) 0 w1.drew) := ⟨⟨q + 1, hr1.kept (belowN (Below.refl _ _) 1) rfl, by omega⟩, own_rowKept (row := none) HO1.out (grownN w1 1 none) (fun b e => by cases e), grown_trans HG1.out (grownN w1 1 _), HN1.out⟩
        go_upto_region 7 with fail
        refine wp_region_invK (by kernel_rfl) (fun kk L f W => TX 19 (IPr b (w.heap.size + 1) w a n c ns (fun i => [(⟨#[97]⟩ : ByteArray), (⟨#[98]⟩ : ByteArray), (⟨#[117, 115, 101]⟩ : ByteArray), (⟨#[108, 101, 103, 115]⟩ : ByteArray), (⟨#[115, 101, 97, 116, 115]⟩ : ByteArray), (⟨#[116, 105, 109, 101]⟩ : ByteArray)].getD i ByteArray.empty) (q + 1)) (SPr b (w.heap.size + 1) i s (.slice a n c)) (.slice a n c) (fun v W => ∃ (a9 : Option Addr) (c9 : Nat) (y : Int), v = .slice a9 (n + 1) c9 ∧ W.ownsRow w.heap.size 67 2 v (n + 1) (cellsP (ns ++ [(s, y)])) ∧ (∀ k, v.ownBlock = some k → k ≠ w.heap.size + 1) ∧ (∃ q9, Rd b W b q9 ∧ q9 ≤ q + 1 + 21) ∧ w.grownBy W (some b) ∧ (∀ i, i < 6 → W.cell? ⟨w.heap.size + 1, i, none⟩ = some (.string ([(⟨#[97]⟩ : ByteArray), (⟨#[98]⟩ : ByteArray), (⟨#[117, 115, 101]⟩ : ByteArray), (⟨#[108, 101, 103, 115]⟩ : ByteArray), (⟨#[115, 101, 97, 116, 115]⟩ : ByteArray), (⟨#[116, 105, 109, 101]⟩ : ByteArray)].getD i ByteArray.empty)))) kk L f W) (by kernel_rfl) (TX.start rfl (HI0.out)) ?_
        apply Exists.intro
        apply And.intro
        · intro f
          simp only [over, List.set]
          exact rfl
        refine ⟨?hops, ?hend⟩
        case hops =>
          refine EachOp.cons ?_ (EachOp.cons ?_ (EachOp.cons ?_ (EachOp.cons ?_ (EachOp.cons ?_ (EachOp.cons ?_ (EachOp.cons ?_ (EachOp.cons ?_ (EachOp.cons ?_ (EachOp.cons ?_ (EachOp.cons ?_ (EachOp.cons ?_ (EachOp.cons ?_ (EachOp.cons ?_ (EachOp.cons ?_ (EachOp.cons ?_ (EachOp.cons ?_ (EachOp.cons ?_ (EachOp.cons ?_ (EachOp.cons ?_ (EachOp.cons ?_ (EachOp.nil)))))))))))))))))))))
          · intro L ff kk ww hkk hJ hcl hLi hwt QQ' hQ
            try dsimp only
            have nm : L 19 = false := by
              cases hx : L 19 with
              | false => rfl
              | true =>
                have h19x := hx
                have h0x : L 0 = true := hcl 19 _ rfl h19x 0 (by decide)
                have h2 : L 0 = false := hLi
                rw [h0x] at h2; cases h2
            have nm1 : L 20 = false := by
              cases hx : L 20 with
              | false => rfl
              | true =>
                have h20x := hx
                have h19x : L 19 = true := hcl 20 _ rfl h20x 19 (by decide)
                have h0x : L 0 = true := hcl 19 _ rfl h19x 0 (by decide)
                have h2 : L 0 = false := hLi
                rw [h0x] at h2; cases h2
            have hI := hJ.inv nm
            have cz : ff 20 = _ := hJ.zero nm1
            go_big_wp2_with fail
            refine hQ _ _ _ ?_ (hJ.pre_op (i := 0) (by decide) nm nm1 (hI.next) (fun j v h => h.kept (grownN ww 0 _)) (rfl))
            first | rfl | (simp [upd, cz]; done)
          · intro L ff kk ww hkk hJ hcl hLi hwt QQ' hQ
            try dsimp only
            have nm : L 19 = false := by
              cases hx : L 19 with
              | false => rfl
              | true =>
                have h19x := hx
                have h18x : L 18 = true := hcl 19 _ rfl h19x 18 (by decide)
                have h17x : L 17 = true := hcl 18 _ rfl h18x 17 (by decide)
                have h4x : L 4 = true := hcl 17 _ rfl h17x 4 (by decide)
                have h3x : L 3 = true := hcl 4 _ rfl h4x 3 (by decide)
                have h1x : L 1 = true := hcl 3 _ rfl h3x 1 (by decide)
                have h2 : L 1 = false := hLi
                rw [h1x] at h2; cases h2
            have nm1 : L 20 = false := by
              cases hx : L 20 with
              | false => rfl
              | true =>
                have h20x := hx
                have h19x : L 19 = true := hcl 20 _ rfl h20x 19 (by decide)
                have h18x : L 18 = true := hcl 19 _ rfl h19x 18 (by decide)
                have h17x : L 17 = true := hcl 18 _ rfl h18x 17 (by decide)
                have h4x : L 4 = true := hcl 17 _ rfl h17x 4 (by decide)
                have h3x : L 3 = true := hcl 4 _ rfl h4x 3 (by decide)
                have h1x : L 1 = true := hcl 3 _ rfl h3x 1 (by decide)
                have h2 : L 1 = false := hLi
                rw [h1x] at h2; cases h2
            have hI := hJ.inv nm
            go_big_wp2_with fail
            refine hQ _ _ _ ?_ (hJ.pre_op (i := 1) (by decide) nm nm1 (hI.next) (fun j v h => h.kept (grownN ww 0 _)) (rfl))
            first | rfl | (simp [upd]; done)
          · intro L ff kk ww hkk hJ hcl hLi hwt QQ' hQ
            try dsimp only
            have nm : L 19 = false := by
              cases hx : L 19 with
              | false => rfl
              | true =>
                have h19x := hx
                have h18x : L 18 = true := hcl 19 _ rfl h19x 18 (by decide)
                have h17x : L 17 = true := hcl 18 _ rfl h18x 17 (by decide)
                have h4x : L 4 = true := hcl 17 _ rfl h17x 4 (by decide)
                have h3x : L 3 = true := hcl 4 _ rfl h4x 3 (by decide)
                have h2x : L 2 = true := hcl 3 _ rfl h3x 2 (by decide)
                have h2 : L 2 = false := hLi
                rw [h2x] at h2; cases h2
            have nm1 : L 20 = false := by
              cases hx : L 20 with
              | false => rfl
              | true =>
                have h20x := hx
                have h19x : L 19 = true := hcl 20 _ rfl h20x 19 (by decide)
                have h18x : L 18 = true := hcl 19 _ rfl h19x 18 (by decide)
                have h17x : L 17 = true := hcl 18 _ rfl h18x 17 (by decide)
                have h4x : L 4 = true := hcl 17 _ rfl h17x 4 (by decide)
                have h3x : L 3 = true := hcl 4 _ rfl h4x 3 (by decide)
                have h2x : L 2 = true := hcl 3 _ rfl h3x 2 (by decide)
                have h2 : L 2 = false := hLi
                rw [h2x] at h2; cases h2
            have hI := hJ.inv nm
            go_big_wp2_with fail
            refine hQ _ _ _ ?_ (hJ.pre_op (i := 2) (by decide) nm nm1 (hI.next) (fun j v h => h.kept (grownN ww 0 _)) (rfl))
            first | rfl | (simp [upd]; done)
          · intro L ff kk ww hkk hJ hcl hLi hwt QQ' hQ
            try dsimp only
            have nm : L 19 = false := by
              cases hx : L 19 with
              | false => rfl
              | true =>
                have h19x := hx
                have h18x : L 18 = true := hcl 19 _ rfl h19x 18 (by decide)
                have h17x : L 17 = true := hcl 18 _ rfl h18x 17 (by decide)
                have h4x : L 4 = true := hcl 17 _ rfl h17x 4 (by decide)
                have h3x : L 3 = true := hcl 4 _ rfl h4x 3 (by decide)
                have h2 : L 3 = false := hLi
                rw [h3x] at h2; cases h2
            have nm1 : L 20 = false := by
              cases hx : L 20 with
              | false => rfl
              | true =>
                have h20x := hx
                have h19x : L 19 = true := hcl 20 _ rfl h20x 19 (by decide)
                have h18x : L 18 = true := hcl 19 _ rfl h19x 18 (by decide)
                have h17x : L 17 = true := hcl 18 _ rfl h18x 17 (by decide)
                have h4x : L 4 = true := hcl 17 _ rfl h17x 4 (by decide)
                have h3x : L 3 = true := hcl 4 _ rfl h4x 3 (by decide)
                have h2 : L 3 = false := hLi
                rw [h3x] at h2; cases h2
            have hI := hJ.inv nm
            have c1' : ff 1 = _ := hJ.pre 1 (by decide) (hwt 1 (by decide)) nm
            have c2' : ff 2 = _ := hJ.pre 2 (by decide) (hwt 2 (by decide)) nm
            go_big_wp2_with fail
            refine hQ _ _ _ ?_ (hJ.pre_op (i := 3) (by decide) nm nm1 (hI.next) (fun j v h => h.kept (grownN ww 0 _)) (rfl))
            first | rfl | (simp [upd, c1', c2']; done)
          · intro L ff kk ww hkk hJ hcl hLi hwt QQ' hQ
            try dsimp only
            have nm : L 19 = false := by
              cases hx : L 19 with
              | false => rfl
              | true =>
                have h19x := hx
                have h18x : L 18 = true := hcl 19 _ rfl h19x 18 (by decide)
                have h17x : L 17 = true := hcl 18 _ rfl h18x 17 (by decide)
                have h4x : L 4 = true := hcl 17 _ rfl h17x 4 (by decide)
                have h2 : L 4 = false := hLi
                rw [h4x] at h2; cases h2
            have nm1 : L 20 = false := by
              cases hx : L 20 with
              | false => rfl
              | true =>
                have h20x := hx
                have h19x : L 19 = true := hcl 20 _ rfl h20x 19 (by decide)
                have h18x : L 18 = true := hcl 19 _ rfl h19x 18 (by decide)
                have h17x : L 17 = true := hcl 18 _ rfl h18x 17 (by decide)
                have h4x : L 4 = true := hcl 17 _ rfl h17x 4 (by decide)
                have h2 : L 4 = false := hLi
                rw [h4x] at h2; cases h2
            have hI := hJ.inv nm
            have hcs := hI.2.2.2 i hlt
            rw [show (fun i => [(⟨#[97]⟩ : ByteArray), (⟨#[98]⟩ : ByteArray), (⟨#[117, 115, 101]⟩ : ByteArray), (⟨#[108, 101, 103, 115]⟩ : ByteArray), (⟨#[115, 101, 97, 116, 115]⟩ : ByteArray), (⟨#[116, 105, 109, 101]⟩ : ByteArray)].getD i ByteArray.empty) i = s from HS.out.symm] at hcs
            have c3' : ff 3 = _ := hJ.pre 3 (by decide) (hwt 3 (by decide)) nm
            go_big_wp2_with fail
            refine hQ _ _ _ ?_ (hJ.pre_op (i := 4) (by decide) nm nm1 (hI.next) (fun j v h => h.kept (grownN ww 0 _)) (rfl))
            first | rfl | (simp [upd, c3']; done)
          · intro L ff kk ww hkk hJ hcl hLi hwt QQ' hQ
            try dsimp only
            have nm : L 19 = false := by
              cases hx : L 19 with
              | false => rfl
              | true =>
                have h19x := hx
                have h18x : L 18 = true := hcl 19 _ rfl h19x 18 (by decide)
                have h17x : L 17 = true := hcl 18 _ rfl h18x 17 (by decide)
                have h16x : L 16 = true := hcl 17 _ rfl h17x 16 (by decide)
                have h15x : L 15 = true := hcl 16 _ rfl h16x 15 (by decide)
                have h10x : L 10 = true := hcl 15 _ rfl h15x 10 (by decide)
                have h6x : L 6 = true := hcl 10 _ rfl h10x 6 (by decide)
                have h5x : L 5 = true := hcl 6 _ rfl h6x 5 (by decide)
                have h2 : L 5 = false := hLi
                rw [h5x] at h2; cases h2
            have nm1 : L 20 = false := by
              cases hx : L 20 with
              | false => rfl
              | true =>
                have h20x := hx
                have h19x : L 19 = true := hcl 20 _ rfl h20x 19 (by decide)
                have h18x : L 18 = true := hcl 19 _ rfl h19x 18 (by decide)
                have h17x : L 17 = true := hcl 18 _ rfl h18x 17 (by decide)
                have h16x : L 16 = true := hcl 17 _ rfl h17x 16 (by decide)
                have h15x : L 15 = true := hcl 16 _ rfl h16x 15 (by decide)
                have h10x : L 10 = true := hcl 15 _ rfl h15x 10 (by decide)
                have h6x : L 6 = true := hcl 10 _ rfl h10x 6 (by decide)
                have h5x : L 5 = true := hcl 6 _ rfl h6x 5 (by decide)
                have h2 : L 5 = false := hLi
                rw [h5x] at h2; cases h2
            have hI := hJ.inv nm
            go_big_wp2_with fail
            refine hQ _ _ _ ?_ (hJ.pre_op (i := 5) (by decide) nm nm1 (hI.next) (fun j v h => h.kept (grownN ww 0 _)) (rfl))
            first | rfl | (simp [upd]; done)
          · intro L ff kk ww hkk hJ hcl hLi hwt QQ' hQ
            try dsimp only
            have nm : L 19 = false := by
              cases hx : L 19 with
              | false => rfl
              | true =>
                have h19x := hx
                have h18x : L 18 = true := hcl 19 _ rfl h19x 18 (by decide)
                have h17x : L 17 = true := hcl 18 _ rfl h18x 17 (by decide)
                have h16x : L 16 = true := hcl 17 _ rfl h17x 16 (by decide)
                have h15x : L 15 = true := hcl 16 _ rfl h16x 15 (by decide)
                have h10x : L 10 = true := hcl 15 _ rfl h15x 10 (by decide)
                have h6x : L 6 = true := hcl 10 _ rfl h10x 6 (by decide)
                have h2 : L 6 = false := hLi
                rw [h6x] at h2; cases h2
            have nm1 : L 20 = false := by
              cases hx : L 20 with
              | false => rfl
              | true =>
                have h20x := hx
                have h19x : L 19 = true := hcl 20 _ rfl h20x 19 (by decide)
                have h18x : L 18 = true := hcl 19 _ rfl h19x 18 (by decide)
                have h17x : L 17 = true := hcl 18 _ rfl h18x 17 (by decide)
                have h16x : L 16 = true := hcl 17 _ rfl h17x 16 (by decide)
                have h15x : L 15 = true := hcl 16 _ rfl h16x 15 (by decide)
                have h10x : L 10 = true := hcl 15 _ rfl h15x 10 (by decide)
                have h6x : L 6 = true := hcl 10 _ rfl h10x 6 (by decide)
                have h2 : L 6 = false := hLi
                rw [h6x] at h2; cases h2
            have hI := hJ.inv nm
            have hkk2 : kk < 21 := hkk
            obtain ⟨q0, hr0, hq0⟩ := hI.1
            have c5' : ff 5 = _ := hJ.pre 5 (by decide) (hwt 5 (by decide)) nm
            go_big_wp2_with fail
            refine (pick b b q0 60 ww hr0 (by omega) (by omega) (by omega)).mono ?_
            rintro e wa ⟨x, x0', x1', rfl, hra, hga, -⟩
            go_big_wp2_with fail
            refine hQ _ _ wa ?_ (hJ.pre_op (i := 6) (by decide) nm nm1 (hI.grown HBL.out HLBX.out hra (by omega) hga) (fun j v h => h.kept (hga)) (⟨x, x0', x1', rfl⟩))
            first | rfl | (simp [upd, c5']; done)
          · intro L ff kk ww hkk hJ hcl hLi hwt QQ' hQ
            try dsimp only
            have nm : L 19 = false := by
              cases hx : L 19 with
              | false => rfl
              | true =>
                have h19x := hx
                have h18x : L 18 = true := hcl 19 _ rfl h19x 18 (by decide)
                have h17x : L 17 = true := hcl 18 _ rfl h18x 17 (by decide)
                have h16x : L 16 = true := hcl 17 _ rfl h17x 16 (by decide)
                have h15x : L 15 = true := hcl 16 _ rfl h16x 15 (by decide)
                have h10x : L 10 = true := hcl 15 _ rfl h15x 10 (by decide)
                have h9x : L 9 = true := hcl 10 _ rfl h10x 9 (by decide)
                have h8x : L 8 = true := hcl 9 _ rfl h9x 8 (by decide)
                have h7x : L 7 = true := hcl 8 _ rfl h8x 7 (by decide)
                have h2 : L 7 = false := hLi
                rw [h7x] at h2; cases h2
            have nm1 : L 20 = false := by
              cases hx : L 20 with
              | false => rfl
              | true =>
                have h20x := hx
                have h19x : L 19 = true := hcl 20 _ rfl h20x 19 (by decide)
                have h18x : L 18 = true := hcl 19 _ rfl h19x 18 (by decide)
                have h17x : L 17 = true := hcl 18 _ rfl h18x 17 (by decide)
                have h16x : L 16 = true := hcl 17 _ rfl h17x 16 (by decide)
                have h15x : L 15 = true := hcl 16 _ rfl h16x 15 (by decide)
                have h10x : L 10 = true := hcl 15 _ rfl h15x 10 (by decide)
                have h9x : L 9 = true := hcl 10 _ rfl h10x 9 (by decide)
                have h8x : L 8 = true := hcl 9 _ rfl h9x 8 (by decide)
                have h7x : L 7 = true := hcl 8 _ rfl h8x 7 (by decide)
                have h2 : L 7 = false := hLi
                rw [h7x] at h2; cases h2
            have hI := hJ.inv nm
            go_big_wp2_with fail
            refine hQ _ _ _ ?_ (hJ.pre_op (i := 7) (by decide) nm nm1 (hI.next) (fun j v h => h.kept (grownN ww 0 _)) (rfl))
            first | rfl | (simp [upd]; done)
          · intro L ff kk ww hkk hJ hcl hLi hwt QQ' hQ
            try dsimp only
            have nm : L 19 = false := by
              cases hx : L 19 with
              | false => rfl
              | true =>
                have h19x := hx
                have h18x : L 18 = true := hcl 19 _ rfl h19x 18 (by decide)
                have h17x : L 17 = true := hcl 18 _ rfl h18x 17 (by decide)
                have h16x : L 16 = true := hcl 17 _ rfl h17x 16 (by decide)
                have h15x : L 15 = true := hcl 16 _ rfl h16x 15 (by decide)
                have h10x : L 10 = true := hcl 15 _ rfl h15x 10 (by decide)
                have h9x : L 9 = true := hcl 10 _ rfl h10x 9 (by decide)
                have h8x : L 8 = true := hcl 9 _ rfl h9x 8 (by decide)
                have h2 : L 8 = false := hLi
                rw [h8x] at h2; cases h2
            have nm1 : L 20 = false := by
              cases hx : L 20 with
              | false => rfl
              | true =>
                have h20x := hx
                have h19x : L 19 = true := hcl 20 _ rfl h20x 19 (by decide)
                have h18x : L 18 = true := hcl 19 _ rfl h19x 18 (by decide)
                have h17x : L 17 = true := hcl 18 _ rfl h18x 17 (by decide)
                have h16x : L 16 = true := hcl 17 _ rfl h17x 16 (by decide)
                have h15x : L 15 = true := hcl 16 _ rfl h16x 15 (by decide)
                have h10x : L 10 = true := hcl 15 _ rfl h15x 10 (by decide)
                have h9x : L 9 = true := hcl 10 _ rfl h10x 9 (by decide)
                have h8x : L 8 = true := hcl 9 _ rfl h9x 8 (by decide)
                have h2 : L 8 = false := hLi
                rw [h8x] at h2; cases h2
            have hI := hJ.inv nm
            have hkk2 : kk < 21 := hkk
            obtain ⟨q0, hr0, hq0⟩ := hI.1
            have c7' : ff 7 = _ := hJ.pre 7 (by decide) (hwt 7 (by decide)) nm
            go_big_wp2_with fail
            refine (pick b b q0 9 ww hr0 (by omega) (by omega) (by omega)).mono ?_
            rintro e wa ⟨x, x0', x1', rfl, hra, hga, -⟩
            go_big_wp2_with fail
            refine hQ _ _ wa ?_ (hJ.pre_op (i := 8) (by decide) nm nm1 (hI.grown HBL.out HLBX.out hra (by omega) hga) (fun j v h => h.kept (hga)) (⟨x, x0', x1', rfl⟩))
            first | rfl | (simp [upd, c7']; done)
          · intro L ff kk ww hkk hJ hcl hLi hwt QQ' hQ
            try dsimp only
            have nm : L 19 = false := by
              cases hx : L 19 with
              | false => rfl
              | true =>
                have h19x := hx
                have h18x : L 18 = true := hcl 19 _ rfl h19x 18 (by decide)
                have h17x : L 17 = true := hcl 18 _ rfl h18x 17 (by decide)
                have h16x : L 16 = true := hcl 17 _ rfl h17x 16 (by decide)
                have h15x : L 15 = true := hcl 16 _ rfl h16x 15 (by decide)
                have h10x : L 10 = true := hcl 15 _ rfl h15x 10 (by decide)
                have h9x : L 9 = true := hcl 10 _ rfl h10x 9 (by decide)
                have h2 : L 9 = false := hLi
                rw [h9x] at h2; cases h2
            have nm1 : L 20 = false := by
              cases hx : L 20 with
              | false => rfl
              | true =>
                have h20x := hx
                have h19x : L 19 = true := hcl 20 _ rfl h20x 19 (by decide)
                have h18x : L 18 = true := hcl 19 _ rfl h19x 18 (by decide)
                have h17x : L 17 = true := hcl 18 _ rfl h18x 17 (by decide)
                have h16x : L 16 = true := hcl 17 _ rfl h17x 16 (by decide)
                have h15x : L 15 = true := hcl 16 _ rfl h16x 15 (by decide)
                have h10x : L 10 = true := hcl 15 _ rfl h15x 10 (by decide)
                have h9x : L 9 = true := hcl 10 _ rfl h10x 9 (by decide)
                have h2 : L 9 = false := hLi
                rw [h9x] at h2; cases h2
            have hI := hJ.inv nm
            obtain ⟨x, x0', x1', e8⟩ := hJ.pre 8 (by decide) (hwt 8 (by decide)) nm
            have c8' : ff 8 = _ := e8
            have wr1 : IntKind.i64.wrap (x - 4) = x - 4 := IntWalk.i64_in _ (by omega)
            go_big_wp2_with fail
            refine hQ _ _ _ ?_ (hJ.pre_op (i := 9) (by decide) nm nm1 (hI.next) (fun j v h => h.kept (grownN ww 0 _)) (⟨x - 4, by omega, by omega, rfl⟩))
            first | rfl | (simp [upd, c8']; done)
          · intro L ff kk ww hkk hJ hcl hLi hwt QQ' hQ
            try dsimp only
            have nm : L 19 = false := by
              cases hx : L 19 with
              | false => rfl
              | true =>
                have h19x := hx
                have h18x : L 18 = true := hcl 19 _ rfl h19x 18 (by decide)
                have h17x : L 17 = true := hcl 18 _ rfl h18x 17 (by decide)
                have h16x : L 16 = true := hcl 17 _ rfl h17x 16 (by decide)
                have h15x : L 15 = true := hcl 16 _ rfl h16x 15 (by decide)
                have h10x : L 10 = true := hcl 15 _ rfl h15x 10 (by decide)
                have h2 : L 10 = false := hLi
                rw [h10x] at h2; cases h2
            have nm1 : L 20 = false := by
              cases hx : L 20 with
              | false => rfl
              | true =>
                have h20x := hx
                have h19x : L 19 = true := hcl 20 _ rfl h20x 19 (by decide)
                have h18x : L 18 = true := hcl 19 _ rfl h19x 18 (by decide)
                have h17x : L 17 = true := hcl 18 _ rfl h18x 17 (by decide)
                have h16x : L 16 = true := hcl 17 _ rfl h17x 16 (by decide)
                have h15x : L 15 = true := hcl 16 _ rfl h16x 15 (by decide)
                have h10x : L 10 = true := hcl 15 _ rfl h15x 10 (by decide)
                have h2 : L 10 = false := hLi
                rw [h10x] at h2; cases h2
            have hI := hJ.inv nm
            have hkk2 : kk < 21 := hkk
            obtain ⟨q0, hr0, hq0⟩ := hI.1
            have hbl := hr0.le.2
            obtain ⟨x, x0', x1', e6⟩ := hJ.pre 6 (by decide) (hwt 6 (by decide)) nm
            obtain ⟨y, y0', y1', e9⟩ := hJ.pre 9 (by decide) (hwt 9 (by decide)) nm
            have c6' : ff 6 = _ := e6
            have c9' : ff 9 = _ := e9
            go_big_wp2_with fail
            refine hQ _ _ (ww.alloc (.cells #[.int .i64 x, .int .i64 y, .int .i64 0, .int .i64 100000, .int .i64 1000000000000] 3)) ?_ (hJ.pre_op (i := 10) (by decide) nm nm1 (hI.alloc HBL.out HLBX.out _) (fun j v h => h.kept (grown_alloc _ _)) (⟨ww.heap.size, rfl, by omega, five_at⟩))
            first | rfl | (simp [upd, c6', c9']; done)
          · intro L ff kk ww hkk hJ hcl hLi hwt QQ' hQ
            try dsimp only
            have nm : L 19 = false := by
              cases hx : L 19 with
              | false => rfl
              | true =>
                have h19x := hx
                have h18x : L 18 = true := hcl 19 _ rfl h19x 18 (by decide)
                have h17x : L 17 = true := hcl 18 _ rfl h18x 17 (by decide)
                have h16x : L 16 = true := hcl 17 _ rfl h17x 16 (by decide)
                have h15x : L 15 = true := hcl 16 _ rfl h16x 15 (by decide)
                have h14x : L 14 = true := hcl 15 _ rfl h15x 14 (by decide)
                have h13x : L 13 = true := hcl 14 _ rfl h14x 13 (by decide)
                have h12x : L 12 = true := hcl 13 _ rfl h13x 12 (by decide)
                have h11x : L 11 = true := hcl 12 _ rfl h12x 11 (by decide)
                have h2 : L 11 = false := hLi
                rw [h11x] at h2; cases h2
            have nm1 : L 20 = false := by
              cases hx : L 20 with
              | false => rfl
              | true =>
                have h20x := hx
                have h19x : L 19 = true := hcl 20 _ rfl h20x 19 (by decide)
                have h18x : L 18 = true := hcl 19 _ rfl h19x 18 (by decide)
                have h17x : L 17 = true := hcl 18 _ rfl h18x 17 (by decide)
                have h16x : L 16 = true := hcl 17 _ rfl h17x 16 (by decide)
                have h15x : L 15 = true := hcl 16 _ rfl h16x 15 (by decide)
                have h14x : L 14 = true := hcl 15 _ rfl h15x 14 (by decide)
                have h13x : L 13 = true := hcl 14 _ rfl h14x 13 (by decide)
                have h12x : L 12 = true := hcl 13 _ rfl h13x 12 (by decide)
                have h11x : L 11 = true := hcl 12 _ rfl h12x 11 (by decide)
                have h2 : L 11 = false := hLi
                rw [h11x] at h2; cases h2
            have hI := hJ.inv nm
            go_big_wp2_with fail
            refine hQ _ _ _ ?_ (hJ.pre_op (i := 11) (by decide) nm nm1 (hI.next) (fun j v h => h.kept (grownN ww 0 _)) (rfl))
            first | rfl | (simp [upd]; done)
          · intro L ff kk ww hkk hJ hcl hLi hwt QQ' hQ
            try dsimp only
            have nm : L 19 = false := by
              cases hx : L 19 with
              | false => rfl
              | true =>
                have h19x := hx
                have h18x : L 18 = true := hcl 19 _ rfl h19x 18 (by decide)
                have h17x : L 17 = true := hcl 18 _ rfl h18x 17 (by decide)
                have h16x : L 16 = true := hcl 17 _ rfl h17x 16 (by decide)
                have h15x : L 15 = true := hcl 16 _ rfl h16x 15 (by decide)
                have h14x : L 14 = true := hcl 15 _ rfl h15x 14 (by decide)
                have h13x : L 13 = true := hcl 14 _ rfl h14x 13 (by decide)
                have h12x : L 12 = true := hcl 13 _ rfl h13x 12 (by decide)
                have h2 : L 12 = false := hLi
                rw [h12x] at h2; cases h2
            have nm1 : L 20 = false := by
              cases hx : L 20 with
              | false => rfl
              | true =>
                have h20x := hx
                have h19x : L 19 = true := hcl 20 _ rfl h20x 19 (by decide)
                have h18x : L 18 = true := hcl 19 _ rfl h19x 18 (by decide)
                have h17x : L 17 = true := hcl 18 _ rfl h18x 17 (by decide)
                have h16x : L 16 = true := hcl 17 _ rfl h17x 16 (by decide)
                have h15x : L 15 = true := hcl 16 _ rfl h16x 15 (by decide)
                have h14x : L 14 = true := hcl 15 _ rfl h15x 14 (by decide)
                have h13x : L 13 = true := hcl 14 _ rfl h14x 13 (by decide)
                have h12x : L 12 = true := hcl 13 _ rfl h13x 12 (by decide)
                have h2 : L 12 = false := hLi
                rw [h12x] at h2; cases h2
            have hI := hJ.inv nm
            have hkk2 : kk < 21 := hkk
            obtain ⟨q0, hr0, hq0⟩ := hI.1
            have c11' : ff 11 = _ := hJ.pre 11 (by decide) (hwt 11 (by decide)) nm
            go_big_wp2_with fail
            refine (pick b b q0 9 ww hr0 (by omega) (by omega) (by omega)).mono ?_
            rintro e wa ⟨x, x0', x1', rfl, hra, hga, -⟩
            go_big_wp2_with fail
            refine hQ _ _ wa ?_ (hJ.pre_op (i := 12) (by decide) nm nm1 (hI.grown HBL.out HLBX.out hra (by omega) hga) (fun j v h => h.kept (hga)) (⟨x, x0', x1', rfl⟩))
            first | rfl | (simp [upd, c11']; done)
          · intro L ff kk ww hkk hJ hcl hLi hwt QQ' hQ
            try dsimp only
            have nm : L 19 = false := by
              cases hx : L 19 with
              | false => rfl
              | true =>
                have h19x := hx
                have h18x : L 18 = true := hcl 19 _ rfl h19x 18 (by decide)
                have h17x : L 17 = true := hcl 18 _ rfl h18x 17 (by decide)
                have h16x : L 16 = true := hcl 17 _ rfl h17x 16 (by decide)
                have h15x : L 15 = true := hcl 16 _ rfl h16x 15 (by decide)
                have h14x : L 14 = true := hcl 15 _ rfl h15x 14 (by decide)
                have h13x : L 13 = true := hcl 14 _ rfl h14x 13 (by decide)
                have h2 : L 13 = false := hLi
                rw [h13x] at h2; cases h2
            have nm1 : L 20 = false := by
              cases hx : L 20 with
              | false => rfl
              | true =>
                have h20x := hx
                have h19x : L 19 = true := hcl 20 _ rfl h20x 19 (by decide)
                have h18x : L 18 = true := hcl 19 _ rfl h19x 18 (by decide)
                have h17x : L 17 = true := hcl 18 _ rfl h18x 17 (by decide)
                have h16x : L 16 = true := hcl 17 _ rfl h17x 16 (by decide)
                have h15x : L 15 = true := hcl 16 _ rfl h16x 15 (by decide)
                have h14x : L 14 = true := hcl 15 _ rfl h15x 14 (by decide)
                have h13x : L 13 = true := hcl 14 _ rfl h14x 13 (by decide)
                have h2 : L 13 = false := hLi
                rw [h13x] at h2; cases h2
            have hI := hJ.inv nm
            obtain ⟨x, x0', x1', e12⟩ := hJ.pre 12 (by decide) (hwt 12 (by decide)) nm
            have c12' : ff 12 = _ := e12
            have wr1 : IntKind.i64.wrap (x * 5) = x * 5 := IntWalk.i64_in _ (by omega)
            go_big_wp2_with fail
            refine hQ _ _ _ ?_ (hJ.pre_op (i := 13) (by decide) nm nm1 (hI.next) (fun j v h => h.kept (grownN ww 0 _)) (⟨x * 5, by omega, by omega, rfl⟩))
            first | rfl | (simp [upd, c12']; done)
          · intro L ff kk ww hkk hJ hcl hLi hwt QQ' hQ
            try dsimp only
            have nm : L 19 = false := by
              cases hx : L 19 with
              | false => rfl
              | true =>
                have h19x := hx
                have h18x : L 18 = true := hcl 19 _ rfl h19x 18 (by decide)
                have h17x : L 17 = true := hcl 18 _ rfl h18x 17 (by decide)
                have h16x : L 16 = true := hcl 17 _ rfl h17x 16 (by decide)
                have h15x : L 15 = true := hcl 16 _ rfl h16x 15 (by decide)
                have h14x : L 14 = true := hcl 15 _ rfl h15x 14 (by decide)
                have h2 : L 14 = false := hLi
                rw [h14x] at h2; cases h2
            have nm1 : L 20 = false := by
              cases hx : L 20 with
              | false => rfl
              | true =>
                have h20x := hx
                have h19x : L 19 = true := hcl 20 _ rfl h20x 19 (by decide)
                have h18x : L 18 = true := hcl 19 _ rfl h19x 18 (by decide)
                have h17x : L 17 = true := hcl 18 _ rfl h18x 17 (by decide)
                have h16x : L 16 = true := hcl 17 _ rfl h17x 16 (by decide)
                have h15x : L 15 = true := hcl 16 _ rfl h16x 15 (by decide)
                have h14x : L 14 = true := hcl 15 _ rfl h15x 14 (by decide)
                have h2 : L 14 = false := hLi
                rw [h14x] at h2; cases h2
            have hI := hJ.inv nm
            obtain ⟨x, x0', x1', e13⟩ := hJ.pre 13 (by decide) (hwt 13 (by decide)) nm
            have c13' : ff 13 = _ := e13
            have mt : x.tdiv 9 = x / 9 := Int.tdiv_eq_ediv_of_nonneg x0'
            have mw : IntKind.i64.wrap (x / 9) = x / 9 := IntWalk.i64_in _ (by omega)
            go_big_wp2_with fail
            refine hQ _ (.int .i64 (x / 9)) _ ?_ (hJ.pre_op (i := 14) (by decide) nm nm1 (hI.next) (fun j v h => h.kept (grownN ww 0 _)) (⟨x / 9, by omega, by omega, rfl⟩))
            first | rfl | (simp [upd, c13', mt, mw]; done)
          · intro L ff kk ww hkk hJ hcl hLi hwt QQ' hQ
            try dsimp only
            have nm : L 19 = false := by
              cases hx : L 19 with
              | false => rfl
              | true =>
                have h19x := hx
                have h18x : L 18 = true := hcl 19 _ rfl h19x 18 (by decide)
                have h17x : L 17 = true := hcl 18 _ rfl h18x 17 (by decide)
                have h16x : L 16 = true := hcl 17 _ rfl h17x 16 (by decide)
                have h15x : L 15 = true := hcl 16 _ rfl h16x 15 (by decide)
                have h2 : L 15 = false := hLi
                rw [h15x] at h2; cases h2
            have nm1 : L 20 = false := by
              cases hx : L 20 with
              | false => rfl
              | true =>
                have h20x := hx
                have h19x : L 19 = true := hcl 20 _ rfl h20x 19 (by decide)
                have h18x : L 18 = true := hcl 19 _ rfl h19x 18 (by decide)
                have h17x : L 17 = true := hcl 18 _ rfl h18x 17 (by decide)
                have h16x : L 16 = true := hcl 17 _ rfl h17x 16 (by decide)
                have h15x : L 15 = true := hcl 16 _ rfl h16x 15 (by decide)
                have h2 : L 15 = false := hLi
                rw [h15x] at h2; cases h2
            have hI := hJ.inv nm
            obtain ⟨g, e10, hgb, hgc⟩ := hJ.pre 10 (by decide) (hwt 10 (by decide)) nm
            obtain ⟨x, x0', x1', e14⟩ := hJ.pre 14 (by decide) (hwt 14 (by decide)) nm
            obtain ⟨j, rfl⟩ := Int.eq_ofNat_of_zero_le x0'
            have hj5 : j < 5 := by omega
            obtain ⟨y, hy⟩ := hgc j hj5
            have c10' : ff 10 = _ := e10
            have c14' : ff 14 = _ := e14
            go_big_wp2_with fail
            refine hQ _ (.pointer (some ⟨g, j, none⟩)) _ ?_ (hJ.pre_op (i := 15) (by decide) nm nm1 (hI.next) (fun j v h => h.kept (grownN ww 0 _)) (⟨g, j, y, hgb, rfl, hy⟩))
            first | rfl | (simp [upd, c10', c14']; done)
          · intro L ff kk ww hkk hJ hcl hLi hwt QQ' hQ
            try dsimp only
            have nm : L 19 = false := by
              cases hx : L 19 with
              | false => rfl
              | true =>
                have h19x := hx
                have h18x : L 18 = true := hcl 19 _ rfl h19x 18 (by decide)
                have h17x : L 17 = true := hcl 18 _ rfl h18x 17 (by decide)
                have h16x : L 16 = true := hcl 17 _ rfl h17x 16 (by decide)
                have h2 : L 16 = false := hLi
                rw [h16x] at h2; cases h2
            have nm1 : L 20 = false := by
              cases hx : L 20 with
              | false => rfl
              | true =>
                have h20x := hx
                have h19x : L 19 = true := hcl 20 _ rfl h20x 19 (by decide)
                have h18x : L 18 = true := hcl 19 _ rfl h19x 18 (by decide)
                have h17x : L 17 = true := hcl 18 _ rfl h18x 17 (by decide)
                have h16x : L 16 = true := hcl 17 _ rfl h17x 16 (by decide)
                have h2 : L 16 = false := hLi
                rw [h16x] at h2; cases h2
            have hI := hJ.inv nm
            obtain ⟨g, j, y, hgb, e15, hy⟩ := hJ.pre 15 (by decide) (hwt 15 (by decide)) nm
            have c15' : ff 15 = _ := e15
            go_big_wp2_with fail
            refine hQ _ _ _ ?_ (hJ.pre_op (i := 16) (by decide) nm nm1 (hI.next) (fun j v h => h.kept (grownN ww 0 _)) (⟨y, rfl⟩))
            first | rfl | (simp [upd, c15']; done)
          · intro L ff kk ww hkk hJ hcl hLi hwt QQ' hQ
            try dsimp only
            have nm : L 19 = false := by
              cases hx : L 19 with
              | false => rfl
              | true =>
                have h19x := hx
                have h18x : L 18 = true := hcl 19 _ rfl h19x 18 (by decide)
                have h17x : L 17 = true := hcl 18 _ rfl h18x 17 (by decide)
                have h2 : L 17 = false := hLi
                rw [h17x] at h2; cases h2
            have nm1 : L 20 = false := by
              cases hx : L 20 with
              | false => rfl
              | true =>
                have h20x := hx
                have h19x : L 19 = true := hcl 20 _ rfl h20x 19 (by decide)
                have h18x : L 18 = true := hcl 19 _ rfl h19x 18 (by decide)
                have h17x : L 17 = true := hcl 18 _ rfl h18x 17 (by decide)
                have h2 : L 17 = false := hLi
                rw [h17x] at h2; cases h2
            have hI := hJ.inv nm
            obtain ⟨y, e16⟩ := hJ.pre 16 (by decide) (hwt 16 (by decide)) nm
            have c16' : ff 16 = _ := e16
            have c4' : ff 4 = .string s := hJ.pre 4 (by decide) (hwt 4 (by decide)) nm
            go_big_wp2_with fail
            refine hQ _ _ _ ?_ (hJ.pre_op (i := 17) (by decide) nm nm1 (hI.next) (fun j v h => h.kept (grownN ww 0 _)) (⟨y, rfl⟩))
            first | rfl | (simp [upd, c16', c4']; done)
          · intro L ff kk ww hkk hJ hcl hLi hwt QQ' hQ
            try dsimp only
            have nm : L 19 = false := by
              cases hx : L 19 with
              | false => rfl
              | true =>
                have h19x := hx
                have h18x : L 18 = true := hcl 19 _ rfl h19x 18 (by decide)
                have h2 : L 18 = false := hLi
                rw [h18x] at h2; cases h2
            have nm1 : L 20 = false := by
              cases hx : L 20 with
              | false => rfl
              | true =>
                have h20x := hx
                have h19x : L 19 = true := hcl 20 _ rfl h20x 19 (by decide)
                have h18x : L 18 = true := hcl 19 _ rfl h19x 18 (by decide)
                have h2 : L 18 = false := hLi
                rw [h18x] at h2; cases h2
            have hI := hJ.inv nm
            have hkk2 : kk < 21 := hkk
            obtain ⟨q0, hr0, hq0⟩ := hI.1
            have hbl := hr0.le.2
            obtain ⟨y, e17⟩ := hJ.pre 17 (by decide) (hwt 17 (by decide)) nm
            have c17' : ff 17 = _ := e17
            go_big_wp2_with fail
            refine hQ _ _ (ww.alloc (.cells #[.string s, .int .i64 y] 67)) ?_ (hJ.pre_op (i := 18) (by decide) nm nm1 (hI.alloc HBL.out HLBX.out _) (fun j v h => h.kept (grown_alloc _ _)) (⟨ww.heap.size, y, rfl, heap_alloc_new ww _, by omega⟩))
            first | rfl | (simp [upd, c17']; done)
          · intro L ff kk ww hkk hJ hcl hLi hwt QQ' hQ
            try dsimp only
            have nm : L 19 = false := hLi
            have nm1 : L 20 = false := by
              cases hx : L 20 with
              | false => rfl
              | true =>
                have h20x := hx
                have h19x : L 19 = true := hcl 20 _ rfl h20x 19 (by decide)
                have h2 : L 19 = false := hLi
                rw [h19x] at h2; cases h2
            have hI := hJ.inv nm
            have hkk2 : kk < 21 := hkk
            have c0 : ff 0 = _ := hJ.pre 0 (by decide) (hwt 0 (by decide)) nm
            obtain ⟨gx, y, cl, hz5, hgl⟩ := hJ.pre 18 (by decide) (hwt 18 (by decide)) nm
            have cl' : ff 18 = _ := cl
            obtain ⟨⟨q0, hr0, hq0⟩, hO, hgw, hnn⟩ := hI
            have hbl := hr0.le.2
            have hzw : w.heap.size + 2 ≤ ww.heap.size := by
              have h5 := hnn 5 (by omega)
              have h6 := World.block_lt_of_cell? ww _ h5
              have : w.heap.size + 1 < ww.heap.size := h6
              omega
            refine wpList_append_lies ww rfl _ _ 30 rfl w.heap.size 67 i0 (.agg #[.string ⟨#[]⟩, .int .i64 0]) 2 24 Tryz.underlying30 hi hz0 hz1 hz2 rfl (by decide) (.slice a n c) n (cellsP ns) c0 hO ⟨gx, 0, none⟩ 1 1 [.string s, .int .i64 y] cl' rfl (World.news_of_block hz5) (by intro u hu; simp at hu; rcases hu with rfl | rfl <;> rfl) (by decide) (by unfold maxLen; omega) (by omega) (by omega) ww.heap.size rfl ?_
            intro g2 cp2 wz ho hg hat hlt
            simp only [Act.put, List.setIfInBounds_toArray, List.set_cons_succ, List.set_cons_zero]
            refine hQ _ _ wz rfl (hJ.app_op nm1 ⟨some ⟨g2, 0, none⟩, cp2, y, rfl, ?_, ?_, ⟨q0, ?_, by omega⟩, ?_, ?_⟩)
            · rw [← cellsP_snoc]; exact ho
            · intro k e
              simp [Value.ownBlock] at e
              subst e
              rcases hat with h | h
              · exact hne.out g2 h
              · omega
            · refine hr0.kept ((Below.refl _ _).grown hg (Nat.le_of_lt hbl) (fun y e => by have := (hO.lt y e).1; have := HBL.out; omega)) (hg.block _ hbl (fun e => ?_))
              have := (hO.lt _ e.symm).1
              have := HBL.out
              omega
            · exact grown_own hgw hg (fun g e => .inl (hO.lt g e).1)
            · exact fun i hi => hg.cell (hnn i hi) (by intro e; exact hne.out _ e.symm rfl)

          · intro L ff kk ww hkk hJ hcl hLi hwt QQ' hQ
            try dsimp only
            have hm : L 19 = true := hwt 19 (by decide)
            go_big_wp2_with fail
            refine hQ _ _ _ ?_ (hJ.fin_op hm rfl)
            first | rfl | (simp [upd]; done)
        case hend =>
        intro L ff kk w9 hkb hL hJ
        try dsimp only
        have hfin := hJ.fin (hL 20 (by decide))
        clear hJ hL
        obtain ⟨a9, c9, y9, e9, ho9, hne9, ⟨q9, hr9, hq9⟩, hg9, hn9⟩ := hfin
        rw [e9] at ho9 hne9 ⊢
        have HO9 := Lib.hid ho9
        have HR9 := Lib.hid hr9
        have HG9 := Lib.hid hg9
        have HN9 := Lib.hid hn9
        have HNE9 := Lib.hid hne9
        clear ho9 hr9 hg9 hn9 hne9 e9
        go_wp2
        go_roundw
        case rel => exact ⟨i + 1, q9, n + 1, c9, a9, ns ++ [(s, y9)], by omega, by first | rfl | go_num | (rw [← kw]), rfl, Lib.hid (by have := hnl.out; simp; omega), by omega, HO9, HNE9, HR9, by omega, HN9, HG9, World.block_lt_of_cell? _ _ (HN9.out 5 (by omega))⟩
        case measure => simp [intOf]; omega
      · have kz : decide (0 < x0) = false := decide_eq_false (by omega)
        have HO1 := Lib.hid hO1
        have HN1 := Lib.hid hN1
        have HG1 := Lib.hid hG1
        clear hO1 hN1 hG1 hg1
        go_wp2
        go_roundw
        case rel => exact ⟨i + 1, q + 1, n, c, a, ns, by omega, by first | rfl | go_num | (rw [← kw]), rfl, hnl, by omega, HO1, hne, hr1, by omega, HN1, HG1, by omega⟩
        case measure => simp [intOf]; omega
    · obtain rfl : i = 6 := by omega
      have k1 : decide (((6 : Nat) : Int) < 6) = false := rfl
      go_wp2_with fail
      refine (pick b b q 24 _ hR.out (by omega) (by omega) (by omega)).mono ?_
      rintro e w1 ⟨x0, a0, b0, rfl, hr1, hg1, -⟩
      have hO1 := own_rowKept hO.out hg1 (fun g e e2 => by injection e with e; have := (hO.out.lt g e2).1; have := HBL.out; omega)
      have hG1 := grown_trans hG.out hg1
      cases hx : (x0 == 0) with
      | false =>
        have HP : Hid (DrawnP b p w (.returned (.slice a n c)) w1) := ⟨a, n, c, ns, q + 1, rfl, by have e := hnl.out; subst e; exact (pairsN_own hO1).2, by omega, hr1, by omega, hG1⟩
        clear hO1 hG1 hg1
        go_wp2
        go_ret
        exact HP.out
      | true =>
        rcases Nat.eq_zero_or_pos n with h0 | h0
        · subst h0
          have HP : Hid (DrawnP b p w (.returned (.slice a 0 c)) w1) := ⟨a, 0, c, ns, q + 1, rfl, (pairsN_own (by have e := hnl.out; rw [← e]; exact hO1)).2, by omega, hr1, by omega, hG1⟩
          clear hO1 hG1 hg1
          go_wp2
          go_ret
          exact HP.out
        · have kz : decide (0 < (n : Int)) = true := decide_eq_true (by omega)
          have kz' : decide (0 < n) = true := decide_eq_true h0
          have kn : (0 : Int) < n := by omega
          obtain ⟨g, cap, hgv, hgl⟩ : ∃ g cap, (Value.slice a n c) = .slice (some ⟨g, 0, none⟩) n cap ∧ (w.heap.size ≤ g ∧ g < w1.heap.size) := by
            rcases hO1.2 with ⟨h, h1⟩ | ⟨g, cap, cur, h, -⟩
            · omega
            · exact ⟨g, cap, h, hO1.lt g (by rw [h]; rfl)⟩
          injection hgv with e1 e2 e3
          subst e1 e3
          have f1 := hO1.frozenAt 1
          have c1 := hO1.cellAt 1 (by omega)
          have hns : (cellsP ns)[1]? = some (.int .i64 (ns.getD 0 (⟨#[]⟩, 0)).2) := by
            obtain ⟨-, h2⟩ := cellsP_at ns 0 (by have := hnl.out; omega)
            have e : ns.getD 0 (⟨#[]⟩, 0) = ns[0]'(by have := hnl.out; omega) := by simp [show 0 < ns.length by have := hnl.out; omega]
            rw [e]; exact h2
          rw [hns] at c1
          generalize (ns.getD 0 (⟨#[]⟩, 0)).2 = y0 at *
          have HP : Hid (DrawnP b p w (.returned (.slice (some ⟨g, 0, none⟩) n c)) (w1.setCell ⟨g, 1, none⟩ (.int .i64 1000000000001))) := by
            have hst := (hO1.stored 1 (.int .i64 1000000000001)).1
            have gS := grown_set w1 ⟨g, 1, none⟩ (.int .i64 1000000000001)
            refine ⟨_, n, c, ns.set 0 ((ns[0]'(by have := hnl.out; omega)).1, 1000000000001), q + 1, rfl, ?_, by omega, hr1.kept ((Below.refl _ _).setCell (p := ⟨g, 1, none⟩) (by show b ≤ g; have := HBL.out; omega) _) (gS.block b hr1.le.2 (by intro e; injection e with e; have : b = g := e; have := HBL.out; omega)), by omega, grown_own hG1 gS (fun k e => by injection e with e; have : g = k := e; left; omega)⟩
            have e1 : (cellsP ns).set 1 (.int .i64 1000000000001) = cellsP (ns.set 0 ((ns[0]'(by have := hnl.out; omega)).1, 1000000000001)) := by
              match ns, (show 0 < ns.length by have := hnl.out; omega) with
              | m :: r, _ => simp [cellsP]
            rw [e1] at hst
            have h2 : (ns.set 0 ((ns[0]'(by have := hnl.out; omega)).1, 1000000000001)).length = n := by have := hnl.out; simp; omega
            have h3 := pairsN_own (n := n) (a := some ⟨g, 0, none⟩) (c := c) (by rw [h2]; exact hst)
            exact h3.2
          clear hO1 hG1 hg1 hO hns hN
          go_wp2
          go_ret
          exact HP.out
end Go.Proofs.YtjphjnopdlfplaaGreatDoor
