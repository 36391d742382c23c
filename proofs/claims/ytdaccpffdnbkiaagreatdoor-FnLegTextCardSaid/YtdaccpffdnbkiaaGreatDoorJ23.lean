/-
  A leg's text.
  A leg's text: the program's answer.
  A leg's text: the model's answer.
-/
import Derived.Test.YtdaccpffdnbkiaaGreatDoorJ14
import Derived.Test.YtdaccpffdnbkiaaGreatDoorLegOkI
import Derived.Test.YtdaccpffdnbkiaaGreatDoorFree
import Derived.Deep.Cut
import Derived.Test.YtdaccpffdnbkiaaGreatDoorJ21
namespace Go.Proofs.YtdaccpffdnbkiaaGreatDoor
open Go.RowKit
set_option linter.unusedVariables false
set_option linter.unusedSimpArgs false

theorem nameT_size {s : ByteArray} (h : nameB s.data.toList = true) : s.size ≤ 8 := by
  simp only [nameB, Bool.and_eq_true, decide_eq_true_eq] at h
  have : s.data.toList.length = s.size := by simp
  omega
/-- A leg's words. -/
def legWords (d : LegD) : List ByteArray := [d.name, d.fr, d.to, decB d.dep, decB d.arr, numB d.L d.nL, numB d.S d.nS, numB d.B d.nB]
def legB (d : LegD) : ByteArray := ⟨(joinS 32 (legWords d)).toArray⟩
def LegText (d : LegD) (o : ByteArray) : Prop := (OkLeg d → o = legB d) ∧ (¬ OkLeg d → o = ⟨#[]⟩)
theorem legText_one {d : LegD} {o p : ByteArray} (h : LegText d o) (k : LegText d p) : o = p := by
  by_cases q : OkLeg d
  · rw [h.1 q, k.1 q]
  · rw [h.2 q, k.2 q]
structure Sizes (d : LegD) : Prop where
  n1 : d.name.size ≤ 8
  n2 : d.fr.size ≤ 8
  n3 : d.to.size ≤ 8
  dep : 0 ≤ d.dep ∧ d.dep ≤ 9999
  arr : 0 ≤ d.arr ∧ d.arr ≤ 9999
  sL : Small d.L d.nL
  sS : Small d.S d.nS
  sB : Small d.B d.nB
  nL : d.nL = 3
  nS : d.nS = 3
  nB : 1 ≤ d.nB
theorem OkLeg.sizes {d : LegD} (h : OkLeg d) : Sizes d := by
  obtain ⟨⟨a1, a2, a3, -, a5, a6⟩, ⟨b1, b2, b3, b4, b5, b6, b7, b8⟩, -, -⟩ := h
  have hL := falls_top b8
  have hB := falls_top b6
  exact ⟨nameT_size a1, nameT_size a2, nameT_size a3, a5, by omega, ⟨by omega, fun i hi => by have := hL i (by omega); omega⟩, ⟨by omega, fun i hi => by have := b4 i (by omega); omega⟩, ⟨by omega, fun i hi => hB i hi⟩, b2, b3, by omega⟩
theorem words_small {d : LegD} (h : Sizes d) : ∀ x ∈ legWords d, x.size ≤ 168 := by
  intro x hx
  simp only [legWords, List.mem_cons, List.not_mem_nil, or_false] at hx
  rcases hx with rfl | rfl | rfl | rfl | rfl | rfl | rfl | rfl
  · have := h.n1; omega
  · have := h.n2; omega
  · have := h.n3; omega
  · have := decB_size h.dep.1 (by have := h.dep.2; omega); omega
  · have := decB_size h.arr.1 (by have := h.arr.2; omega); omega
  · exact numB_size h.sL
  · exact numB_size h.sS
  · exact numB_size h.sB
theorem legWords_len {d : LegD} (h : Sizes d) : (joinS 32 (legWords d)).length ≤ 1352 := by
  have := joinS_len 32 168 (legWords d) (words_small h)
  have e : (legWords d).length = 8 := rfl
  rw [e] at this
  omega
def sp : ByteArray := ⟨#[32]⟩
theorem leg_cat (d : LegD) : d.name ++ ⟨#[32]⟩ ++ d.fr ++ ⟨#[32]⟩ ++ d.to ++ ⟨#[32]⟩ ++ decB d.dep ++ ⟨#[32]⟩ ++ decB d.arr ++ ⟨#[32]⟩ ++ numB d.L d.nL ++ ⟨#[32]⟩ ++ numB d.S d.nS ++ ⟨#[32]⟩ ++ numB d.B d.nB = legB d := by
  apply ByteArray.ext
  apply Array.ext'
  simp [legB, joinS, legWords, Lib.join_cons, Lib.joinTail]
def TextPost (d : LegD) (w : World) (e : Ending) (w' : World) : Prop := ∃ o, e = .returned (.string o) ∧ Hid (LegText d o) ∧ Below w.heap.size w w'
theorem Deps.get {S : Nat → World → Value → Prop} {f : Nat → Value} {w : World} : ∀ {l : List Nat}, Deps S f w l → ∀ {n : Nat}, n ∈ l → S n w (f n)
  | [], _, _, h => by cases h
  | m :: l, hd, n, h => by
    rcases List.mem_cons.1 h with e | e
    · subst e; exact hd.1
    · exact Deps.get hd.2 e
theorem boxLeg (w : World) (d : LegD) (p : LegP) : LegBox (w.alloc (.cells (LegC d p) 25)) w.heap.size d p := LegBox.new w d p
end Go.Proofs.YtdaccpffdnbkiaaGreatDoor

namespace Go.Proofs.YtdaccpffdnbkiaaGreatDoor
open Go.RowKit
set_option linter.unusedVariables false
set_option linter.unusedSimpArgs false

theorem LegV_eqW (d : LegD) (p : LegP) : LegV d p = .agg (LegC d p) := rfl
def SWr (d : LegD) (p : LegP) (bl : Nat) (i : Nat) (W : World) (v : Value) : Prop := match i with
  | 0 => v = .pointer (some ⟨bl, 0, none⟩)
  | 1 => v = .string (d.name)
  | 2 => v = .pointer (some ⟨bl, 1, none⟩)
  | 3 => v = .string (d.fr)
  | 4 => v = .pointer (some ⟨bl, 2, none⟩)
  | 5 => v = .string (d.to)
  | 6 => v = .pointer (some ⟨bl, 3, none⟩)
  | 7 => v = .int .i64 d.dep
  | 8 => v = .string (decB d.dep)
  | 9 => v = .pointer (some ⟨bl, 4, none⟩)
  | 10 => v = .int .i64 d.arr
  | 11 => v = .string (decB d.arr)
  | 12 => v = .pointer (some ⟨bl, 6, none⟩)
  | 13 => v = .slice p.aL d.nL p.cL
  | 14 => v = .string (numB d.L d.nL)
  | 15 => v = .pointer (some ⟨bl, 7, none⟩)
  | 16 => v = .slice p.aS d.nS p.cS
  | 17 => v = .string (numB d.S d.nS)
  | 18 => v = .pointer (some ⟨bl, 8, none⟩)
  | 19 => v = .slice p.aB d.nB p.cB
  | 20 => v = .string (numB d.B d.nB)
  | 21 => ∃ g : Nat, v = .slice (some ⟨g, 0, none⟩) 8 8 ∧ W.heap[g]? = some (.cells #[.string d.name, .string d.fr, .string d.to, .string (decB d.dep), .string (decB d.arr), .string (numB d.L d.nL), .string (numB d.S d.nS), .string (numB d.B d.nB)] 9 (0, 0))
  | 22 => ∃ g : Nat, v = .slice (some ⟨g, 0, none⟩) 8 8 ∧ W.heap[g]? = some (.cells #[.string d.name, .string d.fr, .string d.to, .string (decB d.dep), .string (decB d.arr), .string (numB d.L d.nL), .string (numB d.S d.nS), .string (numB d.B d.nB)] 9 (0, 0))
  | _ => True
theorem SWr.kept {d : LegD} {p : LegP} {bl i : Nat} {W W' : World} {v : Value} (h : SWr d p bl i W v) (hb : Below W.heap.size W W') : SWr d p bl i W' v := by
  match i, h with
  | 0, h => exact h
  | 1, h => exact h
  | 2, h => exact h
  | 3, h => exact h
  | 4, h => exact h
  | 5, h => exact h
  | 6, h => exact h
  | 7, h => exact h
  | 8, h => exact h
  | 9, h => exact h
  | 10, h => exact h
  | 11, h => exact h
  | 12, h => exact h
  | 13, h => exact h
  | 14, h => exact h
  | 15, h => exact h
  | 16, h => exact h
  | 17, h => exact h
  | 18, h => exact h
  | 19, h => exact h
  | 20, h => exact h
  | 21, ⟨g, h1, h2⟩ => exact ⟨g, h1, (hb.block g (lt_heap h2)).trans h2⟩
  | 22, ⟨g, h1, h2⟩ => exact ⟨g, h1, (hb.block g (lt_heap h2)).trans h2⟩
  | i + 23, h => exact h

set_option maxRecDepth 100000 in
set_option maxHeartbeats 16000000 in
theorem writeI (d : LegD) (p : LegP) (w : World) (h : LegIn w d p) (hf : Fits d) (hcS : d.nS ≤ p.cS) (hL : Laid w) :
    Calls Tryz.prog 12 #[LegV d p] w (TextPost d w) := by
  have hbA : Below w.heap.size w (w.alloc (.cells (LegC d p) 25)) := (Below.refl _ _).alloc (Nat.le_refl _) _
  have hA := boxLeg w d p
  have HIN0 := Lib.hid (h.kept hbA)
  have HA := Lib.hid hA
  have HbA := Lib.hid hbA
  have HF := Lib.hid hf
  have x0 := HA.out.c0
  have x1 := HA.out.c1
  have x2 := HA.out.c2
  have x3 := HA.out.c3
  have x4 := HA.out.c4
  have x5 := HA.out.c5
  have x6 := HA.out.c6
  have x7 := HA.out.c7
  have x8 := HA.out.c8
  have x9 := HA.out.c9
  rw [LegV_eqW]
  generalize hLC : LegC d p = LC at *
  clear h hbA hA hf hLC
  have HLw := Lib.hid (laid_stays hL HbA.out)
  clear hL
  go_enter Tryz.func12, Tryz.ntmps12
  go_wp2_with fail
  generalize w.alloc (.cells LC 25) = w0 at *
  refine (okI d p w0 HIN0.out HF.out hcS).mono ?_
  rintro e w1 ⟨b, rfl, hb, d1⟩
  have HX := Lib.hid (HA.out.kept d1)
  have HIN := Lib.hid (HIN0.out.kept d1)
  have D1 := Lib.hid (bt HbA.out d1)
  have HLw := Lib.hid (laid_stays HLw.out d1)
  clear d1 hcS
  clear x0 x1 x2 x3 x4 x5 x6 x7 x8 x9
  cases b with
  | false =>
    have hno : Hid (¬ OkLeg d) := fun h => by have := hb.out.2 h; cases this
    go_wp2
    go_ret
    exact ⟨_, rfl, ⟨fun h => absurd h hno.out, fun _ => rfl⟩, D1.out⟩
  | true =>
  have HOK := Lib.hid (hb.out.1 rfl)
  have HZ := Lib.hid HOK.out.sizes
  generalize hbl : w.heap.size = bl at *
  have Hbl := Lib.hid hbl
  clear hb HIN0 HA hbl
  go_upto_region 3 with fail
  refine wp_region_free' (by kernel_rfl) (fun _ W => Below w1.heap.size w1 W) (fun W W' => Below W.heap.size W W') (SWr d p bl) (by kernel_rfl) (fun i k v W W' h _ hb => h.kept hb) ((Below.refl _ _).drew) ?_
  apply Exists.intro
  apply And.intro
  · intro f
    simp only [over, List.set]
    exact rfl
  refine ⟨?hops, ?hend⟩
  case hops =>
    refine EachOp.cons ?_ (EachOp.cons ?_ (EachOp.cons ?_ (EachOp.cons ?_ (EachOp.cons ?_ (EachOp.cons ?_ (EachOp.cons ?_ (EachOp.cons ?_ (EachOp.cons ?_ (EachOp.cons ?_ (EachOp.cons ?_ (EachOp.cons ?_ (EachOp.cons ?_ (EachOp.cons ?_ (EachOp.cons ?_ (EachOp.cons ?_ (EachOp.cons ?_ (EachOp.cons ?_ (EachOp.cons ?_ (EachOp.cons ?_ (EachOp.cons ?_ (EachOp.cons ?_ (EachOp.cons ?_ (EachOp.nil)))))))))))))))))))))))
    · intro ff kk ww hkk hI hd QQ' hQ
      try dsimp only
      go_big_wp2_with fail
      refine hQ _ _ _ ?_ hI (Below.refl _ _) rfl
      first | rfl | (simp [upd]; done)
    · intro ff kk ww hkk hI hd QQ' hQ
      try dsimp only
      have y0 := (HX.out.kept hI).c0
      have c0' : ff 0 = _ := hd.get (n := 0) (by decide)
      go_big_wp2_with fail
      refine hQ _ _ _ ?_ hI (Below.refl _ _) rfl
      first | rfl | (simp [upd, c0']; done)
    · intro ff kk ww hkk hI hd QQ' hQ
      try dsimp only
      go_big_wp2_with fail
      refine hQ _ _ _ ?_ hI (Below.refl _ _) rfl
      first | rfl | (simp [upd]; done)
    · intro ff kk ww hkk hI hd QQ' hQ
      try dsimp only
      have y1 := (HX.out.kept hI).c1
      have c2' : ff 2 = _ := hd.get (n := 2) (by decide)
      go_big_wp2_with fail
      refine hQ _ _ _ ?_ hI (Below.refl _ _) rfl
      first | rfl | (simp [upd, c2']; done)
    · intro ff kk ww hkk hI hd QQ' hQ
      try dsimp only
      go_big_wp2_with fail
      refine hQ _ _ _ ?_ hI (Below.refl _ _) rfl
      first | rfl | (simp [upd]; done)
    · intro ff kk ww hkk hI hd QQ' hQ
      try dsimp only
      have y2 := (HX.out.kept hI).c2
      have c4' : ff 4 = _ := hd.get (n := 4) (by decide)
      go_big_wp2_with fail
      refine hQ _ _ _ ?_ hI (Below.refl _ _) rfl
      first | rfl | (simp [upd, c4']; done)
    · intro ff kk ww hkk hI hd QQ' hQ
      try dsimp only
      go_big_wp2_with fail
      refine hQ _ _ _ ?_ hI (Below.refl _ _) rfl
      first | rfl | (simp [upd]; done)
    · intro ff kk ww hkk hI hd QQ' hQ
      try dsimp only
      have y3 := (HX.out.kept hI).c3
      have c6' : ff 6 = _ := hd.get (n := 6) (by decide)
      go_big_wp2_with fail
      refine hQ _ _ _ ?_ hI (Below.refl _ _) rfl
      first | rfl | (simp [upd, c6']; done)
    · intro ff kk ww hkk hI hd QQ' hQ
      try dsimp only
      have c7' : ff 7 = _ := hd.get (n := 7) (by decide)
      go_big_wp2_with fail
      refine (itoaS d.dep ww (laid_stays HLw.out hI) HZ.out.dep.1 (by have := HZ.out.dep.2; omega)).mono ?_
      rintro e wa ⟨so, rfl, hso, hse, da, -⟩
      have e1 : so = decB d.dep := hse.out
      subst e1
      go_big_wp2_with fail
      refine hQ _ _ _ ?_ (bt hI da) da rfl
      first | rfl | (simp [upd, c7']; done)
    · intro ff kk ww hkk hI hd QQ' hQ
      try dsimp only
      go_big_wp2_with fail
      refine hQ _ _ _ ?_ hI (Below.refl _ _) rfl
      first | rfl | (simp [upd]; done)
    · intro ff kk ww hkk hI hd QQ' hQ
      try dsimp only
      have y4 := (HX.out.kept hI).c4
      have c9' : ff 9 = _ := hd.get (n := 9) (by decide)
      go_big_wp2_with fail
      refine hQ _ _ _ ?_ hI (Below.refl _ _) rfl
      first | rfl | (simp [upd, c9']; done)
    · intro ff kk ww hkk hI hd QQ' hQ
      try dsimp only
      have c10' : ff 10 = _ := hd.get (n := 10) (by decide)
      go_big_wp2_with fail
      refine (itoaS d.arr ww (laid_stays HLw.out hI) HZ.out.arr.1 (by have := HZ.out.arr.2; omega)).mono ?_
      rintro e wa ⟨so, rfl, hso, hse, da, -⟩
      have e1 : so = decB d.arr := hse.out
      subst e1
      go_big_wp2_with fail
      refine hQ _ _ _ ?_ (bt hI da) da rfl
      first | rfl | (simp [upd, c10']; done)
    · intro ff kk ww hkk hI hd QQ' hQ
      try dsimp only
      go_big_wp2_with fail
      refine hQ _ _ _ ?_ hI (Below.refl _ _) rfl
      first | rfl | (simp [upd]; done)
    · intro ff kk ww hkk hI hd QQ' hQ
      try dsimp only
      have y6 := (HX.out.kept hI).c6
      have c12' : ff 12 = _ := hd.get (n := 12) (by decide)
      go_big_wp2_with fail
      refine hQ _ _ _ ?_ hI (Below.refl _ _) rfl
      first | rfl | (simp [upd, c12']; done)
    · intro ff kk ww hkk hI hd QQ' hQ
      try dsimp only
      have c13' : ff 13 = _ := hd.get (n := 13) (by decide)
      go_big_wp2_with fail
      refine (listI p.aL d.nL p.cL d.L ww ((HIN.out.kept hI).1) HZ.out.sL (by have := HZ.out.nL; omega) (laid_stays HLw.out hI)).mono ?_
      rintro e wa ⟨rfl, da⟩
      go_big_wp2_with fail
      refine hQ _ _ _ ?_ (bt hI da) da rfl
      first | rfl | (simp [upd, c13']; done)
    · intro ff kk ww hkk hI hd QQ' hQ
      try dsimp only
      go_big_wp2_with fail
      refine hQ _ _ _ ?_ hI (Below.refl _ _) rfl
      first | rfl | (simp [upd]; done)
    · intro ff kk ww hkk hI hd QQ' hQ
      try dsimp only
      have y7 := (HX.out.kept hI).c7
      have c15' : ff 15 = _ := hd.get (n := 15) (by decide)
      go_big_wp2_with fail
      refine hQ _ _ _ ?_ hI (Below.refl _ _) rfl
      first | rfl | (simp [upd, c15']; done)
    · intro ff kk ww hkk hI hd QQ' hQ
      try dsimp only
      have c16' : ff 16 = _ := hd.get (n := 16) (by decide)
      go_big_wp2_with fail
      refine (listI p.aS d.nS p.cS d.S ww ((HIN.out.kept hI).2.1) HZ.out.sS (by have := HZ.out.nS; omega) (laid_stays HLw.out hI)).mono ?_
      rintro e wa ⟨rfl, da⟩
      go_big_wp2_with fail
      refine hQ _ _ _ ?_ (bt hI da) da rfl
      first | rfl | (simp [upd, c16']; done)
    · intro ff kk ww hkk hI hd QQ' hQ
      try dsimp only
      go_big_wp2_with fail
      refine hQ _ _ _ ?_ hI (Below.refl _ _) rfl
      first | rfl | (simp [upd]; done)
    · intro ff kk ww hkk hI hd QQ' hQ
      try dsimp only
      have y8 := (HX.out.kept hI).c8
      have c18' : ff 18 = _ := hd.get (n := 18) (by decide)
      go_big_wp2_with fail
      refine hQ _ _ _ ?_ hI (Below.refl _ _) rfl
      first | rfl | (simp [upd, c18']; done)
    · intro ff kk ww hkk hI hd QQ' hQ
      try dsimp only
      have c19' : ff 19 = _ := hd.get (n := 19) (by decide)
      go_big_wp2_with fail
      refine (listI p.aB d.nB p.cB d.B ww ((HIN.out.kept hI).2.2.1) HZ.out.sB (by have := HZ.out.nB; omega) (laid_stays HLw.out hI)).mono ?_
      rintro e wa ⟨rfl, da⟩
      go_big_wp2_with fail
      refine hQ _ _ _ ?_ (bt hI da) da rfl
      first | rfl | (simp [upd, c19']; done)
    · intro ff kk ww hkk hI hd QQ' hQ
      try dsimp only
      have c1' : ff 1 = _ := hd.get (n := 1) (by decide)
      have c3' : ff 3 = _ := hd.get (n := 3) (by decide)
      have c5' : ff 5 = _ := hd.get (n := 5) (by decide)
      have c8' : ff 8 = _ := hd.get (n := 8) (by decide)
      have c11' : ff 11 = _ := hd.get (n := 11) (by decide)
      have c14' : ff 14 = _ := hd.get (n := 14) (by decide)
      have c17' : ff 17 = _ := hd.get (n := 17) (by decide)
      have c20' : ff 20 = _ := hd.get (n := 20) (by decide)
      have hbn : Below ww.heap.size ww (ww.alloc (.cells #[.string d.name, .string d.fr, .string d.to, .string (decB d.dep), .string (decB d.arr), .string (numB d.L d.nL), .string (numB d.S d.nS), .string (numB d.B d.nB)] 9)) := (Below.refl _ _).alloc (Nat.le_refl _) _
      go_big_wp2_with fail
      refine hQ _ _ _ ?_ (bt hI hbn) hbn ⟨ww.heap.size, rfl, heap_alloc_new ww _⟩
      first | rfl | (simp [upd, c1', c3', c5', c8', c11', c14', c17', c20']; done)
    · intro ff kk ww hkk hI hd QQ' hQ
      try dsimp only
      obtain ⟨g, c21, hz⟩ := hd.get (n := 21) (by decide)
      have c21' : ff 21 = _ := c21
      go_big_wp2_with fail
      refine hQ _ _ _ ?_ hI (Below.refl _ _) ⟨g, rfl, hz⟩
      first | rfl | (simp [upd, c21']; done)
  case hend =>
  intro ff kk w2 d2 hS
  try dsimp only
  obtain ⟨g, cz, hz⟩ := hS 22 (by decide)
  have cz' : ff 22 = _ := cz
  rw [cz']
  have HZc := Lib.hid hz
  have D2 := Lib.hid (D1.out.trans (d2.mono (by have := lt_heap HX.out; omega)))
  have hcells : ∀ (j : Nat) x, (legWords d)[j]? = some x → w2.cell? ⟨g, 0 + j, none⟩ = some (.string x) := by
    intro j x hj
    have hj8 : j < 8 := (List.getElem?_eq_some_iff.1 hj).1
    rw [Nat.zero_add, Lib.cell_of_heap HZc.out]
    rcases (by omega : j = 0 ∨ j = 1 ∨ j = 2 ∨ j = 3 ∨ j = 4 ∨ j = 5 ∨ j = 6 ∨ j = 7) with rfl | rfl | rfl | rfl | rfl | rfl | rfl | rfl <;> (cases hj; rfl)
  have J := Tryz.strings_Join g 0 8 (legWords d) ⟨#[32]⟩ w2 hcells (lt_heap hz) (by show 8 ≤ _; omega) (Nat.le_refl 8) (by have := legWords_len HZ.out; show (joinS 32 (legWords d)).length ≤ _; omega)
  have HJ : Hid (Calls Tryz.prog 35 #[.slice (some ⟨g, 0, none⟩) 8 8, .string ⟨#[32]⟩] w2 fun e w' => e = .returned (.string (legB d)) ∧ Below w2.heap.size w2 w') := J
  clear J hcells cz cz' hS hz d2
  go_wp2_with fail
  refine HJ.out.mono ?_
  rintro e w3 ⟨rfl, d3⟩
  have D3 := Lib.hid (D2.out.trans (d3.mono (by have := D2.out.size; have := Hbl.out; omega)))
  go_wp2
  go_ret
  exact ⟨_, rfl, ⟨fun _ => rfl, fun h => absurd HOK.out h⟩, by rw [Hbl.out]; exact D3.out⟩

end Go.Proofs.YtdaccpffdnbkiaaGreatDoor

namespace Go.Proofs.YtdaccpffdnbkiaaGreatDoor
open Go.RowKit
set_option linter.unusedVariables false
set_option linter.unusedSimpArgs false

def SWm (d : LegD) (p : LegP) (bl : Nat) (i : Nat) (W : World) (v : Value) : Prop := match i with
  | 0 => v = .pointer (some ⟨bl, 0, none⟩)
  | 1 => v = .string (d.name)
  | 2 => v = .string (d.name ++ ⟨#[32]⟩)
  | 3 => v = .pointer (some ⟨bl, 1, none⟩)
  | 4 => v = .string (d.fr)
  | 5 => v = .string (d.name ++ ⟨#[32]⟩ ++ d.fr)
  | 6 => v = .string (d.name ++ ⟨#[32]⟩ ++ d.fr ++ ⟨#[32]⟩)
  | 7 => v = .pointer (some ⟨bl, 2, none⟩)
  | 8 => v = .string (d.to)
  | 9 => v = .string (d.name ++ ⟨#[32]⟩ ++ d.fr ++ ⟨#[32]⟩ ++ d.to)
  | 10 => v = .string (d.name ++ ⟨#[32]⟩ ++ d.fr ++ ⟨#[32]⟩ ++ d.to ++ ⟨#[32]⟩)
  | 11 => v = .pointer (some ⟨bl, 3, none⟩)
  | 12 => v = .int .i64 d.dep
  | 13 => v = .string (decB d.dep)
  | 14 => v = .string (d.name ++ ⟨#[32]⟩ ++ d.fr ++ ⟨#[32]⟩ ++ d.to ++ ⟨#[32]⟩ ++ decB d.dep)
  | 15 => v = .string (d.name ++ ⟨#[32]⟩ ++ d.fr ++ ⟨#[32]⟩ ++ d.to ++ ⟨#[32]⟩ ++ decB d.dep ++ ⟨#[32]⟩)
  | 16 => v = .pointer (some ⟨bl, 4, none⟩)
  | 17 => v = .int .i64 d.arr
  | 18 => v = .string (decB d.arr)
  | 19 => v = .string (d.name ++ ⟨#[32]⟩ ++ d.fr ++ ⟨#[32]⟩ ++ d.to ++ ⟨#[32]⟩ ++ decB d.dep ++ ⟨#[32]⟩ ++ decB d.arr)
  | 20 => v = .string (d.name ++ ⟨#[32]⟩ ++ d.fr ++ ⟨#[32]⟩ ++ d.to ++ ⟨#[32]⟩ ++ decB d.dep ++ ⟨#[32]⟩ ++ decB d.arr ++ ⟨#[32]⟩)
  | 21 => v = .pointer (some ⟨bl, 6, none⟩)
  | 22 => v = .slice p.aL d.nL p.cL
  | 23 => v = .string (numB d.L d.nL)
  | 24 => v = .string (d.name ++ ⟨#[32]⟩ ++ d.fr ++ ⟨#[32]⟩ ++ d.to ++ ⟨#[32]⟩ ++ decB d.dep ++ ⟨#[32]⟩ ++ decB d.arr ++ ⟨#[32]⟩ ++ numB d.L d.nL)
  | 25 => v = .string (d.name ++ ⟨#[32]⟩ ++ d.fr ++ ⟨#[32]⟩ ++ d.to ++ ⟨#[32]⟩ ++ decB d.dep ++ ⟨#[32]⟩ ++ decB d.arr ++ ⟨#[32]⟩ ++ numB d.L d.nL ++ ⟨#[32]⟩)
  | 26 => v = .pointer (some ⟨bl, 7, none⟩)
  | 27 => v = .slice p.aS d.nS p.cS
  | 28 => v = .string (numB d.S d.nS)
  | 29 => v = .string (d.name ++ ⟨#[32]⟩ ++ d.fr ++ ⟨#[32]⟩ ++ d.to ++ ⟨#[32]⟩ ++ decB d.dep ++ ⟨#[32]⟩ ++ decB d.arr ++ ⟨#[32]⟩ ++ numB d.L d.nL ++ ⟨#[32]⟩ ++ numB d.S d.nS)
  | 30 => v = .string (d.name ++ ⟨#[32]⟩ ++ d.fr ++ ⟨#[32]⟩ ++ d.to ++ ⟨#[32]⟩ ++ decB d.dep ++ ⟨#[32]⟩ ++ decB d.arr ++ ⟨#[32]⟩ ++ numB d.L d.nL ++ ⟨#[32]⟩ ++ numB d.S d.nS ++ ⟨#[32]⟩)
  | 31 => v = .pointer (some ⟨bl, 8, none⟩)
  | 32 => v = .slice p.aB d.nB p.cB
  | 33 => v = .string (numB d.B d.nB)
  | 34 => v = .string (d.name ++ ⟨#[32]⟩ ++ d.fr ++ ⟨#[32]⟩ ++ d.to ++ ⟨#[32]⟩ ++ decB d.dep ++ ⟨#[32]⟩ ++ decB d.arr ++ ⟨#[32]⟩ ++ numB d.L d.nL ++ ⟨#[32]⟩ ++ numB d.S d.nS ++ ⟨#[32]⟩ ++ numB d.B d.nB)
  | 35 => v = .string (d.name ++ ⟨#[32]⟩ ++ d.fr ++ ⟨#[32]⟩ ++ d.to ++ ⟨#[32]⟩ ++ decB d.dep ++ ⟨#[32]⟩ ++ decB d.arr ++ ⟨#[32]⟩ ++ numB d.L d.nL ++ ⟨#[32]⟩ ++ numB d.S d.nS ++ ⟨#[32]⟩ ++ numB d.B d.nB)
  | _ => True
theorem SWm.kept {d : LegD} {p : LegP} {bl i : Nat} {W W' : World} {v : Value} (h : SWm d p bl i W v) (hb : Below W.heap.size W W') : SWm d p bl i W' v := by
  match i, h with
  | 0, h => exact h
  | 1, h => exact h
  | 2, h => exact h
  | 3, h => exact h
  | 4, h => exact h
  | 5, h => exact h
  | 6, h => exact h
  | 7, h => exact h
  | 8, h => exact h
  | 9, h => exact h
  | 10, h => exact h
  | 11, h => exact h
  | 12, h => exact h
  | 13, h => exact h
  | 14, h => exact h
  | 15, h => exact h
  | 16, h => exact h
  | 17, h => exact h
  | 18, h => exact h
  | 19, h => exact h
  | 20, h => exact h
  | 21, h => exact h
  | 22, h => exact h
  | 23, h => exact h
  | 24, h => exact h
  | 25, h => exact h
  | 26, h => exact h
  | 27, h => exact h
  | 28, h => exact h
  | 29, h => exact h
  | 30, h => exact h
  | 31, h => exact h
  | 32, h => exact h
  | 33, h => exact h
  | 34, h => exact h
  | 35, h => exact h
  | i + 36, h => exact h

set_option maxRecDepth 100000 in
set_option maxHeartbeats 16000000 in
theorem write6 (d : LegD) (p : LegP) (w : World) (h : LegIn w d p) (hok : OkLeg d) :
    Calls Tryz.prog 37 #[LegV d p] w fun e w' => e = .returned (.string (legB d)) ∧ Below w.heap.size w w' := by
  have hbA : Below w.heap.size w (w.alloc (.cells (LegC d p) 25)) := (Below.refl _ _).alloc (Nat.le_refl _) _
  have hA := boxLeg w d p
  have HIN0 := Lib.hid (h.kept hbA)
  have HA := Lib.hid hA
  have HbA := Lib.hid hbA
  have x0 := HA.out.c0
  have x1 := HA.out.c1
  have x2 := HA.out.c2
  have x3 := HA.out.c3
  have x4 := HA.out.c4
  have x5 := HA.out.c5
  have x6 := HA.out.c6
  have x7 := HA.out.c7
  have x8 := HA.out.c8
  have x9 := HA.out.c9
  rw [LegV_eqW]
  generalize hLC : LegC d p = LC at *
  clear h hbA hA hLC
  have HZ := Lib.hid hok.sizes
  have HD := Lib.hid (And.intro (decB_size HZ.out.dep.1 (by have := HZ.out.dep.2; omega)) (decB_size HZ.out.arr.1 (by have := HZ.out.arr.2; omega)))
  clear hok
  clear x0 x1 x2 x3 x4 x5 x6 x7 x8 x9
  go_enter Tryz.func37, Tryz.ntmps37
  go_upto_region 1 with fail
  generalize w.alloc (.cells LC 25) = w1 at *
  generalize hbl : w.heap.size = bl at *
  have Hbl := Lib.hid hbl
  clear hbl
  have HX := HA
  have HIN := HIN0
  refine wp_region_free' (by kernel_rfl) (fun _ W => Below w1.heap.size w1 W) (fun W W' => Below W.heap.size W W') (SWm d p bl) (by kernel_rfl) (fun i k v W W' h _ hb => h.kept hb) ((Below.refl _ _).drew) ?_
  apply Exists.intro
  apply And.intro
  · intro f
    simp only [over, List.set]
    exact rfl
  refine ⟨?hops, ?hend⟩
  case hops =>
    refine EachOp.cons ?_ (EachOp.cons ?_ (EachOp.cons ?_ (EachOp.cons ?_ (EachOp.cons ?_ (EachOp.cons ?_ (EachOp.cons ?_ (EachOp.cons ?_ (EachOp.cons ?_ (EachOp.cons ?_ (EachOp.cons ?_ (EachOp.cons ?_ (EachOp.cons ?_ (EachOp.cons ?_ (EachOp.cons ?_ (EachOp.cons ?_ (EachOp.cons ?_ (EachOp.cons ?_ (EachOp.cons ?_ (EachOp.cons ?_ (EachOp.cons ?_ (EachOp.cons ?_ (EachOp.cons ?_ (EachOp.cons ?_ (EachOp.cons ?_ (EachOp.cons ?_ (EachOp.cons ?_ (EachOp.cons ?_ (EachOp.cons ?_ (EachOp.cons ?_ (EachOp.cons ?_ (EachOp.cons ?_ (EachOp.cons ?_ (EachOp.cons ?_ (EachOp.cons ?_ (EachOp.cons ?_ (EachOp.nil))))))))))))))))))))))))))))))))))))
    · intro ff kk ww hkk hI hd QQ' hQ
      try dsimp only
      go_big_wp2_with fail
      refine hQ _ _ _ ?_ hI (Below.refl _ _) rfl
      first | rfl | (simp [upd]; done)
    · intro ff kk ww hkk hI hd QQ' hQ
      try dsimp only
      have y0 := (HX.out.kept hI).c0
      have c0' : ff 0 = _ := hd.get (n := 0) (by decide)
      go_big_wp2_with fail
      refine hQ _ _ _ ?_ hI (Below.refl _ _) rfl
      first | rfl | (simp [upd, c0']; done)
    · intro ff kk ww hkk hI hd QQ' hQ
      try dsimp only
      have q1 := HZ.out.n1
      have q2 := HZ.out.n2
      have q3 := HZ.out.n3
      have q4 := HD.out.1
      have q5 := HD.out.2
      have q6 := numB_size HZ.out.sL
      have q7 := numB_size HZ.out.sS
      have q8 := numB_size HZ.out.sB
      have mm : ¬ 9223372036854775807 < d.name.size + 1 := by omega
      clear q1 q2 q3 q4 q5 q6 q7 q8
      have c1' : ff 1 = _ := hd.get (n := 1) (by decide)
      go_big_wp2_with fail
      refine hQ _ _ _ ?_ hI (Below.refl _ _) rfl
      first | rfl | (simp [upd, c1']; done)
    · intro ff kk ww hkk hI hd QQ' hQ
      try dsimp only
      go_big_wp2_with fail
      refine hQ _ _ _ ?_ hI (Below.refl _ _) rfl
      first | rfl | (simp [upd]; done)
    · intro ff kk ww hkk hI hd QQ' hQ
      try dsimp only
      have y1 := (HX.out.kept hI).c1
      have c3' : ff 3 = _ := hd.get (n := 3) (by decide)
      go_big_wp2_with fail
      refine hQ _ _ _ ?_ hI (Below.refl _ _) rfl
      first | rfl | (simp [upd, c3']; done)
    · intro ff kk ww hkk hI hd QQ' hQ
      try dsimp only
      have q1 := HZ.out.n1
      have q2 := HZ.out.n2
      have q3 := HZ.out.n3
      have q4 := HD.out.1
      have q5 := HD.out.2
      have q6 := numB_size HZ.out.sL
      have q7 := numB_size HZ.out.sS
      have q8 := numB_size HZ.out.sB
      have mm : ¬ 9223372036854775807 < d.name.size + 1 + d.fr.size := by omega
      clear q1 q2 q3 q4 q5 q6 q7 q8
      have c2' : ff 2 = _ := hd.get (n := 2) (by decide)
      have c4' : ff 4 = _ := hd.get (n := 4) (by decide)
      go_big_wp2_with fail
      refine hQ _ _ _ ?_ hI (Below.refl _ _) rfl
      first | rfl | (simp [upd, c2', c4']; done)
    · intro ff kk ww hkk hI hd QQ' hQ
      try dsimp only
      have q1 := HZ.out.n1
      have q2 := HZ.out.n2
      have q3 := HZ.out.n3
      have q4 := HD.out.1
      have q5 := HD.out.2
      have q6 := numB_size HZ.out.sL
      have q7 := numB_size HZ.out.sS
      have q8 := numB_size HZ.out.sB
      have mm : ¬ 9223372036854775807 < d.name.size + 1 + d.fr.size + 1 := by omega
      clear q1 q2 q3 q4 q5 q6 q7 q8
      have c5' : ff 5 = _ := hd.get (n := 5) (by decide)
      go_big_wp2_with fail
      refine hQ _ _ _ ?_ hI (Below.refl _ _) rfl
      first | rfl | (simp [upd, c5']; done)
    · intro ff kk ww hkk hI hd QQ' hQ
      try dsimp only
      go_big_wp2_with fail
      refine hQ _ _ _ ?_ hI (Below.refl _ _) rfl
      first | rfl | (simp [upd]; done)
    · intro ff kk ww hkk hI hd QQ' hQ
      try dsimp only
      have y2 := (HX.out.kept hI).c2
      have c7' : ff 7 = _ := hd.get (n := 7) (by decide)
      go_big_wp2_with fail
      refine hQ _ _ _ ?_ hI (Below.refl _ _) rfl
      first | rfl | (simp [upd, c7']; done)
    · intro ff kk ww hkk hI hd QQ' hQ
      try dsimp only
      have q1 := HZ.out.n1
      have q2 := HZ.out.n2
      have q3 := HZ.out.n3
      have q4 := HD.out.1
      have q5 := HD.out.2
      have q6 := numB_size HZ.out.sL
      have q7 := numB_size HZ.out.sS
      have q8 := numB_size HZ.out.sB
      have mm : ¬ 9223372036854775807 < d.name.size + 1 + d.fr.size + 1 + d.to.size := by omega
      clear q1 q2 q3 q4 q5 q6 q7 q8
      have c6' : ff 6 = _ := hd.get (n := 6) (by decide)
      have c8' : ff 8 = _ := hd.get (n := 8) (by decide)
      go_big_wp2_with fail
      refine hQ _ _ _ ?_ hI (Below.refl _ _) rfl
      first | rfl | (simp [upd, c6', c8']; done)
    · intro ff kk ww hkk hI hd QQ' hQ
      try dsimp only
      have q1 := HZ.out.n1
      have q2 := HZ.out.n2
      have q3 := HZ.out.n3
      have q4 := HD.out.1
      have q5 := HD.out.2
      have q6 := numB_size HZ.out.sL
      have q7 := numB_size HZ.out.sS
      have q8 := numB_size HZ.out.sB
      have mm : ¬ 9223372036854775807 < d.name.size + 1 + d.fr.size + 1 + d.to.size + 1 := by omega
      clear q1 q2 q3 q4 q5 q6 q7 q8
      have c9' : ff 9 = _ := hd.get (n := 9) (by decide)
      go_big_wp2_with fail
      refine hQ _ _ _ ?_ hI (Below.refl _ _) rfl
      first | rfl | (simp [upd, c9']; done)
    · intro ff kk ww hkk hI hd QQ' hQ
      try dsimp only
      go_big_wp2_with fail
      refine hQ _ _ _ ?_ hI (Below.refl _ _) rfl
      first | rfl | (simp [upd]; done)
    · intro ff kk ww hkk hI hd QQ' hQ
      try dsimp only
      have y3 := (HX.out.kept hI).c3
      have c11' : ff 11 = _ := hd.get (n := 11) (by decide)
      go_big_wp2_with fail
      refine hQ _ _ _ ?_ hI (Below.refl _ _) rfl
      first | rfl | (simp [upd, c11']; done)
    · intro ff kk ww hkk hI hd QQ' hQ
      try dsimp only
      have c12' : ff 12 = _ := hd.get (n := 12) (by decide)
      go_big_wp2_with fail
      refine (decS d.dep ww HZ.out.dep.1 (by have := HZ.out.dep.2; omega)).mono ?_
      rintro e wa ⟨so, rfl, hso, hse, da⟩
      have e1 : so = decB d.dep := hse.out
      subst e1
      go_big_wp2_with fail
      refine hQ _ _ _ ?_ (bt hI da) da rfl
      first | rfl | (simp [upd, c12']; done)
    · intro ff kk ww hkk hI hd QQ' hQ
      try dsimp only
      have q1 := HZ.out.n1
      have q2 := HZ.out.n2
      have q3 := HZ.out.n3
      have q4 := HD.out.1
      have q5 := HD.out.2
      have q6 := numB_size HZ.out.sL
      have q7 := numB_size HZ.out.sS
      have q8 := numB_size HZ.out.sB
      have mm : ¬ 9223372036854775807 < d.name.size + 1 + d.fr.size + 1 + d.to.size + 1 + (decB d.dep).size := by omega
      clear q1 q2 q3 q4 q5 q6 q7 q8
      have c10' : ff 10 = _ := hd.get (n := 10) (by decide)
      have c13' : ff 13 = _ := hd.get (n := 13) (by decide)
      go_big_wp2_with fail
      refine hQ _ _ _ ?_ hI (Below.refl _ _) rfl
      first | rfl | (simp [upd, c10', c13']; done)
    · intro ff kk ww hkk hI hd QQ' hQ
      try dsimp only
      have q1 := HZ.out.n1
      have q2 := HZ.out.n2
      have q3 := HZ.out.n3
      have q4 := HD.out.1
      have q5 := HD.out.2
      have q6 := numB_size HZ.out.sL
      have q7 := numB_size HZ.out.sS
      have q8 := numB_size HZ.out.sB
      have mm : ¬ 9223372036854775807 < d.name.size + 1 + d.fr.size + 1 + d.to.size + 1 + (decB d.dep).size + 1 := by omega
      clear q1 q2 q3 q4 q5 q6 q7 q8
      have c14' : ff 14 = _ := hd.get (n := 14) (by decide)
      go_big_wp2_with fail
      refine hQ _ _ _ ?_ hI (Below.refl _ _) rfl
      first | rfl | (simp [upd, c14']; done)
    · intro ff kk ww hkk hI hd QQ' hQ
      try dsimp only
      go_big_wp2_with fail
      refine hQ _ _ _ ?_ hI (Below.refl _ _) rfl
      first | rfl | (simp [upd]; done)
    · intro ff kk ww hkk hI hd QQ' hQ
      try dsimp only
      have y4 := (HX.out.kept hI).c4
      have c16' : ff 16 = _ := hd.get (n := 16) (by decide)
      go_big_wp2_with fail
      refine hQ _ _ _ ?_ hI (Below.refl _ _) rfl
      first | rfl | (simp [upd, c16']; done)
    · intro ff kk ww hkk hI hd QQ' hQ
      try dsimp only
      have c17' : ff 17 = _ := hd.get (n := 17) (by decide)
      go_big_wp2_with fail
      refine (decS d.arr ww HZ.out.arr.1 (by have := HZ.out.arr.2; omega)).mono ?_
      rintro e wa ⟨so, rfl, hso, hse, da⟩
      have e1 : so = decB d.arr := hse.out
      subst e1
      go_big_wp2_with fail
      refine hQ _ _ _ ?_ (bt hI da) da rfl
      first | rfl | (simp [upd, c17']; done)
    · intro ff kk ww hkk hI hd QQ' hQ
      try dsimp only
      have q1 := HZ.out.n1
      have q2 := HZ.out.n2
      have q3 := HZ.out.n3
      have q4 := HD.out.1
      have q5 := HD.out.2
      have q6 := numB_size HZ.out.sL
      have q7 := numB_size HZ.out.sS
      have q8 := numB_size HZ.out.sB
      have mm : ¬ 9223372036854775807 < d.name.size + 1 + d.fr.size + 1 + d.to.size + 1 + (decB d.dep).size + 1 + (decB d.arr).size := by omega
      clear q1 q2 q3 q4 q5 q6 q7 q8
      have c15' : ff 15 = _ := hd.get (n := 15) (by decide)
      have c18' : ff 18 = _ := hd.get (n := 18) (by decide)
      go_big_wp2_with fail
      refine hQ _ _ _ ?_ hI (Below.refl _ _) rfl
      first | rfl | (simp [upd, c15', c18']; done)
    · intro ff kk ww hkk hI hd QQ' hQ
      try dsimp only
      have q1 := HZ.out.n1
      have q2 := HZ.out.n2
      have q3 := HZ.out.n3
      have q4 := HD.out.1
      have q5 := HD.out.2
      have q6 := numB_size HZ.out.sL
      have q7 := numB_size HZ.out.sS
      have q8 := numB_size HZ.out.sB
      have mm : ¬ 9223372036854775807 < d.name.size + 1 + d.fr.size + 1 + d.to.size + 1 + (decB d.dep).size + 1 + (decB d.arr).size + 1 := by omega
      clear q1 q2 q3 q4 q5 q6 q7 q8
      have c19' : ff 19 = _ := hd.get (n := 19) (by decide)
      go_big_wp2_with fail
      refine hQ _ _ _ ?_ hI (Below.refl _ _) rfl
      first | rfl | (simp [upd, c19']; done)
    · intro ff kk ww hkk hI hd QQ' hQ
      try dsimp only
      go_big_wp2_with fail
      refine hQ _ _ _ ?_ hI (Below.refl _ _) rfl
      first | rfl | (simp [upd]; done)
    · intro ff kk ww hkk hI hd QQ' hQ
      try dsimp only
      have y6 := (HX.out.kept hI).c6
      have c21' : ff 21 = _ := hd.get (n := 21) (by decide)
      go_big_wp2_with fail
      refine hQ _ _ _ ?_ hI (Below.refl _ _) rfl
      first | rfl | (simp [upd, c21']; done)
    · intro ff kk ww hkk hI hd QQ' hQ
      try dsimp only
      have c22' : ff 22 = _ := hd.get (n := 22) (by decide)
      go_big_wp2_with fail
      refine (listS p.aL d.nL p.cL d.L ww ((HIN.out.kept hI).1) HZ.out.sL).mono ?_
      rintro e wa ⟨rfl, da⟩
      go_big_wp2_with fail
      refine hQ _ _ _ ?_ (bt hI da) da rfl
      first | rfl | (simp [upd, c22']; done)
    · intro ff kk ww hkk hI hd QQ' hQ
      try dsimp only
      have q1 := HZ.out.n1
      have q2 := HZ.out.n2
      have q3 := HZ.out.n3
      have q4 := HD.out.1
      have q5 := HD.out.2
      have q6 := numB_size HZ.out.sL
      have q7 := numB_size HZ.out.sS
      have q8 := numB_size HZ.out.sB
      have mm : ¬ 9223372036854775807 < d.name.size + 1 + d.fr.size + 1 + d.to.size + 1 + (decB d.dep).size + 1 + (decB d.arr).size + 1 + (numB d.L d.nL).size := by omega
      clear q1 q2 q3 q4 q5 q6 q7 q8
      have c20' : ff 20 = _ := hd.get (n := 20) (by decide)
      have c23' : ff 23 = _ := hd.get (n := 23) (by decide)
      go_big_wp2_with fail
      refine hQ _ _ _ ?_ hI (Below.refl _ _) rfl
      first | rfl | (simp [upd, c20', c23']; done)
    · intro ff kk ww hkk hI hd QQ' hQ
      try dsimp only
      have q1 := HZ.out.n1
      have q2 := HZ.out.n2
      have q3 := HZ.out.n3
      have q4 := HD.out.1
      have q5 := HD.out.2
      have q6 := numB_size HZ.out.sL
      have q7 := numB_size HZ.out.sS
      have q8 := numB_size HZ.out.sB
      have mm : ¬ 9223372036854775807 < d.name.size + 1 + d.fr.size + 1 + d.to.size + 1 + (decB d.dep).size + 1 + (decB d.arr).size + 1 + (numB d.L d.nL).size + 1 := by omega
      clear q1 q2 q3 q4 q5 q6 q7 q8
      have c24' : ff 24 = _ := hd.get (n := 24) (by decide)
      go_big_wp2_with fail
      refine hQ _ _ _ ?_ hI (Below.refl _ _) rfl
      first | rfl | (simp [upd, c24']; done)
    · intro ff kk ww hkk hI hd QQ' hQ
      try dsimp only
      go_big_wp2_with fail
      refine hQ _ _ _ ?_ hI (Below.refl _ _) rfl
      first | rfl | (simp [upd]; done)
    · intro ff kk ww hkk hI hd QQ' hQ
      try dsimp only
      have y7 := (HX.out.kept hI).c7
      have c26' : ff 26 = _ := hd.get (n := 26) (by decide)
      go_big_wp2_with fail
      refine hQ _ _ _ ?_ hI (Below.refl _ _) rfl
      first | rfl | (simp [upd, c26']; done)
    · intro ff kk ww hkk hI hd QQ' hQ
      try dsimp only
      have c27' : ff 27 = _ := hd.get (n := 27) (by decide)
      go_big_wp2_with fail
      refine (listS p.aS d.nS p.cS d.S ww ((HIN.out.kept hI).2.1) HZ.out.sS).mono ?_
      rintro e wa ⟨rfl, da⟩
      go_big_wp2_with fail
      refine hQ _ _ _ ?_ (bt hI da) da rfl
      first | rfl | (simp [upd, c27']; done)
    · intro ff kk ww hkk hI hd QQ' hQ
      try dsimp only
      have q1 := HZ.out.n1
      have q2 := HZ.out.n2
      have q3 := HZ.out.n3
      have q4 := HD.out.1
      have q5 := HD.out.2
      have q6 := numB_size HZ.out.sL
      have q7 := numB_size HZ.out.sS
      have q8 := numB_size HZ.out.sB
      have mm : ¬ 9223372036854775807 < d.name.size + 1 + d.fr.size + 1 + d.to.size + 1 + (decB d.dep).size + 1 + (decB d.arr).size + 1 + (numB d.L d.nL).size + 1 + (numB d.S d.nS).size := by omega
      clear q1 q2 q3 q4 q5 q6 q7 q8
      have c25' : ff 25 = _ := hd.get (n := 25) (by decide)
      have c28' : ff 28 = _ := hd.get (n := 28) (by decide)
      go_big_wp2_with fail
      refine hQ _ _ _ ?_ hI (Below.refl _ _) rfl
      first | rfl | (simp [upd, c25', c28']; done)
    · intro ff kk ww hkk hI hd QQ' hQ
      try dsimp only
      have q1 := HZ.out.n1
      have q2 := HZ.out.n2
      have q3 := HZ.out.n3
      have q4 := HD.out.1
      have q5 := HD.out.2
      have q6 := numB_size HZ.out.sL
      have q7 := numB_size HZ.out.sS
      have q8 := numB_size HZ.out.sB
      have mm : ¬ 9223372036854775807 < d.name.size + 1 + d.fr.size + 1 + d.to.size + 1 + (decB d.dep).size + 1 + (decB d.arr).size + 1 + (numB d.L d.nL).size + 1 + (numB d.S d.nS).size + 1 := by omega
      clear q1 q2 q3 q4 q5 q6 q7 q8
      have c29' : ff 29 = _ := hd.get (n := 29) (by decide)
      go_big_wp2_with fail
      refine hQ _ _ _ ?_ hI (Below.refl _ _) rfl
      first | rfl | (simp [upd, c29']; done)
    · intro ff kk ww hkk hI hd QQ' hQ
      try dsimp only
      go_big_wp2_with fail
      refine hQ _ _ _ ?_ hI (Below.refl _ _) rfl
      first | rfl | (simp [upd]; done)
    · intro ff kk ww hkk hI hd QQ' hQ
      try dsimp only
      have y8 := (HX.out.kept hI).c8
      have c31' : ff 31 = _ := hd.get (n := 31) (by decide)
      go_big_wp2_with fail
      refine hQ _ _ _ ?_ hI (Below.refl _ _) rfl
      first | rfl | (simp [upd, c31']; done)
    · intro ff kk ww hkk hI hd QQ' hQ
      try dsimp only
      have c32' : ff 32 = _ := hd.get (n := 32) (by decide)
      go_big_wp2_with fail
      refine (listS p.aB d.nB p.cB d.B ww ((HIN.out.kept hI).2.2.1) HZ.out.sB).mono ?_
      rintro e wa ⟨rfl, da⟩
      go_big_wp2_with fail
      refine hQ _ _ _ ?_ (bt hI da) da rfl
      first | rfl | (simp [upd, c32']; done)
    · intro ff kk ww hkk hI hd QQ' hQ
      try dsimp only
      have q1 := HZ.out.n1
      have q2 := HZ.out.n2
      have q3 := HZ.out.n3
      have q4 := HD.out.1
      have q5 := HD.out.2
      have q6 := numB_size HZ.out.sL
      have q7 := numB_size HZ.out.sS
      have q8 := numB_size HZ.out.sB
      have mm : ¬ 9223372036854775807 < d.name.size + 1 + d.fr.size + 1 + d.to.size + 1 + (decB d.dep).size + 1 + (decB d.arr).size + 1 + (numB d.L d.nL).size + 1 + (numB d.S d.nS).size + 1 + (numB d.B d.nB).size := by omega
      clear q1 q2 q3 q4 q5 q6 q7 q8
      have c30' : ff 30 = _ := hd.get (n := 30) (by decide)
      have c33' : ff 33 = _ := hd.get (n := 33) (by decide)
      go_big_wp2_with fail
      refine hQ _ _ _ ?_ hI (Below.refl _ _) rfl
      first | rfl | (simp [upd, c30', c33']; done)
    · intro ff kk ww hkk hI hd QQ' hQ
      try dsimp only
      have c34' : ff 34 = _ := hd.get (n := 34) (by decide)
      go_big_wp2_with fail
      refine hQ _ _ _ ?_ hI (Below.refl _ _) rfl
      first | rfl | (simp [upd, c34']; done)
  case hend =>
  intro ff kk w2 d2 hS
  try dsimp only
  have cz' : ff 35 = _ := hS 35 (by decide)
  rw [cz', leg_cat]
  have D2 := Lib.hid (HbA.out.trans (d2.mono (by have := lt_heap HX.out; omega)))
  clear cz' hS d2
  go_wp2
  go_ret
  exact ⟨rfl, by rw [Hbl.out]; exact D2.out⟩

set_option maxRecDepth 100000 in
set_option maxHeartbeats 8000000 in
theorem writeS (d : LegD) (p : LegP) (w : World) (h : LegIn w d p) (hf : Fits d) :
    Calls Tryz.prog 14 #[LegV d p] w (TextPost d w) := by
  have hbA : Below w.heap.size w (w.alloc (.cells (LegC d p) 25)) := (Below.refl _ _).alloc (Nat.le_refl _) _
  have hA := boxLeg w d p
  have HIN0 := Lib.hid (h.kept hbA)
  have HA := Lib.hid hA
  have HbA := Lib.hid hbA
  have HF := Lib.hid hf
  have x0 := HA.out.c0
  have x1 := HA.out.c1
  have x2 := HA.out.c2
  have x3 := HA.out.c3
  have x4 := HA.out.c4
  have x5 := HA.out.c5
  have x6 := HA.out.c6
  have x7 := HA.out.c7
  have x8 := HA.out.c8
  have x9 := HA.out.c9
  rw [LegV_eqW]
  generalize hLC : LegC d p = LC at *
  clear h hbA hA hf hLC
  go_enter Tryz.func14, Tryz.ntmps14
  go_wp2_with fail
  generalize w.alloc (.cells LC 25) = w0 at *
  refine (okM d p w0 HIN0.out HF.out).mono ?_
  rintro e w1 ⟨b, rfl, hb, d1⟩
  have HX := Lib.hid (HA.out.kept d1)
  have HIN := Lib.hid (HIN0.out.kept d1)
  have D1 := Lib.hid (bt HbA.out d1)
  clear d1
  clear x0 x1 x2 x3 x4 x5 x6 x7 x8 x9
  cases b with
  | false =>
    have hno : Hid (¬ OkLeg d) := fun h => by have := hb.out.2 h; cases this
    go_wp2
    go_ret
    exact ⟨_, rfl, ⟨fun h => absurd h hno.out, fun _ => rfl⟩, D1.out⟩
  | true =>
  have HOK := Lib.hid (hb.out.1 rfl)
  have x0 := HX.out.c0
  have x1 := HX.out.c1
  have x2 := HX.out.c2
  have x3 := HX.out.c3
  have x4 := HX.out.c4
  have x5 := HX.out.c5
  have x6 := HX.out.c6
  have x7 := HX.out.c7
  have x8 := HX.out.c8
  have x9 := HX.out.c9
  go_wp2_with fail
  refine (write6 d p w1 HIN.out HOK.out).mono ?_
  rintro e w2 ⟨rfl, d2⟩
  have D2 := Lib.hid (bt D1.out d2)
  clear d2
  go_wp2
  go_ret
  exact ⟨_, rfl, ⟨fun _ => rfl, fun h => absurd HOK.out h⟩, D2.out⟩

end Go.Proofs.YtdaccpffdnbkiaaGreatDoor
