/-
  A leg's text: the program's answer.
-/
import Derived.Test.YtlfmhhdlandcjaaGreatDoorLegText
namespace Go.Proofs.YtlfmhhdlandcjaaGreatDoor
open Go.RowKit
set_option linter.unusedVariables false
set_option linter.unusedSimpArgs false

theorem LegV_eqW (d : LegD) (p : LegP) : LegV d p = .agg (LegC d p) := rfl
def SWr (d : LegD) (p : LegP) (bl : Nat) (i : Nat) (W : World) (v : Value) : Prop := match i with
  | 0 => v = .pointer (some ⟨bl, 0, none⟩)
  | 1 => v = .string (d.name)
  | 2 => v = .pointer (some ⟨bl, 1, none⟩)
  | 3 => v = .string (d.fr)
  | 4 => v = .pointer (some ⟨bl, 2, none⟩)
  | 5 => v = .string (d.to)
  | 6 => v = .pointer (some ⟨bl, 3, none⟩)
  | 7 => v = .int .i64 d.dep
  | 8 => v = .string (decB d.dep)
  | 9 => v = .pointer (some ⟨bl, 4, none⟩)
  | 10 => v = .int .i64 d.arr
  | 11 => v = .string (decB d.arr)
  | 12 => v = .pointer (some ⟨bl, 6, none⟩)
  | 13 => v = .slice p.aL d.nL p.cL
  | 14 => v = .string (numB d.L d.nL)
  | 15 => v = .pointer (some ⟨bl, 7, none⟩)
  | 16 => v = .slice p.aS d.nS p.cS
  | 17 => v = .string (numB d.S d.nS)
  | 18 => v = .pointer (some ⟨bl, 8, none⟩)
  | 19 => v = .slice p.aB d.nB p.cB
  | 20 => v = .string (numB d.B d.nB)
  | 21 => ∃ g : Nat, v = .slice (some ⟨g, 0, none⟩) 8 8 ∧ W.heap[g]? = some (.cells #[.string d.name, .string d.fr, .string d.to, .string (decB d.dep), .string (decB d.arr), .string (numB d.L d.nL), .string (numB d.S d.nS), .string (numB d.B d.nB)] 9 (0, 0))
  | 22 => ∃ g : Nat, v = .slice (some ⟨g, 0, none⟩) 8 8 ∧ W.heap[g]? = some (.cells #[.string d.name, .string d.fr, .string d.to, .string (decB d.dep), .string (decB d.arr), .string (numB d.L d.nL), .string (numB d.S d.nS), .string (numB d.B d.nB)] 9 (0, 0))
  | _ => True
theorem SWr.kept {d : LegD} {p : LegP} {bl i : Nat} {W W' : World} {v : Value} (h : SWr d p bl i W v) (hb : Below W.heap.size W W') : SWr d p bl i W' v := by
  match i, h with
  | 0, h => exact h
  | 1, h => exact h
  | 2, h => exact h
  | 3, h => exact h
  | 4, h => exact h
  | 5, h => exact h
  | 6, h => exact h
  | 7, h => exact h
  | 8, h => exact h
  | 9, h => exact h
  | 10, h => exact h
  | 11, h => exact h
  | 12, h => exact h
  | 13, h => exact h
  | 14, h => exact h
  | 15, h => exact h
  | 16, h => exact h
  | 17, h => exact h
  | 18, h => exact h
  | 19, h => exact h
  | 20, h => exact h
  | 21, ⟨g, h1, h2⟩ => exact ⟨g, h1, (hb.block g (lt_heap h2)).trans h2⟩
  | 22, ⟨g, h1, h2⟩ => exact ⟨g, h1, (hb.block g (lt_heap h2)).trans h2⟩
  | i + 23, h => exact h

set_option maxRecDepth 100000 in
set_option maxHeartbeats 16000000 in
theorem writeI (d : LegD) (p : LegP) (w : World) (h : LegIn w d p) (hf : Fits d) (hcL : d.nL ≤ p.cL) (hcS : d.nS ≤ p.cS) (hcB : d.nB ≤ p.cB) (hL : Laid w) :
    Calls Tryz.prog 12 #[LegV d p] w (TextPost d w) := by
  have hbA : Below w.heap.size w (w.alloc (.cells (LegC d p) 25)) := (Below.refl _ _).alloc (Nat.le_refl _) _
  have hA := boxLeg w d p
  have HIN0 := Lib.hid (h.kept hbA)
  have HA := Lib.hid hA
  have HbA := Lib.hid hbA
  have HF := Lib.hid hf
  have x0 := HA.out.c0
  have x1 := HA.out.c1
  have x2 := HA.out.c2
  have x3 := HA.out.c3
  have x4 := HA.out.c4
  have x5 := HA.out.c5
  have x6 := HA.out.c6
  have x7 := HA.out.c7
  have x8 := HA.out.c8
  have x9 := HA.out.c9
  rw [LegV_eqW]
  generalize hLC : LegC d p = LC at *
  clear h hbA hA hf hLC
  have HLw := Lib.hid (laid_stays hL HbA.out)
  have HC := Lib.hid (And.intro hcL (And.intro hcS hcB))
  clear hL hcL hcB
  go_enter Tryz.func12, Tryz.ntmps12
  go_wp2_with fail
  generalize w.alloc (.cells LC 25) = w0 at *
  refine (okI d p w0 HIN0.out HF.out hcS).mono ?_
  rintro e w1 ⟨b, rfl, hb, d1⟩
  have HX := Lib.hid (HA.out.kept d1)
  have HIN := Lib.hid (HIN0.out.kept d1)
  have D1 := Lib.hid (bt HbA.out d1)
  have HLw := Lib.hid (laid_stays HLw.out d1)
  clear d1 hcS
  clear x0 x1 x2 x3 x4 x5 x6 x7 x8 x9
  cases b with
  | false =>
    have hno : Hid (¬ OkLeg d) := fun h => by have := hb.out.2 h; cases this
    go_wp2
    go_ret
    exact ⟨_, rfl, ⟨fun h => absurd h hno.out, fun _ => rfl⟩, D1.out⟩
  | true =>
  have HOK := Lib.hid (hb.out.1 rfl)
  have HZ := Lib.hid HOK.out.sizes
  generalize hbl : w.heap.size = bl at *
  have Hbl := Lib.hid hbl
  clear hb HIN0 HA hbl
  go_upto_region 3 with fail
  refine wp_region_free' (by kernel_rfl) (fun _ W => Below w1.heap.size w1 W) (fun W W' => Below W.heap.size W W') (SWr d p bl) (by kernel_rfl) (fun i k v W W' h _ hb => h.kept hb) ((Below.refl _ _).drew) ?_
  apply Exists.intro
  apply And.intro
  · intro f
    simp only [over, List.set]
    exact rfl
  refine ⟨?hops, ?hend⟩
  case hops =>
    refine EachOp.cons ?_ (EachOp.cons ?_ (EachOp.cons ?_ (EachOp.cons ?_ (EachOp.cons ?_ (EachOp.cons ?_ (EachOp.cons ?_ (EachOp.cons ?_ (EachOp.cons ?_ (EachOp.cons ?_ (EachOp.cons ?_ (EachOp.cons ?_ (EachOp.cons ?_ (EachOp.cons ?_ (EachOp.cons ?_ (EachOp.cons ?_ (EachOp.cons ?_ (EachOp.cons ?_ (EachOp.cons ?_ (EachOp.cons ?_ (EachOp.cons ?_ (EachOp.cons ?_ (EachOp.cons ?_ (EachOp.nil)))))))))))))))))))))))
    · intro ff kk ww hkk hI hd QQ' hQ
      try dsimp only
      go_big_wp2_with fail
      refine hQ _ _ _ ?_ hI (Below.refl _ _) rfl
      first | rfl | (simp [upd]; done)
    · intro ff kk ww hkk hI hd QQ' hQ
      try dsimp only
      have y0 := (HX.out.kept hI).c0
      have c0' : ff 0 = _ := hd.get (n := 0) (by decide)
      go_big_wp2_with fail
      refine hQ _ _ _ ?_ hI (Below.refl _ _) rfl
      first | rfl | (simp [upd, c0']; done)
    · intro ff kk ww hkk hI hd QQ' hQ
      try dsimp only
      go_big_wp2_with fail
      refine hQ _ _ _ ?_ hI (Below.refl _ _) rfl
      first | rfl | (simp [upd]; done)
    · intro ff kk ww hkk hI hd QQ' hQ
      try dsimp only
      have y1 := (HX.out.kept hI).c1
      have c2' : ff 2 = _ := hd.get (n := 2) (by decide)
      go_big_wp2_with fail
      refine hQ _ _ _ ?_ hI (Below.refl _ _) rfl
      first | rfl | (simp [upd, c2']; done)
    · intro ff kk ww hkk hI hd QQ' hQ
      try dsimp only
      go_big_wp2_with fail
      refine hQ _ _ _ ?_ hI (Below.refl _ _) rfl
      first | rfl | (simp [upd]; done)
    · intro ff kk ww hkk hI hd QQ' hQ
      try dsimp only
      have y2 := (HX.out.kept hI).c2
      have c4' : ff 4 = _ := hd.get (n := 4) (by decide)
      go_big_wp2_with fail
      refine hQ _ _ _ ?_ hI (Below.refl _ _) rfl
      first | rfl | (simp [upd, c4']; done)
    · intro ff kk ww hkk hI hd QQ' hQ
      try dsimp only
      go_big_wp2_with fail
      refine hQ _ _ _ ?_ hI (Below.refl _ _) rfl
      first | rfl | (simp [upd]; done)
    · intro ff kk ww hkk hI hd QQ' hQ
      try dsimp only
      have y3 := (HX.out.kept hI).c3
      have c6' : ff 6 = _ := hd.get (n := 6) (by decide)
      go_big_wp2_with fail
      refine hQ _ _ _ ?_ hI (Below.refl _ _) rfl
      first | rfl | (simp [upd, c6']; done)
    · intro ff kk ww hkk hI hd QQ' hQ
      try dsimp only
      have c7' : ff 7 = _ := hd.get (n := 7) (by decide)
      go_big_wp2_with fail
      refine (itoaS d.dep ww (laid_stays HLw.out hI) HZ.out.dep.1 (by have := HZ.out.dep.2; omega)).mono ?_
      rintro e wa ⟨so, rfl, hso, hse, da, -⟩
      have e1 : so = decB d.dep := hse.out
      subst e1
      go_big_wp2_with fail
      refine hQ _ _ _ ?_ (bt hI da) da rfl
      first | rfl | (simp [upd, c7']; done)
    · intro ff kk ww hkk hI hd QQ' hQ
      try dsimp only
      go_big_wp2_with fail
      refine hQ _ _ _ ?_ hI (Below.refl _ _) rfl
      first | rfl | (simp [upd]; done)
    · intro ff kk ww hkk hI hd QQ' hQ
      try dsimp only
      have y4 := (HX.out.kept hI).c4
      have c9' : ff 9 = _ := hd.get (n := 9) (by decide)
      go_big_wp2_with fail
      refine hQ _ _ _ ?_ hI (Below.refl _ _) rfl
      first | rfl | (simp [upd, c9']; done)
    · intro ff kk ww hkk hI hd QQ' hQ
      try dsimp only
      have c10' : ff 10 = _ := hd.get (n := 10) (by decide)
      go_big_wp2_with fail
      refine (itoaS d.arr ww (laid_stays HLw.out hI) HZ.out.arr.1 (by have := HZ.out.arr.2; omega)).mono ?_
      rintro e wa ⟨so, rfl, hso, hse, da, -⟩
      have e1 : so = decB d.arr := hse.out
      subst e1
      go_big_wp2_with fail
      refine hQ _ _ _ ?_ (bt hI da) da rfl
      first | rfl | (simp [upd, c10']; done)
    · intro ff kk ww hkk hI hd QQ' hQ
      try dsimp only
      go_big_wp2_with fail
      refine hQ _ _ _ ?_ hI (Below.refl _ _) rfl
      first | rfl | (simp [upd]; done)
    · intro ff kk ww hkk hI hd QQ' hQ
      try dsimp only
      have y6 := (HX.out.kept hI).c6
      have c12' : ff 12 = _ := hd.get (n := 12) (by decide)
      go_big_wp2_with fail
      refine hQ _ _ _ ?_ hI (Below.refl _ _) rfl
      first | rfl | (simp [upd, c12']; done)
    · intro ff kk ww hkk hI hd QQ' hQ
      try dsimp only
      have c13' : ff 13 = _ := hd.get (n := 13) (by decide)
      go_big_wp2_with fail
      refine (listI p.aL d.nL p.cL d.L ww ((HIN.out.kept hI).1) HZ.out.sL HC.out.1 (by have := HZ.out.nL; omega) (laid_stays HLw.out hI)).mono ?_
      rintro e wa ⟨rfl, da⟩
      go_big_wp2_with fail
      refine hQ _ _ _ ?_ (bt hI da) da rfl
      first | rfl | (simp [upd, c13']; done)
    · intro ff kk ww hkk hI hd QQ' hQ
      try dsimp only
      go_big_wp2_with fail
      refine hQ _ _ _ ?_ hI (Below.refl _ _) rfl
      first | rfl | (simp [upd]; done)
    · intro ff kk ww hkk hI hd QQ' hQ
      try dsimp only
      have y7 := (HX.out.kept hI).c7
      have c15' : ff 15 = _ := hd.get (n := 15) (by decide)
      go_big_wp2_with fail
      refine hQ _ _ _ ?_ hI (Below.refl _ _) rfl
      first | rfl | (simp [upd, c15']; done)
    · intro ff kk ww hkk hI hd QQ' hQ
      try dsimp only
      have c16' : ff 16 = _ := hd.get (n := 16) (by decide)
      go_big_wp2_with fail
      refine (listI p.aS d.nS p.cS d.S ww ((HIN.out.kept hI).2.1) HZ.out.sS HC.out.2.1 (by have := HZ.out.nS; omega) (laid_stays HLw.out hI)).mono ?_
      rintro e wa ⟨rfl, da⟩
      go_big_wp2_with fail
      refine hQ _ _ _ ?_ (bt hI da) da rfl
      first | rfl | (simp [upd, c16']; done)
    · intro ff kk ww hkk hI hd QQ' hQ
      try dsimp only
      go_big_wp2_with fail
      refine hQ _ _ _ ?_ hI (Below.refl _ _) rfl
      first | rfl | (simp [upd]; done)
    · intro ff kk ww hkk hI hd QQ' hQ
      try dsimp only
      have y8 := (HX.out.kept hI).c8
      have c18' : ff 18 = _ := hd.get (n := 18) (by decide)
      go_big_wp2_with fail
      refine hQ _ _ _ ?_ hI (Below.refl _ _) rfl
      first | rfl | (simp [upd, c18']; done)
    · intro ff kk ww hkk hI hd QQ' hQ
      try dsimp only
      have c19' : ff 19 = _ := hd.get (n := 19) (by decide)
      go_big_wp2_with fail
      refine (listI p.aB d.nB p.cB d.B ww ((HIN.out.kept hI).2.2.1) HZ.out.sB HC.out.2.2 (by have := HZ.out.nB; omega) (laid_stays HLw.out hI)).mono ?_
      rintro e wa ⟨rfl, da⟩
      go_big_wp2_with fail
      refine hQ _ _ _ ?_ (bt hI da) da rfl
      first | rfl | (simp [upd, c19']; done)
    · intro ff kk ww hkk hI hd QQ' hQ
      try dsimp only
      have c1' : ff 1 = _ := hd.get (n := 1) (by decide)
      have c3' : ff 3 = _ := hd.get (n := 3) (by decide)
      have c5' : ff 5 = _ := hd.get (n := 5) (by decide)
      have c8' : ff 8 = _ := hd.get (n := 8) (by decide)
      have c11' : ff 11 = _ := hd.get (n := 11) (by decide)
      have c14' : ff 14 = _ := hd.get (n := 14) (by decide)
      have c17' : ff 17 = _ := hd.get (n := 17) (by decide)
      have c20' : ff 20 = _ := hd.get (n := 20) (by decide)
      have hbn : Below ww.heap.size ww (ww.alloc (.cells #[.string d.name, .string d.fr, .string d.to, .string (decB d.dep), .string (decB d.arr), .string (numB d.L d.nL), .string (numB d.S d.nS), .string (numB d.B d.nB)] 9)) := (Below.refl _ _).alloc (Nat.le_refl _) _
      go_big_wp2_with fail
      refine hQ _ _ _ ?_ (bt hI hbn) hbn ⟨ww.heap.size, rfl, heap_alloc_new ww _⟩
      first | rfl | (simp [upd, c1', c3', c5', c8', c11', c14', c17', c20']; done)
    · intro ff kk ww hkk hI hd QQ' hQ
      try dsimp only
      obtain ⟨g, c21, hz⟩ := hd.get (n := 21) (by decide)
      have c21' : ff 21 = _ := c21
      go_big_wp2_with fail
      refine hQ _ _ _ ?_ hI (Below.refl _ _) ⟨g, rfl, hz⟩
      first | rfl | (simp [upd, c21']; done)
  case hend =>
  intro ff kk w2 d2 hS
  try dsimp only
  obtain ⟨g, cz, hz⟩ := hS 22 (by decide)
  have cz' : ff 22 = _ := cz
  rw [cz']
  have HZc := Lib.hid hz
  have D2 := Lib.hid (D1.out.trans (d2.mono (by have := lt_heap HX.out; omega)))
  have hcells : ∀ (j : Nat) x, (legWords d)[j]? = some x → w2.cell? ⟨g, 0 + j, none⟩ = some (.string x) := by
    intro j x hj
    have hj8 : j < 8 := (List.getElem?_eq_some_iff.1 hj).1
    rw [Nat.zero_add, Lib.cell_of_heap HZc.out]
    rcases (by omega : j = 0 ∨ j = 1 ∨ j = 2 ∨ j = 3 ∨ j = 4 ∨ j = 5 ∨ j = 6 ∨ j = 7) with rfl | rfl | rfl | rfl | rfl | rfl | rfl | rfl <;> (cases hj; rfl)
  have J := Tryz.strings_Join g 0 8 (legWords d) ⟨#[32]⟩ w2 hcells (lt_heap hz) (by show 8 ≤ _; omega) (Nat.le_refl 8) (by have := legWords_len HZ.out; show (joinS 32 (legWords d)).length ≤ _; omega)
  have HJ : Hid (Calls Tryz.prog 35 #[.slice (some ⟨g, 0, none⟩) 8 8, .string ⟨#[32]⟩] w2 fun e w' => e = .returned (.string (legB d)) ∧ Below w2.heap.size w2 w') := J
  clear J hcells cz cz' hS hz d2
  go_wp2_with fail
  refine HJ.out.mono ?_
  rintro e w3 ⟨rfl, d3⟩
  have D3 := Lib.hid (D2.out.trans (d3.mono (by have := D2.out.size; have := Hbl.out; omega)))
  go_wp2
  go_ret
  exact ⟨_, rfl, ⟨fun _ => rfl, fun h => absurd HOK.out h⟩, by rw [Hbl.out]; exact D3.out⟩

end Go.Proofs.YtlfmhhdlandcjaaGreatDoor
