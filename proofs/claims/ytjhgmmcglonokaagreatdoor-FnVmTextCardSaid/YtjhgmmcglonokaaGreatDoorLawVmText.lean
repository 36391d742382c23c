/-
  The law FnVmText's own walk (P19).
-/
import Derived.Test.YtjhgmmcglonokaaGreatDoorDrawVmT
import Derived.Test.YtjhgmmcglonokaaGreatDoorJ39
import Derived.Test.YtjhgmmcglonokaaGreatDoorJ16
namespace Go.Proofs.YtjhgmmcglonokaaGreatDoor
open Go.RowKit
set_option linter.unusedVariables false
set_option linter.unusedSimpArgs false

theorem isRow_belowV {k : IntKind} {w w' : World} {a : Option Addr} {len cap : Nat} {z : List Int} (h : IsRow k w a len cap z) (hb : Below w.heap.size w w') : IsRow k w' a len cap z := by
  rcases h with h | ⟨x, h1, h2, h3, h4, h5, h6⟩
  · exact Or.inl h
  · refine Or.inr ⟨x, h1, h2, h3, h4, fun i hi => ?_, h6⟩
    have hc := h5 i hi
    exact (hb.cell (p := x.add i) (World.block_lt_of_cell? w _ hc)).trans hc
theorem drew_belowT {w w' : World} (h : ∃ q, w' = w.drewN q) : Below w.heap.size w w' := by
  obtain ⟨q, rfl⟩ := h
  exact belowN (Below.refl _ _) q
theorem writeV_yes {ds : List Pl} (h : OkV ds) : SaysV (writeV ds) ds true := by
  have e : writeV ds = textVB ds := by unfold writeV; rw [if_pos h]
  exact Or.inl ⟨rfl, h, e.symm⟩
theorem writeV_no {ds : List Pl} (h : ¬ OkV ds) : SaysV (writeV ds) [] false := by
  have e : writeV ds = ⟨#[]⟩ := by unfold writeV; rw [if_neg h]
  exact Or.inr ⟨rfl, rfl, isVm_ne (by rw [e]; rfl)⟩
theorem says_ex (s : ByteArray) : ∃ ds bo, SaysV s ds bo := by
  by_cases h : IsVmT s
  · obtain ⟨ds, h1, h2⟩ := h
    exact ⟨ds, true, Or.inl ⟨rfl, h1, h2⟩⟩
  · exact ⟨[], false, Or.inr ⟨rfl, rfl, h⟩⟩
theorem retrue {b : Bool} (h : b = true) : Ending.returned (.bool b) = .returned (.bool true) := by rw [h]
set_option maxRecDepth 20000 in
set_option maxHeartbeats 32000000 in
theorem lawVmText (a0 : Option Addr) (len0 cap0 : Nat) (z0 : List Int) (a1 : Option Addr) (len1 cap1 : Nat) (z1 : List Int) (w : World) (w0 : IsRow .u8 w a0 len0 cap0 z0) (w0' : IsRow .u8 w a1 len1 cap1 z1) (hL : LaidE w) :
    Calls Tryz.prog 4 #[.slice a0 len0 cap0, .slice a1 len1 cap1] w fun e w' => e = .returned (.bool true) ∧ Below w.heap.size w w' := by
  rcases Nat.lt_or_ge 1048576 len0 with hb0 | hb0
  · clear w0 w0'
    go_enter Tryz.func4, Tryz.ntmps4
    go_wp2
    go_ret
    exact ⟨rfl, Below.refl _ _⟩
  rcases Nat.lt_or_ge 1048576 len1 with hb1 | hb1
  · clear w0 w0'
    go_enter Tryz.func4, Tryz.ntmps4
    go_wp2
    go_ret
    exact ⟨rfl, Below.refl _ _⟩
  have HD := Lib.hid (drawVmRead a0 len0 cap0 z0 w w0)
  have HL := Lib.hid hL
  have HW0 := Lib.hid w0'
  clear w0 w0' hL
  go_enter Tryz.func4, Tryz.ntmps4
  go_wp2_with fail
  refine HD.out.mono ?_
  rintro e w1 ⟨t, rfl, hts, d1⟩
  have B1 := Lib.hid d1
  have E1 := Lib.hid (laidE_stays HL.out d1)
  clear d1 HD
  obtain ⟨ds, bo, hsay⟩ := says_ex t
  have HSAY := Lib.hid hsay
  have CS := Lib.hid (says_small hsay)
  have hln : ds.length ≤ 80 := CS.out.1
  have SM : Hid (∀ d ∈ ds, SmallP d) := fun d hd => by have := CS.out.2 d hd; show _ ∧ _; omega
  have K1 := Lib.hid (implReadJ t w1 (by omega) E1.out hsay)
  clear CS
  go_wp2_with fail
  refine K1.out.mono ?_
  rintro e w2 ⟨a2, c2, rfl, hC2, d2⟩
  have P2 := Lib.hid (codeO_pls hC2 rfl)
  have B2 := Lib.hid (B1.out.trans (d2.mono B1.out.size))
  have K2 := Lib.hid (specReadJ t w2 (by omega))
  clear hC2 d2 K1
  go_wp2_with fail
  refine K2.out.mono ?_
  rintro e w3 ⟨es, bo', a3, c3, hsay2, rfl, hp3, d3⟩
  obtain ⟨rfl, rfl⟩ := says_uniq hsay hsay2.out
  have P3 := Lib.hid (hp3)
  have P23 := Lib.hid (P2.out.kept (same_of_below d3))
  have B3 := Lib.hid (B2.out.trans (d3.mono B2.out.size))
  have zb : (bo != bo) = false := by cases bo <;> rfl
  have KW := Lib.hid (wsCodeC a2 a3 ds.length c2 c3 ds w3 P23.out P3.out SM.out (by omega))
  clear hsay hsay2 hp3 d3 K2 P2
  rcases HSAY.out with ⟨rfl, h1, h2⟩ | ⟨rfl, hnil, h1⟩
  · have HE : Hid (writeV ds = t) := Lib.hid (by unfold writeV; rw [if_pos h1]; exact h2)
    have E3 := Lib.hid (laidE_stays HL.out B3.out)
    have zt : (t.toList != t.toList) = false := by simp
    clear h1 h2
    go_wp2_with fail
    refine KW.out.mono ?_
    rintro e wx ⟨rfl, bx0⟩
    have bx : Below w3.heap.size w3 wx := drew_belowT bx0
    clear bx0
    have Bx := Lib.hid (B3.out.trans (bx.mono B3.out.size))
    have KI0 := Lib.hid (implVmWrite a2 ds.length c2 ds wx (P23.out.kept (same_of_below bx)) SM.out (by omega) (laidE_stays HL.out Bx.out).1)
    unfold WriteVP at KI0
    rw [HE.out] at KI0
    clear bx KW E3
    go_wp2_with fail
    refine KI0.out.mono ?_
    rintro e w4 ⟨rfl, b4⟩
    have Bw4 := Lib.hid (Bx.out.trans (b4.mono Bx.out.size))
    clear b4 KI0
    have E4 := Lib.hid (laidE_stays HL.out Bw4.out)
    have KD := Lib.hid (drawVmWrite a1 len1 cap1 z1 w4 (isRow_belowV HW0.out Bw4.out))
    go_wp2_with fail
    refine KD.out.mono ?_
    rintro e w5 ⟨a5, n5, c5, d5, rfl, hn5, hc5, hs5, b5⟩
    subst hn5
    have P5 := Lib.hid (codeW_pls hc5 rfl)
    have B5 := Lib.hid (Bw4.out.trans (b5.mono Bw4.out.size))
    have S5 := Lib.hid hs5.small
    have h101 := hs5.1
    have E5 := Lib.hid (laidE_stays HL.out B5.out)
    have KI := Lib.hid (implVmWrite a5 d5.length c5 d5 w5 P5.out S5.out (by omega) E5.out.1)
    unfold WriteVP at KI
    clear hc5 hs5 b5 KD
    go_wp2_with fail
    refine KI.out.mono ?_
    rintro e w6 ⟨rfl, b6⟩
    have P6 := Lib.hid (P5.out.kept (same_of_below b6))
    have B6 := Lib.hid (B5.out.trans (b6.mono B5.out.size))
    have E6 := Lib.hid (laidE_stays HL.out B6.out)
    have hwz := writeV_size d5
    clear b6 KI
    have KS : Hid (∀ W, Below w6.heap.size w6 W → Calls Tryz.prog 16 #[.slice a5 d5.length c5] W fun e w' => e = .returned (.string (writeV d5)) ∧ Below W.heap.size W w') := fun W hW => specVmWrite a5 d5.length c5 d5 W (P6.out.kept (same_of_below hW)) S5.out (by omega)
    have KO1 : Hid (∀ W, Below w6.heap.size w6 W → Calls Tryz.prog 17 #[.slice a5 d5.length c5] W fun e w' => e = .returned (.bool (decide (OkV d5))) ∧ Below W.heap.size W w') := fun W hW => implVmOk a5 d5.length c5 d5 W (P6.out.kept (same_of_below hW)) S5.out (by omega) (laid_stays E6.out.1 hW)
    have KO2 : Hid (∀ W, Below w6.heap.size w6 W → Calls Tryz.prog 18 #[.slice a5 d5.length c5] W fun e w' => e = .returned (.bool (decide (OkV d5))) ∧ Below W.heap.size W w') := fun W hW => specVmOk a5 d5.length c5 d5 W (P6.out.kept (same_of_below hW)) S5.out (by omega)
    by_cases hok : OkV d5
    · have KR := Lib.hid (implReadJ (writeV d5) w6 (by omega) E6.out (writeV_yes hok))
      rw [decide_eq_true hok] at KO1 KO2
      clear hok
      generalize writeV d5 = s5 at *
      have zs : (s5.toList == s5.toList) = true := by simp
      go_wp2_with fail
      refine KR.out.mono ?_
      rintro e w7 ⟨a7, c7, rfl, hC7, d7⟩
      have P7 := Lib.hid (codeO_pls hC7 rfl)
      have D7 := Lib.hid d7
      clear hC7 d7 KR
      go_wp2_with fail
      refine (KS.out w7 D7.out).mono ?_
      rintro e w8 ⟨rfl, b8⟩
      have D8 := Lib.hid (D7.out.trans (b8.mono D7.out.size))
      have F8 := Lib.hid b8
      clear b8
      go_wp2_with fail
      refine (KO1.out w8 D8.out).mono ?_
      rintro e w9 ⟨rfl, b9⟩
      have D9 := Lib.hid (D8.out.trans (b9.mono D8.out.size))
      have F9 := Lib.hid (F8.out.trans (b9.mono F8.out.size))
      clear b9
      go_wp2_with fail
      refine (KO2.out w9 D9.out).mono ?_
      rintro e w10 ⟨rfl, b10⟩
      have D10 := Lib.hid (D9.out.trans (b10.mono D9.out.size))
      have F10 := Lib.hid (F9.out.trans (b10.mono F9.out.size))
      clear b10
      go_wp2_with fail
      refine (KO2.out w10 D10.out).mono ?_
      rintro e w11 ⟨rfl, b11⟩
      have D11 := Lib.hid (D10.out.trans (b11.mono D10.out.size))
      have F11 := Lib.hid (F10.out.trans (b11.mono F10.out.size))
      clear b11
      have KC := Lib.hid (wsCodeC a7 a5 d5.length c7 c5 d5 w11 (P7.out.kept (same_of_below F11.out)) (P6.out.kept (same_of_below D11.out)) S5.out (by omega))
      go_wp2_with fail
      refine KC.out.mono ?_
      rintro e w12 ⟨rfl, b120⟩
      have b12 : Below w11.heap.size w11 w12 := drew_belowT b120
      clear b120
      have BF := Lib.hid (B6.out.trans ((D11.out.trans (b12.mono D11.out.size)).mono B6.out.size))
      clear b12
      go_wp2
      go_ret
      exact ⟨rfl, BF.out⟩
    · have KR := Lib.hid (implReadJ (writeV d5) w6 (by omega) E6.out (writeV_no hok))
      rw [decide_eq_false hok] at KO1 KO2
      clear hok
      generalize writeV d5 = s5 at *
      have zs : (s5.toList == s5.toList) = true := by simp
      go_wp2_with fail
      refine KR.out.mono ?_
      rintro e w7 ⟨a7, c7, rfl, hC7, d7⟩
      have D7 := Lib.hid d7
      clear hC7 d7 KR
      go_wp2_with fail
      refine (KS.out w7 D7.out).mono ?_
      rintro e w8 ⟨rfl, b8⟩
      have D8 := Lib.hid (D7.out.trans (b8.mono D7.out.size))
      clear b8
      go_wp2_with fail
      refine (KO1.out w8 D8.out).mono ?_
      rintro e w9 ⟨rfl, b9⟩
      have D9 := Lib.hid (D8.out.trans (b9.mono D8.out.size))
      clear b9
      go_wp2_with fail
      refine (KO2.out w9 D9.out).mono ?_
      rintro e w10 ⟨rfl, b10⟩
      have D10 := Lib.hid (D9.out.trans (b10.mono D9.out.size))
      clear b10
      go_wp2_with fail
      refine (KO2.out w10 D10.out).mono ?_
      rintro e w11 ⟨rfl, b11⟩
      have BF := Lib.hid (B6.out.trans ((D10.out.trans (b11.mono D10.out.size)).mono B6.out.size))
      clear b11
      go_wp2
      go_ret
      exact ⟨rfl, BF.out⟩
  · clear h1 hnil
    go_wp2_with fail
    refine KW.out.mono ?_
    rintro e w4 ⟨rfl, b40⟩
    have b4 : Below w3.heap.size w3 w4 := drew_belowT b40
    clear b40
    have Bw4 := Lib.hid (B3.out.trans (b4.mono B3.out.size))
    clear b4 KW
    have E4 := Lib.hid (laidE_stays HL.out Bw4.out)
    have KD := Lib.hid (drawVmWrite a1 len1 cap1 z1 w4 (isRow_belowV HW0.out Bw4.out))
    go_wp2_with fail
    refine KD.out.mono ?_
    rintro e w5 ⟨a5, n5, c5, d5, rfl, hn5, hc5, hs5, b5⟩
    subst hn5
    have P5 := Lib.hid (codeW_pls hc5 rfl)
    have B5 := Lib.hid (Bw4.out.trans (b5.mono Bw4.out.size))
    have S5 := Lib.hid hs5.small
    have h101 := hs5.1
    have E5 := Lib.hid (laidE_stays HL.out B5.out)
    have KI := Lib.hid (implVmWrite a5 d5.length c5 d5 w5 P5.out S5.out (by omega) E5.out.1)
    unfold WriteVP at KI
    clear hc5 hs5 b5 KD
    go_wp2_with fail
    refine KI.out.mono ?_
    rintro e w6 ⟨rfl, b6⟩
    have P6 := Lib.hid (P5.out.kept (same_of_below b6))
    have B6 := Lib.hid (B5.out.trans (b6.mono B5.out.size))
    have E6 := Lib.hid (laidE_stays HL.out B6.out)
    have hwz := writeV_size d5
    clear b6 KI
    have KS : Hid (∀ W, Below w6.heap.size w6 W → Calls Tryz.prog 16 #[.slice a5 d5.length c5] W fun e w' => e = .returned (.string (writeV d5)) ∧ Below W.heap.size W w') := fun W hW => specVmWrite a5 d5.length c5 d5 W (P6.out.kept (same_of_below hW)) S5.out (by omega)
    have KO1 : Hid (∀ W, Below w6.heap.size w6 W → Calls Tryz.prog 17 #[.slice a5 d5.length c5] W fun e w' => e = .returned (.bool (decide (OkV d5))) ∧ Below W.heap.size W w') := fun W hW => implVmOk a5 d5.length c5 d5 W (P6.out.kept (same_of_below hW)) S5.out (by omega) (laid_stays E6.out.1 hW)
    have KO2 : Hid (∀ W, Below w6.heap.size w6 W → Calls Tryz.prog 18 #[.slice a5 d5.length c5] W fun e w' => e = .returned (.bool (decide (OkV d5))) ∧ Below W.heap.size W w') := fun W hW => specVmOk a5 d5.length c5 d5 W (P6.out.kept (same_of_below hW)) S5.out (by omega)
    by_cases hok : OkV d5
    · have KR := Lib.hid (implReadJ (writeV d5) w6 (by omega) E6.out (writeV_yes hok))
      rw [decide_eq_true hok] at KO1 KO2
      clear hok
      generalize writeV d5 = s5 at *
      have zs : (s5.toList == s5.toList) = true := by simp
      go_wp2_with fail
      refine KR.out.mono ?_
      rintro e w7 ⟨a7, c7, rfl, hC7, d7⟩
      have P7 := Lib.hid (codeO_pls hC7 rfl)
      have D7 := Lib.hid d7
      clear hC7 d7 KR
      go_wp2_with fail
      refine (KS.out w7 D7.out).mono ?_
      rintro e w8 ⟨rfl, b8⟩
      have D8 := Lib.hid (D7.out.trans (b8.mono D7.out.size))
      have F8 := Lib.hid b8
      clear b8
      go_wp2_with fail
      refine (KO1.out w8 D8.out).mono ?_
      rintro e w9 ⟨rfl, b9⟩
      have D9 := Lib.hid (D8.out.trans (b9.mono D8.out.size))
      have F9 := Lib.hid (F8.out.trans (b9.mono F8.out.size))
      clear b9
      go_wp2_with fail
      refine (KO2.out w9 D9.out).mono ?_
      rintro e w10 ⟨rfl, b10⟩
      have D10 := Lib.hid (D9.out.trans (b10.mono D9.out.size))
      have F10 := Lib.hid (F9.out.trans (b10.mono F9.out.size))
      clear b10
      go_wp2_with fail
      refine (KO2.out w10 D10.out).mono ?_
      rintro e w11 ⟨rfl, b11⟩
      have D11 := Lib.hid (D10.out.trans (b11.mono D10.out.size))
      have F11 := Lib.hid (F10.out.trans (b11.mono F10.out.size))
      clear b11
      have KC := Lib.hid (wsCodeC a7 a5 d5.length c7 c5 d5 w11 (P7.out.kept (same_of_below F11.out)) (P6.out.kept (same_of_below D11.out)) S5.out (by omega))
      go_wp2_with fail
      refine KC.out.mono ?_
      rintro e w12 ⟨rfl, b120⟩
      have b12 : Below w11.heap.size w11 w12 := drew_belowT b120
      clear b120
      have BF := Lib.hid (B6.out.trans ((D11.out.trans (b12.mono D11.out.size)).mono B6.out.size))
      clear b12
      go_wp2
      go_ret
      exact ⟨rfl, BF.out⟩
    · have KR := Lib.hid (implReadJ (writeV d5) w6 (by omega) E6.out (writeV_no hok))
      rw [decide_eq_false hok] at KO1 KO2
      clear hok
      generalize writeV d5 = s5 at *
      have zs : (s5.toList == s5.toList) = true := by simp
      go_wp2_with fail
      refine KR.out.mono ?_
      rintro e w7 ⟨a7, c7, rfl, hC7, d7⟩
      have D7 := Lib.hid d7
      clear hC7 d7 KR
      go_wp2_with fail
      refine (KS.out w7 D7.out).mono ?_
      rintro e w8 ⟨rfl, b8⟩
      have D8 := Lib.hid (D7.out.trans (b8.mono D7.out.size))
      clear b8
      go_wp2_with fail
      refine (KO1.out w8 D8.out).mono ?_
      rintro e w9 ⟨rfl, b9⟩
      have D9 := Lib.hid (D8.out.trans (b9.mono D8.out.size))
      clear b9
      go_wp2_with fail
      refine (KO2.out w9 D9.out).mono ?_
      rintro e w10 ⟨rfl, b10⟩
      have D10 := Lib.hid (D9.out.trans (b10.mono D9.out.size))
      clear b10
      go_wp2_with fail
      refine (KO2.out w10 D10.out).mono ?_
      rintro e w11 ⟨rfl, b11⟩
      have BF := Lib.hid (B6.out.trans ((D10.out.trans (b11.mono D10.out.size)).mono B6.out.size))
      clear b11
      go_wp2
      go_ret
      exact ⟨rfl, BF.out⟩
end Go.Proofs.YtjhgmmcglonokaaGreatDoor
