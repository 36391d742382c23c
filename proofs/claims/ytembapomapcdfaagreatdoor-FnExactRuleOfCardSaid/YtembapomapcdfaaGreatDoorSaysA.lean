/-
  What the program's ops say: all of the table; the op that picks a kid.
-/
import Derived.Test.YtembapomapcdfaaGreatDoorSaysV
import Derived.Test.YtembapomapcdfaaGreatDoorEvalO
namespace Go.Proofs.YtembapomapcdfaaGreatDoor
open Go.RowKit
set_option linter.unusedVariables false
set_option linter.unusedSimpArgs false

theorem nil_says (o : Int) (h : 1 ≤ o ∧ o ≤ 10) (w : World) : (nilAhead 304 (opT o) (.agg #[]) "loop.example/stopover/impl.says").run Tryz.prog w = .ok (some false) w := by
  rcases ops10 h with rfl | rfl | rfl | rfl | rfl | rfl | rfl | rfl | rfl | rfl <;> kernel_rfl
theorem saysAll (o n : Int) (s : ByteArray) (ka : Option Addr) (kl kc : Nat) (ma : Option Addr) (mc : Nat) (ms : List (Int × Int)) (ns : List (ByteArray × Int)) (eb : Nat) (fu : Int) (na : Option Addr) (nl nc : Nat) (a : Option Addr) (m cp : Nat) (vs : List Int) (w : World)
    (h9 : o ≠ 9) (hin : 1 ≤ o ∧ o ≤ 10) (hH : HoldsN o n s ms) (hlk : (vs.length : Int) = kidsN o) (hv : ∀ x ∈ vs, okB x = true) (hi : IntsN All w a m vs) (hm : MarksN All w ma ms.length ms) (hm5 : ms.length ≤ 5) (hp : PairsN All w na nl ns) (hl : nl ≤ 1048576) (hev : Ev w eb na nl nc fu) :
    Calls Tryz.prog (saysF o) #[.agg #[], .pointer (some ⟨eb, 0, none⟩), .agg #[.int .i64 o, .int .i64 n, .string s, .slice ka kl kc, .slice ma ms.length mc], .slice a m cp] w (SaysP (doR ns o n s ms vs) w) := by
  have hml := hi.1
  rcases ops10 hin with rfl | rfl | rfl | rfl | rfl | rfl | rfl | rfl | rfl | rfl
  · exact saysNum _ n s ka kl kc ma ms.length mc _ w _
  · exact saysVar _ n s ka kl kc ma ms.length mc ns eb fu na nl nc _ w hp hl hev
  · have e : kidsN 3 = 2 := rfl
    have l2 : 1 < m := by omega
    obtain ⟨b, off, rfl, hb, hcs⟩ := hi.cells (by omega)
    exact saysAdd _ n s ka kl kc ma ms.length mc _ w b off m cp l2 (vs.getD 0 0) (vs.getD 1 0) hb (hcs 0 (by omega)) (hcs 1 l2) (getD_ok hv 0) (getD_ok hv 1)
  · have e : kidsN 4 = 2 := rfl
    have l2 : 1 < m := by omega
    obtain ⟨b, off, rfl, hb, hcs⟩ := hi.cells (by omega)
    exact saysSub _ n s ka kl kc ma ms.length mc _ w b off m cp l2 (vs.getD 0 0) (vs.getD 1 0) hb (hcs 0 (by omega)) (hcs 1 l2) (getD_ok hv 0) (getD_ok hv 1)
  · have e : kidsN 5 = 2 := rfl
    have l2 : 1 < m := by omega
    obtain ⟨b, off, rfl, hb, hcs⟩ := hi.cells (by omega)
    exact saysMul _ n s ka kl kc ma ms.length mc _ w b off m cp l2 (vs.getD 0 0) (vs.getD 1 0) hb (hcs 0 (by omega)) (hcs 1 l2) (getD_ok hv 0) (getD_ok hv 1)
  · have e : kidsN 6 = 3 := rfl
    have l3 : 2 < m := by omega
    obtain ⟨b, off, rfl, hb, hcs⟩ := hi.cells (by omega)
    exact saysPart _ n s ka kl kc ma ms.length mc _ w b off m cp l3 (vs.getD 0 0) (vs.getD 1 0) (vs.getD 2 0) hb (hcs 0 (by omega)) (hcs 1 (by omega)) (hcs 2 l3)
  · have e : kidsN 7 = 2 := rfl
    have l2 : 1 < m := by omega
    obtain ⟨b, off, rfl, hb, hcs⟩ := hi.cells (by omega)
    exact saysMin _ n s ka kl kc ma ms.length mc _ w b off m cp l2 (vs.getD 0 0) (vs.getD 1 0) hb (hcs 0 (by omega)) (hcs 1 l2) (getD_ok hv 0) (getD_ok hv 1)
  · have e : kidsN 8 = 2 := rfl
    have l2 : 1 < m := by omega
    obtain ⟨b, off, rfl, hb, hcs⟩ := hi.cells (by omega)
    exact saysMax _ n s ka kl kc ma ms.length mc _ w b off m cp l2 (vs.getD 0 0) (vs.getD 1 0) hb (hcs 0 (by omega)) (hcs 1 l2) (getD_ok hv 0) (getD_ok hv 1)
  · exact absurd rfl h9
  · have e : kidsN 10 = 1 := rfl
    have l1 : 0 < m := by omega
    obtain ⟨b, off, rfl, hb, hcs⟩ := hi.cells (by omega)
    have hmo : MOk (mF ms) (mP ms) ms.length := by unfold HoldsN at hH; rw [if_neg (by decide), if_neg (by decide), if_pos rfl] at hH; exact hH.2.2
    exact saysTiers _ n s ka kl kc ma ms.length mc _ w b off m cp l1 (vs.getD 0 0) ms hb (hcs 0 l1) (getD_ok hv 0) hmo hm5 rfl hm
set_option maxRecDepth 20000 in
set_option maxHeartbeats 8000000 in
theorem saysIf (ns : List (ByteArray × Int)) (n : Int) (s : ByteArray) (ks : List Tr) (ka : Option Addr) (kc : Nat) (ma : Option Addr) (ml mc : Nat) (vs : List Int) (a : Option Addr) (cp : Nat) (eb : Nat) (fr : Int) (na : Option Addr) (nl nc : Nat) (w : World)
    (ih : ∀ t ∈ ks, EvAt 29 ns t) (h4 : ks.length = 4) (hk : RowsT (fun b => b ≠ eb) w ka ks.length ks) (hoks : ∀ t ∈ ks, OkP t) (hi : IntsN (fun b => b ≠ eb) w a 2 vs) (hev : Ev w eb na nl nc fr) (hp : PairsN (fun b => b ≠ eb) w na nl ns) (hnl : nl ≤ 1048576) (f0 : 0 ≤ fr) (f1 : fr ≤ 1000) (sv : Said)
    (hsv : sv = (if vs.getD 0 0 < vs.getD 1 0 then (ks.map (evalT ns)).getD 2 noSaid else (ks.map (evalT ns)).getD 3 noSaid) fr) :
    Calls Tryz.prog 158 #[.agg #[], .pointer (some ⟨eb, 0, none⟩), .agg #[.int .i64 9, .int .i64 n, .string s, .slice ka ks.length kc, .slice ma ml mc], .slice a 2 cp] w
      fun e w' => e = .returned (.tuple #[.int .i64 sv.v, .int .i64 sv.c]) ∧ Hid (sv.c = 0 → Ev w' eb na nl nc sv.f) ∧ w.grownBy w' (some eb) := by
  have HSV0 := Lib.hid hsv
  have heb := hev.1
  obtain ⟨b, offk, rfl, hbn, hblk, hrow⟩ := hk.cells (by omega)
  have hA : Below w.heap.size w ((w.alloc (.cells #[] 143)).alloc (.cells #[.int .i64 9, .int .i64 n, .string s, .slice (some ⟨b, offk, none⟩) ks.length kc, .slice ma ml mc] 34)) := two_boxes w _ _
  have hsz : ((w.alloc (.cells #[] 143)).alloc (.cells #[.int .i64 9, .int .i64 n, .string s, .slice (some ⟨b, offk, none⟩) ks.length kc, .slice ma ml mc] 34)).heap.size = w.heap.size + 2 := by simp
  have hArg : ((w.alloc (.cells #[] 143)).alloc (.cells #[.int .i64 9, .int .i64 n, .string s, .slice (some ⟨b, offk, none⟩) ks.length kc, .slice ma ml mc] 34)).heap[w.heap.size + 1]? = some (.cells #[.int .i64 9, .int .i64 n, .string s, .slice (some ⟨b, offk, none⟩) ks.length kc, .slice ma ml mc] 34 (0, 0)) := by
    have := heap_alloc_new (w.alloc (.cells #[] 143)) (.cells #[.int .i64 9, .int .i64 n, .string s, .slice (some ⟨b, offk, none⟩) ks.length kc, .slice ma ml mc] 34)
    rw [World.size_alloc] at this
    exact this
  have HA := Lib.hid hA
  have HArg := Lib.hid hArg
  have HK := Lib.hid (hk.kept (same_of_below hA))
  have HI := Lib.hid (hi.kept (same_of_below hA))
  have HEV := Lib.hid (hev.kept hA)
  have HP := Lib.hid (hp.kept (same_of_below hA))
  have IH := Lib.hid ih
  have HOKS := Lib.hid hoks
  have H4 := Lib.hid h4
  clear hsv hA hArg hk hi hev hp ih hoks hrow hblk h4
  go_enter Tryz.func158, Tryz.ntmps158
  go_wp2_with fail
  generalize hW0 : ((w.alloc (.cells #[] 143)).alloc (.cells #[.int .i64 9, .int .i64 n, .string s, .slice (some ⟨b, offk, none⟩) ks.length kc, .slice ma ml mc] 34)) = W0 at *
  clear hW0
  obtain ⟨bb, off, rfl, hbl, hcs⟩ := HI.out.cells (by omega)
  have x0 := hcs 0 (by omega)
  rw [Nat.add_zero] at x0
  have x1 := hcs 1 (by omega)
  have ca3 : W0.cell? ⟨w.heap.size + 1, 3, none⟩ = some (Value.slice (some ⟨b, offk, none⟩) ks.length kc) := by rw [Lib.cell_of_heap HArg.out]; rfl
  clear hcs
  obtain ⟨k0, k1, k2, k3, rfl⟩ := four H4.out
  obtain ⟨b', offk', hbe, -, hblk, hrow⟩ := HK.out.cells (by simp)
  obtain ⟨rfl, rfl⟩ : b = b' ∧ offk = offk' := by simpa using hbe
  obtain ⟨g2, c2, t2⟩ := hrow 2 (by simp)
  obtain ⟨g3, c3, t3⟩ := hrow 3 (by simp)
  have hgd2 : ([k0, k1, k2, k3].map (evalT ns)).getD 2 noSaid = evalT ns k2 := rfl
  have hgd3 : ([k0, k1, k2, k3].map (evalT ns)).getD 3 noSaid = evalT ns k3 := rfl
  rw [hgd2, hgd3] at HSV0
  have T2 := Lib.hid t2
  have T3 := Lib.hid t3
  have FV : Hid (0 ≤ fr ∧ fr ≤ 1000) := ⟨f0, f1⟩
  have J2 : Hid (∀ m, Calls Tryz.prog 29 #[.pointer (some ⟨eb, 0, none⟩), g2.val] (W0.drewN m) (EvP ns k2 fr eb na nl nc (W0.drewN m))) := fun m => IH.out k2 (by simp) g2 eb _ na nl nc _ (T2.out.kept (same_of_below (belowN (Below.refl _ _) m))) (HOKS.out k2 (by simp)) (HEV.out.kept (belowN (Below.refl _ _) m)) (HP.out.kept (same_of_below (belowN (Below.refl _ _) m))) hnl FV.out.1 FV.out.2
  have J3 : Hid (∀ m, Calls Tryz.prog 29 #[.pointer (some ⟨eb, 0, none⟩), g3.val] (W0.drewN m) (EvP ns k3 fr eb na nl nc (W0.drewN m))) := fun m => IH.out k3 (by simp) g3 eb _ na nl nc _ (T3.out.kept (same_of_below (belowN (Below.refl _ _) m))) (HOKS.out k3 (by simp)) (HEV.out.kept (belowN (Below.refl _ _) m)) (HP.out.kept (same_of_below (belowN (Below.refl _ _) m))) hnl FV.out.1 FV.out.2
  generalize vs.getD 0 0 = v0 at *
  generalize vs.getD 1 0 = v1 at *
  have hl4 : ([k0, k1, k2, k3] : List Tr).length = 4 := rfl
  clear hrow t2 t3 hbe f0 f1 hgd2 hgd3
  rcases Int.lt_or_le v0 v1 with c | c
  · have z : decide (v0 < v1) = true := decide_eq_true c
    have HSV : Hid (sv = evalT ns k2 fr) := by show _ = _; rw [HSV0.out, if_pos c]
    obtain ⟨y0, y1, y2, y3, y4⟩ : CellsF W0 b (offk + 10) g2 := c2
    clear c c3
    unfold EvP at J2
    generalize evalT ns k2 fr = s2 at *
    obtain ⟨vv, vc, vf⟩ := s2
    dsimp only at *
    go_quiet (fail)
    go_wp2_with fail
    refine (J2.out _).mono ?_
    rintro e w3 ⟨rfl, hev3, hg3⟩
    go_wp2
    go_ret2
    refine ⟨?_, fun h => ?_, grown_trans (grown_any HA.out) (grown_trans (grown_any (belowN (Below.refl _ _) nq)) hg3)⟩
    · show Ending.returned (.tuple #[.int .i64 vv, .int .i64 vc]) = _
      rw [HSV.out]
    · rw [HSV.out] at h ⊢; exact hev3.out h
  · have z : decide (v0 < v1) = false := decide_eq_false (by omega)
    have HSV : Hid (sv = evalT ns k3 fr) := by show _ = _; rw [HSV0.out, if_neg (by omega)]
    obtain ⟨y0, y1, y2, y3, y4⟩ : CellsF W0 b (offk + 15) g3 := c3
    clear c c2
    unfold EvP at J3
    generalize evalT ns k3 fr = s2 at *
    obtain ⟨vv, vc, vf⟩ := s2
    dsimp only at *
    go_quiet (fail)
    go_wp2_with fail
    refine (J3.out _).mono ?_
    rintro e w3 ⟨rfl, hev3, hg3⟩
    go_wp2
    go_ret2
    refine ⟨?_, fun h => ?_, grown_trans (grown_any HA.out) (grown_trans (grown_any (belowN (Below.refl _ _) nq)) hg3)⟩
    · show Ending.returned (.tuple #[.int .i64 vv, .int .i64 vc]) = _
      rw [HSV.out]
    · rw [HSV.out] at h ⊢; exact hev3.out h
end Go.Proofs.YtembapomapcdfaaGreatDoor
