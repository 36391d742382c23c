/-
  The body of the program's TripRead: what it comes to, or that it panics.
-/
import Derived.Test.YtlfmhhdlandcjaaDoorTripReadI
import Derived.Test.YtlfmhhdlandcjaaDoorFree
import Derived.Defers
import Derived.Recover
namespace Go.Proofs.YtlfmhhdlandcjaaDoor
open Go.RowKit
set_option linter.unusedVariables false
set_option linter.unusedSimpArgs false

theorem DepsT.get {S : Nat → World → Value → Prop} {f : Nat → Value} {w : World} : ∀ {l : List Nat}, Deps S f w l → ∀ {n : Nat}, n ∈ l → S n w (f n)
  | [], _, _, h => by cases h
  | m :: l, hd, n, h => by
    rcases List.mem_cons.1 h with e | e
    · subst e; exact hd.1
    · exact DepsT.get hd.2 e
theorem cellsS_get : ∀ (l : List ByteArray) (i : Nat), i < l.length → (cellsS l)[i]? = some (.string (l.getD i ByteArray.empty))
  | [], i, h => by simp at h
  | x :: l, 0, h => rfl
  | x :: l, i + 1, h => by
    have e : cellsS (x :: l) = [Value.string x] ++ cellsS l := rfl
    rw [e, List.getElem?_append_right (by simp)]
    have := cellsS_get l i (by simpa using h)
    simpa using this
theorem strs_own {w : World} {B g cap : Nat} {l : List ByteArray} (h : w.ownsRow B 9 1 (.slice (some ⟨g, 0, none⟩) l.length cap) l.length (cellsS l)) : Strs w (some ⟨g, 0, none⟩) l.length l := by
  refine ⟨rfl, Or.inr ⟨g, 0, rfl, (h.lt g rfl).2, fun i hi => ?_⟩⟩
  rw [Nat.zero_add, h.cellAt i (by omega)]
  exact cellsS_get l i hi
theorem own_cap {w : World} {base g cap n size : Nat} {e : TypeId} {xs : List Value} (h : w.ownsRow base e size (.slice (some ⟨g, 0, none⟩) n cap) n xs) : n ≤ cap := by
  rcases h.2 with ⟨h0, _⟩ | ⟨g', cap', cur, hv, _, _, h1, _⟩
  · cases h0
  · cases hv; exact h1
open Classical in
noncomputable def tripO (ss : List ByteArray) (f : ByteArray) (n : Int) : ByteArray := if FormOk ss f n then ⟨(tripT ss f n).toArray⟩ else ⟨#[]⟩
theorem tripO_of {ss : List ByteArray} {f : ByteArray} {n : Int} {o : ByteArray} (h : TripIs ss f n o) : o = tripO ss f n := by
  unfold tripO
  rcases h with ⟨h, e⟩ | ⟨h, e⟩
  · rw [if_pos h, e]
  · rw [if_neg h, e]
theorem body_no {s : ByteArray} {ss : List ByteArray} {f : ByteArray} {n : Int} {r : List UInt8} (hp : rdTrip (restB s 0) = some ((ss, f, n), r)) (hne : (tripO ss f n).toList ≠ s.toList) : ¬ IsTripT s := by
  rintro ⟨ss', f', n', hg, e⟩
  have h := rdTrip_text hg
  rw [e] at h
  have e0 : restB s 0 = s.data.toList := rfl
  rw [e0, h] at hp
  injection hp with hp
  injection hp with hp _
  injection hp with a1 a2
  injection a2 with a2 a3
  subst a1 a2 a3
  apply hne
  unfold tripO
  rw [if_pos hg, Lib.toList_data, Lib.toList_data, e]
theorem body_none {s : ByteArray} (hp : rdTrip (restB s 0) = none) : ¬ IsTripT s := by
  rintro ⟨ss', f', n', hg, e⟩
  have h := rdTrip_text hg
  rw [e] at h
  have e0 : restB s 0 = s.data.toList := rfl
  rw [e0, h] at hp
  cases hp
theorem body_yes {s : ByteArray} {ss : List ByteArray} {f : ByteArray} {n : Int} {r : List UInt8} (hp : rdTrip (restB s 0) = some ((ss, f, n), r)) (he : (tripO ss f n).toList = s.toList) : FormOk ss f n ∧ tripT ss f n = s.data.toList := by
  rw [Lib.toList_data, Lib.toList_data] at he
  unfold tripO at he
  split at he
  · rename_i q; exact ⟨q, by simpa using he⟩
  · have hs : s.data.toList = [] := by rw [← he]
    have e0 : restB s 0 = s.data.toList := rfl
    rw [e0, hs] at hp
    simp [rdTrip, rdList, rdWord, rdNext, rdTail, offOf, runOf] at hp
def STr (a : Option Addr) (k cap : Nat) (f : ByteArray) (n : Int) (o s : ByteArray) (i : Nat) (W : World) (v : Value) : Prop := match i with
  | 0 => v = .agg #[.slice a k cap, .string f, .int .i64 n]
  | 1 => v = .string o
  | 2 => v = .string s
  | 3 => v = .bool (!(o.toList == s.toList))
  | _ => True
def BodyPostT (s : ByteArray) (w : World) (e : Ending) (w' : World) : Prop :=
  Below w.heap.size w w' ∧ ((Hid (¬ IsTripT s) ∧ e = Fell) ∨ ∃ (ss : List ByteArray) (f : ByteArray) (n : Int) (g cap : Nat), Hid (FormOk ss f n ∧ tripT ss f n = s.data.toList) ∧ e = .returned (.agg #[.slice (some ⟨g, 0, none⟩) ss.length cap, .string f, .int .i64 n]) ∧ w'.ownsRow w.heap.size 9 1 (.slice (some ⟨g, 0, none⟩) ss.length cap) ss.length (cellsS ss))
set_option maxRecDepth 100000 in
set_option maxHeartbeats 8000000 in
theorem bodyC (tb : Nat) (s : ByteArray) (w : World) (hs : s.size ≤ 1048576) (hL : LaidE w) (hc : w.cell? ⟨tb, 0, none⟩ = some (.string s)) (htb : tb < w.heap.size) :
    Calls Tryd.prog 34 #[.pointer (some ⟨tb, 0, none⟩)] w (BodyPostT s w) := by
  have HL := Lib.hid hL
  have HC := Lib.hid hc
  have hA1 : Below w.heap.size w (w.alloc (.cells #[.slice none 0 0, .string ⟨#[]⟩, .int .i64 0] 33)) := (Below.refl _ _).alloc (Nat.le_refl _) _
  have hA : Below w.heap.size w ((w.alloc (.cells #[.slice none 0 0, .string ⟨#[]⟩, .int .i64 0] 33)).alloc (.cells #[.string s, .int .i64 0] 64)) := hA1.alloc hA1.size _
  have hX0 : ((w.alloc (.cells #[.slice none 0 0, .string ⟨#[]⟩, .int .i64 0] 33)).alloc (.cells #[.string s, .int .i64 0] 64)).heap[w.heap.size]? = some (.cells #[.slice none 0 0, .string ⟨#[]⟩, .int .i64 0] 33 (0, 0)) := by
    rw [Below.heap_alloc _ _ _ (by simp)]; exact heap_alloc_new w _
  have hX1 : ((w.alloc (.cells #[.slice none 0 0, .string ⟨#[]⟩, .int .i64 0] 33)).alloc (.cells #[.string s, .int .i64 0] 64)).heap[w.heap.size + 1]? = some (.cells #[.string s, .int .i64 0] 64 (0, 0)) := by
    have := heap_alloc_new (w.alloc (.cells #[.slice none 0 0, .string ⟨#[]⟩, .int .i64 0] 33)) (.cells #[.string s, .int .i64 0] 64)
    simpa using this
  have hR : RdS ((w.alloc (.cells #[.slice none 0 0, .string ⟨#[]⟩, .int .i64 0] 33)).alloc (.cells #[.string s, .int .i64 0] 64)) (w.heap.size + 1) s 0 := by
    refine ⟨?_, ?_, frozen_of_row _ _ _ _ _ hX1, lt_heap hX1, Nat.zero_le _⟩ <;> (rw [Lib.cell_of_heap hX1]; rfl)
  have K := Lib.hid (tripC w (w.heap.size + 1) s 0 _ hR hs HL.out hA (by omega))
  have HA := Lib.hid hA
  have HY0 := Lib.hid ((hA.cell (p := ⟨tb, 0, none⟩) htb).trans hc)
  have HX0 := Lib.hid hX0
  have hsz : ((w.alloc (.cells #[.slice none 0 0, .string ⟨#[]⟩, .int .i64 0] 33)).alloc (.cells #[.string s, .int .i64 0] 64)).heap.size = w.heap.size + 2 := by simp
  have y0 : (w.alloc (.cells #[.slice none 0 0, .string ⟨#[]⟩, .int .i64 0] 33)).cell? ⟨tb, 0, none⟩ = some (.string s) := (hA1.cell (p := ⟨tb, 0, none⟩) htb).trans hc
  clear hA hA1 hX0 hX1 hR hL hc
  go_enter Tryd.func34, Tryd.ntmps34
  go_wp2_with fail
  refine K.out.mono ?_
  generalize (w.alloc (.cells #[.slice none 0 0, .string ⟨#[]⟩, .int .i64 0] 33)).alloc (.cells #[.string s, .int .i64 0] 64) = wB at *
  rintro e w1 ⟨hg1, ⟨hn, he⟩ | ⟨l, f, n, q1, g, cap, hp, hl1, hl2, hlx, hfz, rfl, hown, hr1⟩⟩
  · unfold Fell at he
    subst he
    have HB1 := Lib.hid (own_below HA.out (show w.heap.size ≤ w.heap.size + 1 by omega) hg1)
    have HN := Lib.hid (body_none hn.out)
    clear hg1 hn K
    go_wp2
    exact ⟨rfl, HB1.out, Or.inl ⟨HN, rfl⟩⟩
  have hb1 := own_below HA.out (show w.heap.size ≤ w.heap.size + 1 by omega) hg1
  have X1 := (grown_block hg1 (by omega) (by omega : w.heap.size ≠ w.heap.size + 1)).trans HX0.out
  have hA2 : Below w1.heap.size w1 (w1.alloc (.cells #[.slice none 0 0, .string ⟨#[]⟩, .int .i64 0] 33)) := (Below.refl _ _).alloc (Nat.le_refl _) _
  have hA3 : Below w1.heap.size w1 ((w1.alloc (.cells #[.slice none 0 0, .string ⟨#[]⟩, .int .i64 0] 33)).setRow w1.heap.size #[.slice (some ⟨g, 0, none⟩) l.length cap, .string f, .int .i64 n]) := own_below hA2 (Nat.le_refl _) (grown_setRow _ _ _)
  have hz1 : w.heap.size < w1.heap.size := lt_heap X1
  have htb1 : tb < w1.heap.size := by omega
  have htb9 : tb < wB.heap.size := by omega
  have y1 : w1.cell? ⟨tb, 0, none⟩ = some (.string s) := hg1.cell HY0.out (by simp; omega)
  have XN := heap_alloc_new w1 (.cells #[.slice none 0 0, .string ⟨#[]⟩, .int .i64 0] 33)
  have XR := setRow_heap _ w1.heap.size _ #[.slice (some ⟨g, 0, none⟩) l.length cap, .string f, .int .i64 n] _ _ XN
  have Y3 := Lib.hid (tripCells XR)
  have HXR := Lib.hid XR
  have HXN := Lib.hid XN
  have HX3 := Lib.hid ((hA3.block _ hz1).trans X1)
  have HY1 := Lib.hid ((hA3.cell (p := ⟨tb, 0, none⟩) htb1).trans y1)
  have HO1 := Lib.hid (own_mono hown (show w.heap.size ≤ wB.heap.size by omega))
  have hlc : l.length ≤ cap := own_cap hown
  have hgg : w.heap.size < g := by have := (hown.lt g rfl).1; omega
  have HS := Lib.hid ((strs_own hown).kept hA3)
  have HO3 := Lib.hid (HO1.out.kept (⟨hA3.os, hA3.tape, hA3.output, hA3.size, fun i hi _ => hA3.block i hi⟩ : w1.grownBy _ none) (Or.inr (by simp [Value.ownBlock])))
  have HB3 := Lib.hid (hb1.trans (hA3.mono (by omega)))
  have HP := Lib.hid hp.out
  have HXs := Lib.hid hlx
  have HL3 := Lib.hid (laid_stays HL.out.1 HB3.out)
  clear hg1 hb1 X1 hA2 hA3 y1 XN XR hown hlx hp K HX0 HA y0 HY0 hr1 HO1
  go_wp2_with (first
    | (refine wpList_store_row rfl 33 _ _ rfl w1.heap.size #[.slice (some ⟨g, 0, none⟩) l.length cap, .string f, .int .i64 n] rfl rfl 33 #[.slice none 0 0, .string ⟨#[]⟩, .int .i64 0] HXN.out tripSize rfl (trip_one' _ _ _ rfl rfl rfl) ?_)
    | fail)
  (try simp only [Exit.inBlock, Exit.then])
  generalize (w1.alloc (.cells #[.slice none 0 0, .string ⟨#[]⟩, .int .i64 0] 33)).setRow w1.heap.size #[.slice (some ⟨g, 0, none⟩) l.length cap, .string f, .int .i64 n] = w3 at *
  have l3 := lt_heap HXR.out
  have l0 := lt_heap HX3.out
  have hz3 : w.heap.size ≤ w3.heap.size := HB3.out.size
  have htb3 : tb < w3.heap.size := by omega
  generalize w1.heap.size = g3 at *
  clear HXN hz1 htb1 htb9 hsz
  refine wp_region_free' (by kernel_rfl) (fun _ W => Below w3.heap.size w3 W) (fun _ _ => True) (STr (some ⟨g, 0, none⟩) l.length cap f n (tripO l f n) s) (by kernel_rfl) (fun i k v W W' h _ _ => h) ((Below.refl _ _).drew) ?_
  apply Exists.intro
  apply And.intro
  · intro f
    simp only [over, List.set]
    exact rfl
  refine ⟨?hops, ?hend⟩
  case hops =>
    refine EachOp.cons ?_ (EachOp.cons ?_ (EachOp.cons ?_ (EachOp.cons ?_ EachOp.nil)))
    · intro ff kk ww hkk hI hd QQ' hQ
      try dsimp only
      obtain ⟨z0, z1, z2⟩ := tripCells ((hI.block _ l3).trans HXR.out)
      go_big_wp2_with fail
      refine hQ _ _ _ ?_ hI trivial rfl
      first | rfl | (simp [upd]; done)
    · intro ff kk ww hkk hI hd QQ' hQ
      try dsimp only
      have c0' : ff 0 = _ := DepsT.get hd (n := 0) (by decide)
      go_big_wp2_with fail
      refine (writeI (some ⟨g, 0, none⟩) cap l f n ww (HS.out.kept hI) hlc (by omega) ?_ (by omega) (laid_stays HL3.out hI)).mono ?_
      · intro i hi
        have := HXs.out (legAt l i) (by rw [legAt, List.getD_eq_getElem?_getD, List.getElem?_eq_getElem hi]; exact List.getElem_mem hi)
        omega
      rintro e wa ⟨o, rfl, ho, da⟩
      obtain rfl := tripO_of ho.out
      go_big_wp2_with fail
      refine hQ _ _ wa ?_ (hI.trans (da.mono hI.size)) trivial rfl
      first | rfl | (simp [upd, c0']; done)
    · intro ff kk ww hkk hI hd QQ' hQ
      try dsimp only
      have y2 : ww.cell? ⟨tb, 0, none⟩ = some (.string s) := (hI.cell (p := ⟨tb, 0, none⟩) htb3).trans HY1.out
      go_big_wp2_with fail
      refine hQ _ _ _ ?_ hI trivial rfl
      first | rfl | (simp [upd]; done)
    · intro ff kk ww hkk hI hd QQ' hQ
      try dsimp only
      have c1' : ff 1 = _ := DepsT.get hd (n := 1) (by decide)
      have c2' : ff 2 = _ := DepsT.get hd (n := 2) (by decide)
      go_big_wp2_with fail
      refine hQ _ _ _ ?_ hI trivial rfl
      first | rfl | (simp [upd, c1', c2']; done)
  case hend =>
  intro ff kk w4 d4 hS
  try dsimp only
  have cz : ff 3 = _ := hS 3 (by decide)
  rw [cz]
  have HB4 := Lib.hid (HB3.out.trans (d4.mono hz3))
  have HO4 := Lib.hid (HO3.out.kept (⟨d4.os, d4.tape, d4.output, d4.size, fun i hi _ => d4.block i hi⟩ : w3.grownBy _ none) (Or.inr (by simp [Value.ownBlock])))
  have HX4 := Lib.hid ((d4.block _ l0).trans HX3.out)
  have HX5 := Lib.hid ((d4.block _ l3).trans HXR.out)
  clear cz hS d4 HS HX3 HXR HY1
  generalize hbz : (!((tripO l f n).toList == s.toList)) = bz
  cases bz with
  | true =>
    have hq : (tripO l f n).toList ≠ s.toList := by intro e; rw [e] at hbz; simp at hbz
    have HY2 := Lib.hid (body_no HP.out hq)
    clear hq hbz
    go_wp2
    exact ⟨rfl, HB4.out, Or.inl ⟨HY2, rfl⟩⟩
  | false =>
    have hq : (tripO l f n).toList = s.toList := by simpa using hbz
    have HY2 := Lib.hid (body_yes HP.out hq)
    clear hq hbz
    obtain ⟨z0, z1, z2⟩ := tripCells HX5.out
    go_wp2_with (first
      | (refine wpList_store_row rfl 33 _ _ rfl w.heap.size #[.slice (some ⟨g, 0, none⟩) l.length cap, .string f, .int .i64 n] rfl rfl 33 #[.slice none 0 0, .string ⟨#[]⟩, .int .i64 0] HX4.out tripSize rfl (trip_one' _ _ _ rfl rfl rfl) ?_)
      | fail)
    have hB6 : w4.grownBy (w4.setRow w.heap.size #[.slice (some ⟨g, 0, none⟩) l.length cap, .string f, .int .i64 n]) (some w.heap.size) := grown_setRow _ _ _
    have y6 := tripCells (setRow_heap _ w.heap.size _ #[.slice (some ⟨g, 0, none⟩) l.length cap, .string f, .int .i64 n] _ _ HX4.out)
    have HB6 := Lib.hid (own_below HB4.out (Nat.le_refl _) hB6)
    have HO6 := HO4.out.kept hB6 (Or.inr (by simp [Value.ownBlock]; omega))
    generalize w4.setRow w.heap.size #[.slice (some ⟨g, 0, none⟩) l.length cap, .string f, .int .i64 n] = w6 at *
    obtain ⟨y0, y1, y2⟩ := y6
    (try simp only [Exit.inBlock, Exit.then])
    refine bodyPost_ret (v := .agg #[.slice (some ⟨g, 0, none⟩) l.length cap, .string f, .int .i64 n]) ?_ rfl ⟨HB6.out, Or.inr ⟨l, f, n, g, cap, HY2, rfl, HO6⟩⟩
    rw [results_cell1 rfl]
    go_simp
end Go.Proofs.YtlfmhhdlandcjaaDoor
