/-
  The program's reader of programs: all places of a text, and what VmRead's reader returns or panics with.
-/
import Derived.Test.YtjhgmmcglonokaaGreatDoorVmReadI
import Derived.Test.YtjhgmmcglonokaaGreatDoorJ32
import Derived.Defers
import Derived.Recover
namespace Go.Proofs.YtjhgmmcglonokaaGreatDoor
open Go.RowKit
set_option linter.unusedVariables false
set_option linter.unusedSimpArgs false

theorem RdS.grownR {w w' : World} {b : Nat} {row : Option Nat} {s : ByteArray} {p : Nat} (h : RdS w b s p) (k : w.grownBy w' row) (hn : row ≠ some b) : RdS w' b s p := by
  have e := k.block b h.lt (fun e => hn e.symm)
  exact ⟨(World.cell?_of_block (a := ⟨b, 0, none⟩) e).trans h.text, (World.cell?_of_block (a := ⟨b, 1, none⟩) e).trans h.pos, (World.frozen?_of_block (a := ⟨b, 1, none⟩) e).trans h.fz, Nat.lt_of_lt_of_le h.lt k.size, h.le⟩
theorem grown_ownR {w a c : World} {b : Nat} {row : Option Nat} (h : w.grownBy a (some b)) (k : a.grownBy c row) (hg : ∀ g, row = some g → w.heap.size ≤ g) : w.grownBy c (some b) :=
  ⟨k.os.trans h.os, k.tape.trans h.tape, k.output.trans h.output, Nat.le_trans h.size k.size, fun i hi hn => (k.block i (Nat.lt_of_lt_of_le hi h.size) (fun e => by have := hg i e.symm; omega)).trans (h.block i hi hn)⟩
theorem owns_keptB {w w' : World} {B b : Nat} {e : TypeId} {z : Nat} {v : Value} {n : Nat} {xs : List Value} (h : w.ownsRow B e z v n xs) (hg : w.grownBy w' (some b)) (hb : b < B) : w'.ownsRow B e z v n xs := by
  refine h.kept hg ?_
  cases ho : v.ownBlock with
  | none => exact Or.inl rfl
  | some g =>
    refine Or.inr fun e => ?_
    have := (owns_typed h ho).1
    cases e
    omega
theorem CodeF.keptB {B b : Nat} {w w' : World} {v : Value} {ds : List Pl} {fs : List FI} (h : CodeF B w v ds fs) (hg : w.grownBy w' (some b)) (hb : b < B) : CodeF B w' v ds fs :=
  ⟨owns_keptB h.1 hg hb, allO_imp (fun _ _ k => ⟨k.1, k.2.1, k.2.2.1, k.2.2.2.1, owns_keptB k.2.2.2.2 hg hb⟩) h.2.1, h.2.2⟩
theorem rdCode_end {n : Nat} {acc : List Pl} : rdCode n [] acc = some acc := by
  cases n with
  | zero => rfl
  | succ n => simp [rdCode]
theorem rdCode_fell {n : Nat} {l : List UInt8} {acc : List Pl} (hne : l ≠ []) (hl : l.length ≤ n) (h : rdPl l = none) : rdCode n l acc = none := by
  cases n with
  | zero => exact absurd (List.eq_nil_of_length_eq_zero (by omega)) hne
  | succ n => rw [rdCode, if_neg hne, h]; rfl
theorem rdCode_more {n : Nat} {l r : List UInt8} {d : Pl} {acc : List Pl} (hne : l ≠ []) (hl : l.length ≤ n) (h : rdPl l = some (d, r)) : ∃ m, n = m + 1 ∧ rdCode n l acc = rdCode m r (acc ++ [d]) := by
  cases n with
  | zero => exact absurd (List.eq_nil_of_length_eq_zero (by omega)) hne
  | succ n => exact ⟨n, rfl, by rw [rdCode, if_neg hne, h, Option.bind_some]⟩
def ProgRP (b : Nat) (s : ByteArray) (w : World) (e : Ending) (w' : World) : Prop :=
  w.grownBy w' (some b) ∧ ((Hid (rdProg (restB s 0) = none) ∧ e = Fell) ∨ ∃ (ds : List Pl) (a : Option Addr) (c : Nat), Hid (ds.length ≤ s.size ∧ ∀ d ∈ ds, SmallP d) ∧ Hid (rdProg (restB s 0) = some ds) ∧ e = .returned (.slice a ds.length c) ∧ CodeO w.heap.size w' (.slice a ds.length c) ds)
set_option maxRecDepth 100000 in
set_option maxHeartbeats 16000000 in
theorem progC (w0 : World) (b : Nat) (s : ByteArray) (w : World) (h : RdS w b s 0) (hs : s.size ≤ 1600) (hL : LaidE w0) (hB : Below w0.heap.size w0 w) (hb : w0.heap.size ≤ b) :
    Calls Tryz.prog 35 #[.pointer (some ⟨b, 0, none⟩)] w (ProgRP b s w) := by
  obtain ⟨i0, hi, hz0, hz1, hz2⟩ := info_parts infoIns
  have hlt := h.lt
  have M : Hid (∀ (q : Nat) (W : World), RdS W b s q → Below w0.heap.size w0 W → Calls Tryz.prog 71 #[.pointer (some ⟨b, 0, none⟩)] W (PlRP b s q W)) := fun q W h1 h2 => placeC w0 b s q W h1 (by omega) hL h2 hb
  have HB := Lib.hid hB
  have HR0 := Lib.hid h
  clear h hL hB
  go_enter Tryz.func35, Tryz.ntmps35
  go_wp2_with fail
  go_loopw [3] (fun vl wr => ∃ (ds : List Pl) (fs : List FI) (q m : Nat) (a : Option Addr) (c : Nat), vl = .slice a ds.length c ∧ CodeF w.heap.size wr (.slice a ds.length c) ds fs ∧ RdS wr b s q ∧ w.grownBy wr (some b) ∧ Hid (∀ d ∈ ds, SmallP d) ∧ ds.length ≤ q ∧ Hid (rdProg (restB s 0) = rdCode m (restB s q) ds) ∧ (restB s q).length ≤ m) (fun vl _ => s.size + 1 - lenV vl)
  case atStart => exact ⟨[], [], 0, _, none, 0, rfl, ⟨World.ownsRow_nil _ _ _ _, trivial, List.Pairwise.nil⟩, HR0.out, ⟨rfl, rfl, rfl, Nat.le_refl _, fun _ _ _ => rfl⟩, Lib.hid (by simp), Nat.le_refl _, Lib.hid rfl, Nat.le_refl _⟩
  case round =>
    obtain ⟨ds, fs, q, m, a, c, rfl, hC, hr, hg, hsm, hdq, hP, hm⟩ := hrel
    have hqs := hr.le
    have y0 := hr.text
    have y1 := hr.pos
    have HC := Lib.hid hC
    have HR := Lib.hid hr
    have HG := Lib.hid hg
    clear hC hr hg HR0
    rcases Nat.lt_or_ge q s.size with hlt2 | hge
    · have i1 : (q : Int) < (s.size : Int) := by omega
      have z1 : decide ((q : Int) < (s.size : Int)) = true := decide_eq_true i1
      have hne : Hid (restB s q ≠ []) := Lib.hid (by
        intro e
        have := congrArg List.length e
        rw [restB_len] at this
        simp at this
        omega)
      go_wp2_with fail
      go_quiet (fail)
      clear y0 y1
      have hGd : w.grownBy (wr.drewN nq) (some b) := grown_trans HG.out (grownN wr nq _)
      have HCd := Lib.hid (HC.out.below (belowN (Below.refl _ _) nq))
      have HM := Lib.hid (M.out q (wr.drewN nq) HR.out.drewN (own_below HB.out hb hGd))
      have HGd := Lib.hid hGd
      have hzd : w.heap.size ≤ (wr.drewN nq).heap.size := hGd.size
      clear hGd HC HG HR
      generalize wr.drewN nq = wd at *
      go_wp2_with fail
      refine HM.out.mono ?_
      rintro e w2 ⟨hg2, ⟨hn2, he⟩ | ⟨d, f, q2, hq2, hnm, hml, hp2, rfl, hpl, hr2⟩⟩
      · unfold Fell at he
        subst he
        have HG2 := Lib.hid (grown_trans HGd.out hg2)
        have HN2 := Lib.hid hn2
        have HH := Lib.hid hm
        clear hg2 hn2 hm
        go_wp2
        refine ⟨rfl, HG2.out, Or.inl ⟨Lib.hid ?_, rfl⟩⟩
        rw [hP.out]
        exact rdCode_fell hne.out HH.out HN2.out.out
      · obtain ⟨m', hm1, hm2⟩ := rdCode_more (acc := ds) hne.out hm hp2.out
        have hq2s := hr2.le
        have hm3 : (restB s q2).length ≤ m' := by rw [restB_len] at hm ⊢; omega
        have HP4 : Hid (rdProg (restB s 0) = rdCode m' (restB s q2) (ds ++ [d])) := Lib.hid (by rw [hP.out, hm2])
        have hAl : Below w2.heap.size w2 (w2.alloc (.cells #[.int .i64 f.op, .int .i64 f.num, .string f.name, .slice f.ma f.ml f.mc] 48)) := (Below.refl _ _).alloc (Nat.le_refl _) _
        have HC4 := Lib.hid ((HCd.out.keptB hg2 hlt).below hAl)
        have hg24 := grown_trans HGd.out hg2
        have HG4 := Lib.hid (grown_trans hg24 (grown_new w2 (.cells #[.int .i64 f.op, .int .i64 f.num, .string f.name, .slice f.ma f.ml f.mc] 48) (some b)))
        have HR4 := Lib.hid (hr2.kept hAl)
        have HPL4 := Lib.hid (hpl.below hAl)
        have HX4 : Hid ((w2.alloc (.cells #[.int .i64 f.op, .int .i64 f.num, .string f.name, .slice f.ma f.ml f.mc] 48)).heap[w2.heap.size]? = some (.cells #[.int .i64 f.op, .int .i64 f.num, .string f.name, .slice f.ma f.ml f.mc] 48 (0, 0))) := heap_alloc_new w2 _
        have hz4 : w.heap.size ≤ (w2.alloc (.cells #[.int .i64 f.op, .int .i64 f.num, .string f.name, .slice f.ma f.ml f.mc] 48)).heap.size := HG4.out.size
        have HLow := Lib.hid (fun x (hx : x ∈ fs) blk (hk : (MkV x).ownBlock = some blk) => ((codeF_lt HCd.out x hx blk hk).2 : blk < wd.heap.size))
        have HOWN := Lib.hid HC4.out.1
        have HS4 : Hid (∀ x ∈ ds ++ [d], SmallP x) := Lib.hid (by
          intro x hx
          rcases List.mem_append.1 hx with hx | hx
          · exact hsm.out x hx
          · rw [List.mem_singleton] at hx
            subst hx
            exact ⟨by omega, by omega⟩)
        have hdl : ds.length ≤ 1600 := by omega
        clear hg2 hp2 hpl hr2 hm hm1 hm2 hAl hg24 HCd HM HGd hP hsm hne
        go_wp2_with (at_builtin; refine wpList_append_lies _ rfl _ _ 22 rfl w.heap.size 48 i0 (.agg #[.int .i64 0, .int .i64 0, .string ⟨#[]⟩, .slice none 0 0]) 4 56 Tryz.underlying22 hi hz0 hz1 hz2 rfl (by decide) (.slice a ds.length c) ds.length (rowsI fs) rfl HOWN.out ⟨w2.heap.size, 0, none⟩ 1 1 [.int .i64 f.op, .int .i64 f.num, .string f.name, .slice f.ma f.ml f.mc] rfl rfl (World.news_of_block HX4.out) (by intro u hu; simp at hu; rcases hu with rfl | rfl | rfl | rfl <;> rfl) (by decide) (by unfold maxLen; omega) (by omega) hz4 _ rfl ?_; intro g5 cap5 w5 hown5 hg5 hgg5 hlt5)
        have hnb : (Value.slice a ds.length c).ownBlock ≠ some b := by
          intro e
          have := (owns_typed HOWN.out e).1
          omega
        have HG5 := Lib.hid (grown_ownR HG4.out hg5 (fun g e => (owns_typed HOWN.out e).1))
        have HR5 := Lib.hid (HR4.out.grownR hg5 hnb)
        have erow : rowsI [f] = [.int .i64 f.op, .int .i64 f.num, .string f.name, .slice f.ma f.ml f.mc] := by simp [rowsI, cells4]
        have hpl5 : AllO wd.heap.size (w2.alloc (.cells #[.int .i64 f.op, .int .i64 f.num, .string f.name, .slice f.ma f.ml f.mc] 48)) [d] [f] := ⟨HPL4.out, trivial⟩
        rw [← erow] at hown5
        have HC5 := Lib.hid (CodeF.app (C := wd.heap.size) HC4.out HLow.out hzd hpl5 (List.pairwise_singleton _ _) hown5 hg5)
        clear hg5 hown5 hgg5 hlt5 HC4 HG4 HR4 HX4 HPL4 hpl5 HOWN HLow erow
        go_wp2
        go_roundw
        case rel =>
          refine ⟨ds ++ [d], fs ++ [f], q2, m', some ⟨g5, 0, none⟩, cap5, by simp, ?_, HR5.out, HG5.out, HS4, by simp; omega, HP4, hm3⟩
          rw [List.length_append, List.length_singleton]
          exact HC5.out
        case measure => simp [lenV]; omega
    · obtain rfl : q = s.size := by omega
      have z1 : decide ((s.size : Int) < (s.size : Int)) = false := decide_eq_false (by omega)
      have i1 : ¬ (s.size : Int) < (s.size : Int) := by omega
      go_wp2_with fail
      go_quiet (fail)
      clear y0 y1
      have HCd := Lib.hid (HC.out.below (belowN (Below.refl _ _) nq))
      have HGd := Lib.hid (grown_trans HG.out (grownN wr nq _))
      have HPe : Hid (rdProg (restB s 0) = some ds) := Lib.hid (by rw [hP.out, restB_end rfl]; exact rdCode_end)
      clear hm HC HG HR hP
      go_wp2
      go_ret
      exact ⟨HGd.out, Or.inr ⟨ds, a, c, Lib.hid ⟨hdq, hsm.out⟩, HPe, rfl, fs, HCd.out⟩⟩
def BodyVP (s : ByteArray) (w : World) (e : Ending) (w' : World) : Prop :=
  Below w.heap.size w w' ∧ ((Hid (¬ IsVmT s) ∧ e = Fell) ∨ ∃ (ds : List Pl) (a : Option Addr) (c : Nat), Hid (OkV ds ∧ textVB ds = s) ∧ e = .returned (.slice a ds.length c) ∧ CodeO w.heap.size w' (.slice a ds.length c) ds)
def SVn (a : Option Addr) (n c : Nat) (i : Nat) (W : World) (v : Value) : Prop := match i with
  | 0 => v = .slice a n c
  | 1 => v = .bool false
  | 2 => v = .bool true
  | 3 => v = .bool true
  | 8 => v = .bool true
  | _ => True
def SVy (a : Option Addr) (n c : Nat) (t s : ByteArray) (i : Nat) (W : World) (v : Value) : Prop := match i with
  | 0 => v = .slice a n c
  | 1 => v = .bool true
  | 2 => v = .bool false
  | 3 => v = .bool false
  | 4 => v = .slice a n c
  | 5 => v = .string t
  | 6 => v = .string s
  | 7 => v = .bool (!(t.toList == s.toList))
  | 8 => v = .bool (!(t.toList == s.toList))
  | _ => True
theorem depsV_get {S : Nat → World → Value → Prop} {f : Nat → Value} {w : World} : ∀ {l : List Nat}, Deps S f w l → ∀ {n : Nat}, n ∈ l → S n w (f n)
  | [], _, _, h => by cases h
  | m :: l, hd, n, h => by
    rcases List.mem_cons.1 h with e | e
    · subst e; exact hd.1
    · exact depsV_get hd.2 e
theorem restB0 (s : ByteArray) : restB s 0 = s.data.toList := by simp [restB]
theorem eq_bytes {t s : ByteArray} (h : (!(t.toList == s.toList)) = false) : t = s := by
  apply ByteArray.ext; apply Array.ext'
  rw [Lib.toList_data, Lib.toList_data] at h
  simpa using h
set_option maxRecDepth 100000 in
set_option maxHeartbeats 16000000 in
theorem bodyV (tb : Nat) (s : ByteArray) (w : World) (hs : s.size ≤ 1600) (hL : LaidE w) (hc : w.cell? ⟨tb, 0, none⟩ = some (.string s)) (htb : tb < w.heap.size) :
    Calls Tryz.prog 34 #[.pointer (some ⟨tb, 0, none⟩)] w (BodyVP s w) := by
  have HL := Lib.hid hL
  have HC := Lib.hid hc
  have y0 := hc
  clear hL hc
  have hA : Below w.heap.size w (w.alloc (.cells #[.string s, .int .i64 0] 54)) := (Below.refl _ _).alloc (Nat.le_refl _) _
  have hX : (w.alloc (.cells #[.string s, .int .i64 0] 54)).heap[w.heap.size]? = some (.cells #[.string s, .int .i64 0] 54 (0, 0)) := heap_alloc_new w _
  have hR : RdS (w.alloc (.cells #[.string s, .int .i64 0] 54)) w.heap.size s 0 := by
    refine ⟨?_, ?_, frozen_of_row _ _ _ _ _ hX, lt_heapT hX, Nat.zero_le _⟩ <;> (rw [Lib.cell_of_heap hX]; rfl)
  have K := Lib.hid (progC w w.heap.size s _ hR hs HL.out hA (Nat.le_refl _))
  have HA := Lib.hid hA
  clear hA hX hR
  go_enter Tryz.func34, Tryz.ntmps34
  go_wp2_with fail
  refine K.out.mono ?_
  rintro e w1 ⟨hg, ⟨hn, he⟩ | ⟨ds, a, c, hsz, hp, rfl, hcode⟩⟩
  · unfold Fell at he
    subst he
    have HB1 := Lib.hid (own_below HA.out (Nat.le_refl _) hg)
    have HN := Lib.hid hn
    clear hg hn
    go_wp2
    refine ⟨rfl, HB1.out, Or.inl ⟨Lib.hid (vm_none ?_), rfl⟩⟩
    rw [← restB0]; exact HN.out.out
  have hb1 := own_below HA.out (Nat.le_refl _) hg
  have hwa : w.heap.size ≤ (w.alloc (.cells #[.string s, .int .i64 0] 54)).heap.size := by simp
  have HCO := Lib.hid (hcode.mono hwa)
  have HP : Hid (rdProg s.data.toList = some ds) := Lib.hid (by rw [← restB0]; exact hp.out)
  have HZ := Lib.hid hsz.out
  have HPL := Lib.hid (codeO_pls hcode rfl)
  have HB1 := Lib.hid hb1
  have HLw1 := Lib.hid (laid_stays HL.out.1 hb1)
  have y1 : w1.cell? ⟨tb, 0, none⟩ = some (.string s) := (hb1.cell (p := ⟨tb, 0, none⟩) htb).trans HC.out
  have htb1 : tb < w1.heap.size := Nat.lt_of_lt_of_le htb hb1.size
  have HY := Lib.hid y1
  have hz : w.heap.size ≤ w1.heap.size := hb1.size
  have hdl : ds.length ≤ 1600 := by have := HZ.out.1; omega
  clear hg hp hcode hb1 y0 y1 K HA hwa hsz
  by_cases hok : OkV ds
  rotate_left
  · have HNO := Lib.hid hok
    have HV := Lib.hid (decide_eq_false hok)
    clear hok
    go_upto_region 3 with fail
    refine wp_region_free' (by kernel_rfl) (fun _ W => Below w1.heap.size w1 W) (fun _ _ => True) (SVn a ds.length c) (by kernel_rfl) (fun i k v W W' h _ _ => h) ((Below.refl _ _).drew) ?_
    apply Exists.intro
    apply And.intro
    · intro f
      simp only [over, List.set]
      exact rfl
    refine ⟨?hops, ?hend⟩
    case hops =>
      refine EachOp.cons ?_ (EachOp.cons ?_ (EachOp.cons ?_ (EachOp.cons ?_ (EachOp.cons ?_ (EachOp.cons ?_ (EachOp.cons ?_ (EachOp.cons ?_ (EachOp.cons ?_ (EachOp.nil)))))))))
      · intro ff kk ww hkk hI hd QQ' hQ
        try dsimp only
        go_big_wp2_with fail
        refine hQ _ _ _ ?_ hI trivial rfl
        first | rfl | (simp [upd]; done)
      · intro ff kk ww hkk hI hd QQ' hQ
        try dsimp only
        have c0' : ff 0 = _ := depsV_get hd (n := 0) (by decide)
        have hK := implVmOk a ds.length c ds ww (HPL.out.kept (same_of_below hI)) HZ.out.2 (by omega) (laid_stays HLw1.out hI)
        unfold OkVP at hK
        rw [HV.out] at hK
        go_big_wp2_with fail
        refine hK.mono ?_
        rintro e wa ⟨rfl, da⟩
        go_big_wp2_with fail
        refine hQ _ _ wa ?_ (hI.trans (da.mono hI.size)) trivial rfl
        first | rfl | (simp [upd, c0']; done)
      · intro ff kk ww hkk hI hd QQ' hQ
        try dsimp only
        have c1' : ff 1 = _ := depsV_get hd (n := 1) (by decide)
        go_big_wp2_with fail
        refine hQ _ _ _ ?_ hI trivial rfl
        first | rfl | (simp [upd, c1']; done)
      · intro ff kk ww hkk hI hd QQ' hQ
        try dsimp only
        have c2' : ff 2 = _ := depsV_get hd (n := 2) (by decide)
        go_big_wp2_with fail
        refine hQ _ _ _ ?_ hI trivial rfl
        first | rfl | (simp [upd, c2']; done)
      · intro ff kk ww hkk hI hd QQ' hQ
        try dsimp only
        have c3' : ff 3 = _ := depsV_get hd (n := 3) (by decide)
        go_big_wp2_with fail
        refine hQ _ undef _ ?_ hI trivial trivial
        first | rfl | (simp [upd, c3']; done)
      · intro ff kk ww hkk hI hd QQ' hQ
        try dsimp only
        have c3' : ff 3 = _ := depsV_get hd (n := 3) (by decide)
        go_big_wp2_with fail
        refine hQ _ undef _ ?_ hI trivial trivial
        first | rfl | (simp [upd, c3']; done)
      · intro ff kk ww hkk hI hd QQ' hQ
        try dsimp only
        have c3' : ff 3 = _ := depsV_get hd (n := 3) (by decide)
        go_big_wp2_with fail
        refine hQ _ undef _ ?_ hI trivial trivial
        first | rfl | (simp [upd, c3']; done)
      · intro ff kk ww hkk hI hd QQ' hQ
        try dsimp only
        have c3' : ff 3 = _ := depsV_get hd (n := 3) (by decide)
        go_big_wp2_with fail
        refine hQ _ undef _ ?_ hI trivial trivial
        first | rfl | (simp [upd, c3']; done)
      · intro ff kk ww hkk hI hd QQ' hQ
        try dsimp only
        have c3' : ff 3 = _ := depsV_get hd (n := 3) (by decide)
        go_big_wp2_with fail
        refine hQ _ _ _ ?_ hI trivial rfl
        first | rfl | (simp [upd, c3']; done)
    case hend =>
    intro ff kk w2 d2 hS
    try dsimp only
    have cz : ff 8 = _ := hS 8 (by decide)
    rw [cz]
    have HB2 := Lib.hid (HB1.out.trans (d2.mono hz))
    clear cz hS d2
    go_wp2
    refine ⟨rfl, HB2.out, Or.inl ⟨Lib.hid (vm_no HP.out (fun k => HNO.out k.1)), rfl⟩⟩
  have HOK := Lib.hid hok
  have HV := Lib.hid (decide_eq_true hok)
  have HSV := Lib.hid (okV_sm hok)
  have h80 : ds.length ≤ 80 := hok.1.2
  clear hok
  go_upto_region 3 with fail
  refine wp_region_free' (by kernel_rfl) (fun _ W => Below w1.heap.size w1 W) (fun _ _ => True) (SVy a ds.length c (textVB ds) s) (by kernel_rfl) (fun i k v W W' h _ _ => h) ((Below.refl _ _).drew) ?_
  apply Exists.intro
  apply And.intro
  · intro f
    simp only [over, List.set]
    exact rfl
  refine ⟨?hops, ?hend⟩
  case hops =>
    refine EachOp.cons ?_ (EachOp.cons ?_ (EachOp.cons ?_ (EachOp.cons ?_ (EachOp.cons ?_ (EachOp.cons ?_ (EachOp.cons ?_ (EachOp.cons ?_ (EachOp.cons ?_ (EachOp.nil)))))))))
    · intro ff kk ww hkk hI hd QQ' hQ
      try dsimp only
      go_big_wp2_with fail
      refine hQ _ _ _ ?_ hI trivial rfl
      first | rfl | (simp [upd]; done)
    · intro ff kk ww hkk hI hd QQ' hQ
      try dsimp only
      have c0' : ff 0 = _ := depsV_get hd (n := 0) (by decide)
      have hK := implVmOk a ds.length c ds ww (HPL.out.kept (same_of_below hI)) HZ.out.2 (by omega) (laid_stays HLw1.out hI)
      unfold OkVP at hK
      rw [HV.out] at hK
      go_big_wp2_with fail
      refine hK.mono ?_
      rintro e wa ⟨rfl, da⟩
      go_big_wp2_with fail
      refine hQ _ _ wa ?_ (hI.trans (da.mono hI.size)) trivial rfl
      first | rfl | (simp [upd, c0']; done)
    · intro ff kk ww hkk hI hd QQ' hQ
      try dsimp only
      have c1' : ff 1 = _ := depsV_get hd (n := 1) (by decide)
      go_big_wp2_with fail
      refine hQ _ _ _ ?_ hI trivial rfl
      first | rfl | (simp [upd, c1']; done)
    · intro ff kk ww hkk hI hd QQ' hQ
      try dsimp only
      have c2' : ff 2 = _ := depsV_get hd (n := 2) (by decide)
      go_big_wp2_with fail
      refine hQ _ _ _ ?_ hI trivial rfl
      first | rfl | (simp [upd, c2']; done)
    · intro ff kk ww hkk hI hd QQ' hQ
      try dsimp only
      have c3' : ff 3 = _ := depsV_get hd (n := 3) (by decide)
      go_big_wp2_with fail
      refine hQ _ _ _ ?_ hI trivial rfl
      first | rfl | (simp [upd, c3']; done)
    · intro ff kk ww hkk hI hd QQ' hQ
      try dsimp only
      have c3' : ff 3 = _ := depsV_get hd (n := 3) (by decide)
      have c4' : ff 4 = _ := depsV_get hd (n := 4) (by decide)
      have hK := vmTextIC a ds.length c ds ww (HPL.out.kept (same_of_below hI)) HSV.out (laid_stays HLw1.out hI) h80
      unfold TextVP at hK
      go_big_wp2_with fail
      refine hK.mono ?_
      rintro e wa ⟨rfl, da⟩
      go_big_wp2_with fail
      refine hQ _ _ wa ?_ (hI.trans (da.mono hI.size)) trivial rfl
      first | rfl | (simp [upd, c3', c4']; done)
    · intro ff kk ww hkk hI hd QQ' hQ
      try dsimp only
      have c3' : ff 3 = _ := depsV_get hd (n := 3) (by decide)
      have y2 : ww.cell? ⟨tb, 0, none⟩ = some (.string s) := (hI.cell (p := ⟨tb, 0, none⟩) htb1).trans HY.out
      go_big_wp2_with fail
      refine hQ _ _ _ ?_ hI trivial rfl
      first | rfl | (simp [upd, c3']; done)
    · intro ff kk ww hkk hI hd QQ' hQ
      try dsimp only
      have c3' : ff 3 = _ := depsV_get hd (n := 3) (by decide)
      have c5' : ff 5 = _ := depsV_get hd (n := 5) (by decide)
      have c6' : ff 6 = _ := depsV_get hd (n := 6) (by decide)
      go_big_wp2_with fail
      refine hQ _ _ _ ?_ hI trivial rfl
      first | rfl | (simp [upd, c3', c5', c6']; done)
    · intro ff kk ww hkk hI hd QQ' hQ
      try dsimp only
      have c3' : ff 3 = _ := depsV_get hd (n := 3) (by decide)
      have c7' : ff 7 = _ := depsV_get hd (n := 7) (by decide)
      go_big_wp2_with fail
      refine hQ _ _ _ ?_ hI trivial rfl
      first | rfl | (simp [upd, c3', c7']; done)
  case hend =>
  intro ff kk w2 d2 hS
  try dsimp only
  have cz : ff 8 = _ := hS 8 (by decide)
  rw [cz]
  have HB2 := Lib.hid (HB1.out.trans (d2.mono hz))
  have HCO2 := Lib.hid (HCO.out.below d2)
  clear cz hS d2
  generalize hbz : (!((textVB ds).toList == s.toList)) = bz
  cases bz with
  | false =>
    have HE := Lib.hid (eq_bytes hbz)
    clear hbz
    go_wp2
    go_ret
    exact ⟨HB2.out, Or.inr ⟨ds, a, c, Lib.hid ⟨HOK.out, HE.out⟩, rfl, HCO2.out⟩⟩
  | true =>
    have HNE : Hid (textVB ds ≠ s) := Lib.hid (by intro e; rw [e] at hbz; simp at hbz)
    clear hbz
    go_wp2
    exact ⟨rfl, HB2.out, Or.inl ⟨Lib.hid (vm_no HP.out (fun k => HNE.out k.2)), rfl⟩⟩
end Go.Proofs.YtjhgmmcglonokaaGreatDoor
