/-
  The model's VmRead: what was written of a program that is ok is read, of any other text nothing.
-/
import Derived.Test.YtjhgmmcglonokaaGreatDoorVmReadM
import Derived.Test.YtjhgmmcglonokaaGreatDoorVmReadB
namespace Go.Proofs.YtjhgmmcglonokaaGreatDoor
open Go.RowKit
set_option linter.unusedVariables false
set_option linter.unusedSimpArgs false

theorem owns_ne {w : World} {B B' : Nat} {e e' : TypeId} {z z' : Nat} {v v' : Value} {n n' : Nat} {xs xs' : List Value} (h : w.ownsRow B e z v n xs) (h' : w.ownsRow B' e' z' v' n' xs') (he : e ≠ e') {g : Nat} (hg : v.ownBlock = some g) : v'.ownBlock ≠ some g := by
  intro hg'
  obtain ⟨-, cur, hc⟩ := owns_typed h hg
  obtain ⟨-, cur', hc'⟩ := owns_typed h' hg'
  rw [hc] at hc'
  have := Option.some.inj hc'
  injection this with _ k _
  exact he k
theorem tIS : (48 : TypeId) ≠ 9 := by decide
def ReadMP (s : ByteArray) (w : World) (e : Ending) (w' : World) : Prop :=
  Below w.heap.size w w' ∧ ((Hid (¬ IsVmT s) ∧ ∃ (a : Option Addr) (c : Nat), e = .returned (.tuple #[.slice a 0 c, .bool false])) ∨ ∃ (ds : List Pl) (a : Option Addr) (c : Nat), Hid (OkV ds ∧ textVB ds = s) ∧ e = .returned (.tuple #[.slice a ds.length c, .bool true]) ∧ CodeO w.heap.size w' (.slice a ds.length c) ds)
theorem readM_take {ls : List ByteArray} {l : List UInt8} (h : ls.map (·.data.toList) = splitB 10 l) : (ls.take (ls.length - 1)).map (fun x => placeM x.data.toList) = readM l := by
  unfold readM
  rw [← h, List.dropLast_eq_take, List.length_map, ← List.map_take, List.map_map]
  rfl
theorem write_yes {ds : List Pl} {s : ByteArray} (h0 : s.size ≠ 0) (h : (writeV ds).toList = s.toList) : OkV ds ∧ textVB ds = s := by
  have e : writeV ds = s := by
    apply ByteArray.ext; apply Array.ext'
    rw [Lib.toList_data, Lib.toList_data] at h; exact h
  unfold writeV at e
  split at e
  · rename_i q; exact ⟨q, e⟩
  · subst e; exact absurd rfl h0
theorem write_no {ds : List Pl} {s : ByteArray} (h : (writeV ds).toList ≠ s.toList) : ¬ (OkV ds ∧ textVB ds = s) := by
  rintro ⟨h1, h2⟩
  apply h
  unfold writeV
  rw [if_pos h1, h2]
set_option maxRecDepth 100000 in
set_option maxHeartbeats 16000000 in
theorem specVmRead (s : ByteArray) (w : World) (hs : s.size ≤ 1048576) :
    Calls Tryz.prog 7 #[.string s] w (ReadMP s w) := by
  obtain ⟨i0, hi, hz0, hz1, hz2⟩ := info_parts infoIns
  have K := Lib.hid (cut3C 10 10 rfl s w hs)
  rcases Nat.lt_or_ge 1600 s.size with h16 | h16
  · have z1 : decide ((1600 : Int) < (s.size : Int)) = true := decide_eq_true (by omega)
    have i1 : (1600 : Int) < (s.size : Int) := by omega
    have HN : Hid (¬ IsVmT s) := Lib.hid (fun k => by have := isVm_len k; omega)
    go_enter Tryz.func7, Tryz.ntmps7
    go_wp2_with fail
    refine K.out.mono ?_
    rintro e w1 ⟨ls, gl, cl, hls, hl1, hl2, hlsz, rfl, hown, hb⟩
    have HB := Lib.hid (hb.alloc (show w.heap.size ≤ w1.heap.size from hb.size) (.cells #[] 48))
    clear hls hlsz hown hb K
    go_wp2
    go_ret2
    exact ⟨HB.out, Or.inl ⟨HN, _, _, rfl⟩⟩
  have z1 : decide ((1600 : Int) < (s.size : Int)) = false := decide_eq_false (by omega)
  have i1 : ¬ (1600 : Int) < (s.size : Int) := by omega
  go_enter Tryz.func7, Tryz.ntmps7
  go_wp2_with fail
  refine K.out.mono ?_
  rintro e w1 ⟨ls, gl, cl, hls, hl1, hl2, hlsz, rfl, hown, hb⟩
  have HLS : Hid (ls.map (·.data.toList) = splitB 10 s.data.toList) := hls
  have HLZ : Hid (∀ x ∈ ls, x.size ≤ s.size) := hlsz
  have hbz := hb.size
  have HB0 := Lib.hid (hb.alloc hbz (.cells #[] 48))
  have HR0 := Lib.hid (hown.alloc (.cells #[] 48))
  have HC0 : Hid (CodeF w.heap.size (w1.alloc (.cells #[] 48)) (.slice (some ⟨w1.heap.size, 0, none⟩) 0 0) [] []) := Lib.hid ⟨World.ownsRow_made w1 #[] 0 hbz (by unfold maxLen; omega) rfl, trivial, List.Pairwise.nil⟩
  clear hls hlsz hown hb K z1 i1
  go_wp2_with fail
  go_loopw [5, 6] (fun vc vi wr => ∃ (ds : List Pl) (fs : List FI) (a : Option Addr) (c : Nat), vi = .int .i64 (ds.length : Nat) ∧ vc = .slice a ds.length c ∧ ds.length ≤ ls.length - 1 ∧ CodeF w.heap.size wr (.slice a ds.length c) ds fs ∧ wr.ownsRow w.heap.size 9 1 (.slice (some ⟨gl, 0, none⟩) ls.length cl) ls.length (ls.map Value.string) ∧ Below w.heap.size w wr ∧ Hid (ds = (ls.take ds.length).map (fun x => placeM x.data.toList)) ∧ Hid (∀ d ∈ ds, SmallP d)) (fun _ vi _ => ls.length - (intOf vi).toNat)
  case atStart => exact ⟨[], [], some ⟨w1.heap.size, 0, none⟩, 0, rfl, rfl, Nat.zero_le _, HC0.out, HR0.out, HB0.out, Lib.hid (by simp), Lib.hid (by simp)⟩
  case round =>
    obtain ⟨ds, fs, a, c, rfl, rfl, hdl, hC, hrow, hbr, hds, hsm⟩ := hrel
    have HC := Lib.hid hC
    have HROW := Lib.hid hrow
    have HBR := Lib.hid hbr
    have hbrz := hbr.size
    clear hC hrow hbr HB0 HR0 HC0
    have ew : IntKind.i64.wrap ((ls.length : Int) - 1) = ((ls.length - 1 : Nat) : Int) := by rw [IntWalk.i64_in _ (by omega)]; omega
    rcases Nat.lt_or_ge ds.length (ls.length - 1) with hlt | hge
    · have hk : ds.length < ls.length := by omega
      have g1 : decide ((ds.length : Int) < ((ls.length - 1 : Nat) : Int)) = true := decide_eq_true (by omega)
      have i1 : (ds.length : Int) < ((ls.length - 1 : Nat) : Int) := by omega
      have i2 : (ds.length : Int) < (ls.length : Int) := by omega
      have i0' : (0 : Int) ≤ (ds.length : Int) := by omega
      have y0 : wr.cell? ⟨gl, ds.length, none⟩ = some (.string (ls[ds.length]'hk)) := by
        rw [HROW.out.cellAt ds.length (by omega)]; simp [hk]
      have hxz : (ls[ds.length]'hk).size ≤ s.size := HLZ.out _ (List.getElem_mem hk)
      have hnx : Hid ((ls.take (ds.length + 1)).map (fun x => placeM x.data.toList) = (ls.take ds.length).map (fun x => placeM x.data.toList) ++ [placeM (ls[ds.length]'hk).data.toList]) := Lib.hid (by
        rw [List.take_succ_eq_append_getElem hk, List.map_append]; rfl)
      generalize ls[ds.length]'hk = x at *
      have KP := Lib.hid (specPlace x wr (by omega))
      go_wp2_with fail
      refine KP.out.mono ?_
      rintro e w2 ⟨d, f, hd, rfl, hpl, hsd, hb2⟩
      have hAl : Below w2.heap.size w2 (w2.alloc (.cells #[.int .i64 f.op, .int .i64 f.num, .string f.name, .slice f.ma f.ml f.mc] 48)) := (Below.refl _ _).alloc (Nat.le_refl _) _
      have HC4 := Lib.hid ((HC.out.below hb2).below hAl)
      have HROW4 := Lib.hid ((HROW.out.kept (row := none) (below_grownM hb2) (Classical.em _)).alloc (.cells #[.int .i64 f.op, .int .i64 f.num, .string f.name, .slice f.ma f.ml f.mc] 48))
      have hb24 : Below w.heap.size w w2 := HBR.out.trans (hb2.mono hbrz)
      have HB4 := Lib.hid (hb24.alloc hb24.size (.cells #[.int .i64 f.op, .int .i64 f.num, .string f.name, .slice f.ma f.ml f.mc] 48))
      have HPL4 := Lib.hid (hpl.below hAl)
      have HX4 : Hid ((w2.alloc (.cells #[.int .i64 f.op, .int .i64 f.num, .string f.name, .slice f.ma f.ml f.mc] 48)).heap[w2.heap.size]? = some (.cells #[.int .i64 f.op, .int .i64 f.num, .string f.name, .slice f.ma f.ml f.mc] 48 (0, 0))) := heap_alloc_new w2 _
      have hz4 : w.heap.size ≤ (w2.alloc (.cells #[.int .i64 f.op, .int .i64 f.num, .string f.name, .slice f.ma f.ml f.mc] 48)).heap.size := HB4.out.size
      have HLow := Lib.hid (fun y (hy : y ∈ fs) blk (hk : (MkV y).ownBlock = some blk) => ((codeF_lt HC.out y hy blk hk).2 : blk < wr.heap.size))
      have HOWN := Lib.hid HC4.out.1
      have HNE : Hid (∀ g, (Value.slice a ds.length c).ownBlock = some g → (Value.slice (some ⟨gl, 0, none⟩) ls.length cl).ownBlock ≠ some g) := Lib.hid (fun g hg => owns_ne HOWN.out HROW4.out tIS hg)
      have HS4 : Hid (∀ y ∈ ds ++ [d], SmallP y) := Lib.hid (by
        intro y hy
        rcases List.mem_append.1 hy with hy | hy
        · exact hsm.out y hy
        · rw [List.mem_singleton] at hy
          subst hy
          exact hsd)
      have HD4 : Hid (ds ++ [d] = (ls.take (ds ++ [d]).length).map (fun x => placeM x.data.toList)) := Lib.hid (by
        rw [List.length_append, List.length_singleton, hnx.out, ← hds.out, hd.out])
      have hdl2 : ds.length ≤ 1600 := by omega
      clear hd hpl hsd hb2 hAl hb24 HC HROW HBR KP hsm hds hnx y0
      go_wp2_with (at_builtin; refine wpList_append_lies _ rfl _ _ 22 rfl w.heap.size 48 i0 (.agg #[.int .i64 0, .int .i64 0, .string ⟨#[]⟩, .slice none 0 0]) 4 56 Tryz.underlying22 hi hz0 hz1 hz2 rfl (by decide) (.slice a ds.length c) ds.length (rowsI fs) rfl HOWN.out ⟨w2.heap.size, 0, none⟩ 1 1 [.int .i64 f.op, .int .i64 f.num, .string f.name, .slice f.ma f.ml f.mc] rfl rfl (World.news_of_block HX4.out) (by intro u hu; simp at hu; rcases hu with rfl | rfl | rfl | rfl <;> rfl) (by decide) (by unfold maxLen; omega) (by omega) hz4 _ rfl ?_; intro g5 cap5 w5 hown5 hg5 hgg5 hlt5)
      have erow : rowsI [f] = [.int .i64 f.op, .int .i64 f.num, .string f.name, .slice f.ma f.ml f.mc] := by simp [rowsI, cells4]
      have hpl5 : AllO wr.heap.size (w2.alloc (.cells #[.int .i64 f.op, .int .i64 f.num, .string f.name, .slice f.ma f.ml f.mc] 48)) [d] [f] := ⟨HPL4.out, trivial⟩
      rw [← erow] at hown5
      have HC5 := Lib.hid (CodeF.app (C := wr.heap.size) HC4.out HLow.out hbrz hpl5 (List.pairwise_singleton _ _) hown5 hg5)
      have HROW5 := Lib.hid (HROW4.out.kept hg5 (Or.inr (fun e => by
        cases ho : (Value.slice a ds.length c).ownBlock with
        | none => rw [ho] at e; cases e
        | some g => exact HNE.out g ho (e.trans ho))))
      have HB5 := Lib.hid (HB4.out.grown hg5 hz4 (fun k e => (owns_typed HOWN.out e).1))
      clear hg5 hown5 hgg5 hlt5 HC4 HROW4 HB4 HX4 HPL4 hpl5 HOWN HLow erow HNE
      go_wp2
      go_roundw
      case rel =>
        refine ⟨ds ++ [d], fs ++ [f], some ⟨g5, 0, none⟩, cap5, by simp, by simp, by simp; omega, ?_, HROW5.out, HB5.out, HD4, HS4⟩
        rw [List.length_append, List.length_singleton]
        exact HC5.out
      case measure => simp [intOf]; omega
    · have g1 : decide ((ds.length : Int) < ((ls.length - 1 : Nat) : Int)) = false := decide_eq_false (by omega)
      have i1 : ¬ (ds.length : Int) < ((ls.length - 1 : Nat) : Int) := by omega
      have hke : ds.length = ls.length - 1 := by omega
      have HRM : Hid (ds = readM s.data.toList) := Lib.hid (by
        have h1 := hds.out
        rw [hke, readM_take HLS.out] at h1
        exact h1)
      have hdl2 : ds.length ≤ 1600 := by omega
      have HPL : Hid (PlsN All wr a ds.length ds) := Lib.hid (codeO_pls ⟨fs, HC.out⟩ rfl)
      have HW := Lib.hid (specVmWrite a ds.length c ds wr HPL.out hsm.out (by omega))
      unfold WriteVP at HW
      clear hds hke HPL HROW hsm HLZ HLS
      by_cases h0 : s.size = 0
      · have e0 : s = ⟨#[]⟩ := bytes0 h0
        have z0 : (s.toList == []) = true := by rw [e0, Lib.toList_data]; rfl
        have HN := Lib.hid (isVm_ne h0)
        have HBE := Lib.hid (HBR.out.alloc hbrz (.cells #[] 48))
        clear h0 e0 HBR HC HW HRM
        go_wp2
        go_ret2
        exact ⟨HBE.out, Or.inl ⟨HN.out, _, _, rfl⟩⟩
      · have z0 : (s.toList == []) = false := by
          rw [Lib.toList_data]
          cases hh : s.data.toList with
          | nil => exact absurd (by have := congrArg List.length hh; simpa using this) h0
          | cons x r => rfl
        have H0 := Lib.hid h0
        clear h0
        go_wp2_with fail
        refine HW.out.mono ?_
        rintro e w3 ⟨rfl, hb3⟩
        have HB3 := Lib.hid (HBR.out.trans (hb3.mono hbrz))
        have HC3 := Lib.hid (HC.out.below hb3)
        clear hb3 HBR HC HW
        generalize hbz : ((writeV ds).toList != s.toList) = bz
        have hbz2 : (!((writeV ds).toList == s.toList)) = bz := hbz
        cases bz with
        | false =>
          have HE : Hid (OkV ds ∧ textVB ds = s) := Lib.hid (write_yes H0.out (by simpa using hbz))
          go_wp2
          go_ret2
          exact ⟨HB3.out, Or.inr ⟨ds, a, c, HE, rfl, fs, HC3.out⟩⟩
        | true =>
          have HE : Hid (¬ IsVmT s) := Lib.hid (vmM_no (by rw [← HRM.out]; exact write_no (by simpa using hbz)))
          have HBE := Lib.hid (HB3.out.alloc HB3.out.size (.cells #[] 48))
          go_wp2
          go_ret2
          exact ⟨HBE.out, Or.inl ⟨HE, _, _, rfl⟩⟩
end Go.Proofs.YtjhgmmcglonokaaGreatDoor
