/-
  The program's OpsRead: what was written of ops that are ok is read, of any other text nothing.
-/
import Derived.Test.YtlfmhhdlandcjaaDoorReadListO
import Derived.Test.YtlfmhhdlandcjaaDoorOpsWriteI
import Derived.Defers
import Derived.Recover
namespace Go.Proofs.YtlfmhhdlandcjaaDoor
open Go.RowKit
set_option linter.unusedVariables false
set_option linter.unusedSimpArgs false

theorem makeF (fn : Fn) (first cap : Array Value) (w : World) : (Instr.makeFunc fn first cap).run Tryd.prog w = .ok (.func fn first cap) w := rfl
set_option maxHeartbeats 1000000 in
theorem opsC (w0 : World) (b : Nat) (s : ByteArray) (p : Nat) (w : World) (h : RdS w b s p) (hs : s.size ≤ 1048576) (hL : LaidE w0) (hB : Below w0.heap.size w0 w) (hb : w0.heap.size ≤ b) :
    Calls Tryd.prog 21 #[.pointer (some ⟨b, 0, none⟩)] w (ListPostO b s p w) := by
  have K := Lib.hid (listOC w0 b s p w h hs hB hb (fun q W h1 h2 => opC w0 b s q W h1 hs hL h2 hb))
  have hmf := makeF
  clear h hL hB
  go_enter Tryd.func21, Tryd.ntmps21
  go_wp2_with fail
  refine K.out.mono ?_
  rintro e w1 ⟨hg, ⟨hn, he⟩ | ⟨l, q, g, cap, hpq, hx, hl1, hl2, hp, rfl, hown, hgb, hr⟩⟩
  · unfold Fell at he
    subst he
    have HG := Lib.hid hg
    have HN := Lib.hid hn
    clear hg hn
    go_wp2
    exact ⟨rfl, HG.out, Or.inl ⟨HN.out, rfl⟩⟩
  · have HP : Hid (w.grownBy w1 (some b) ∧ ((Hid (rdList 44 rdOp (restB s p) = none) ∧ Ending.returned (.slice (some ⟨g, 0, none⟩) l.length cap) = Fell) ∨ ∃ (l' : List OpD) (q g' cap' : Nat), p ≤ q ∧ (∀ x ∈ l', x.leg.size ≤ s.size) ∧ 1 ≤ l'.length ∧ l'.length ≤ s.size + 1 ∧ Hid (rdList 44 rdOp (restB s p) = some (l', restB s q)) ∧ Ending.returned (.slice (some ⟨g, 0, none⟩) l.length cap) = .returned (.slice (some ⟨g', 0, none⟩) l'.length cap') ∧ w1.ownsRow w.heap.size 55 4 (.slice (some ⟨g', 0, none⟩) l'.length cap') l'.length (cellsO l') ∧ g' ≠ b ∧ RdS w1 b s q)) := ⟨hg, Or.inr ⟨l, q, g, cap, hpq, hx, hl1, hl2, hp, rfl, hown, hgb, hr⟩⟩
    clear hg hx hp hown hr
    go_wp2
    go_ret
    exact HP.out
theorem cellsO_get : ∀ (l : List OpD) (i : Nat), i < l.length → (cellsO l)[i * 4]? = some (.string (l.getD i default).leg) ∧ (cellsO l)[i * 4 + 1]? = some (.int .i64 (l.getD i default).cls) ∧ (cellsO l)[i * 4 + 2]? = some (.int .i64 (l.getD i default).st) ∧ (cellsO l)[i * 4 + 3]? = some (.int .i64 (l.getD i default).sh)
  | [], i, h => by simp at h
  | x :: l, 0, h => ⟨rfl, rfl, rfl, rfl⟩
  | x :: l, i + 1, h => by
    have e : ∀ j, (cellsO (x :: l))[(i + 1) * 4 + j]? = (cellsO l)[i * 4 + j]? := by
      intro j
      have e1 : cellsO (x :: l) = (OpC x).toList ++ cellsO l := rfl
      rw [e1, List.getElem?_append_right (by simp [OpC]; omega)]
      congr 1; simp [OpC]; omega
    have ih := cellsO_get l i (by simpa using h)
    have e0 := e 0
    simp only [Nat.add_zero] at e0
    rw [e0, e 1, e 2, e 3]
    simpa using ih
def dsL (l : List OpD) (i : Nat) : OpD := l.getD i default
theorem own_cap {w : World} {base g cap n size : Nat} {e : TypeId} {xs : List Value} (h : w.ownsRow base e size (.slice (some ⟨g, 0, none⟩) n cap) n xs) : n ≤ cap := by
  rcases h.2 with ⟨h0, _⟩ | ⟨g', cap', cur, hv, _, _, h1, _⟩
  · cases h0
  · cases hv; exact h1
theorem ops_own {w : World} {B g cap : Nat} {l : List OpD} (h : w.ownsRow B 55 4 (.slice (some ⟨g, 0, none⟩) l.length cap) l.length (cellsO l)) : Ops w (some ⟨g, 0, none⟩) l.length (dsL l) := by
  refine Or.inr ⟨g, 0, rfl, (h.lt g rfl).2, fun i hi => ?_⟩
  unfold OpAt
  rw [Nat.zero_add, h.cellAt (i * 4) (by omega), h.cellAt (i * 4 + 1) (by omega), h.cellAt (i * 4 + 2) (by omega), h.cellAt (i * 4 + 3) (by omega)]
  exact cellsO_get l i hi
/-- A text is that of ops that are ok. -/
def IsOpsT (s : ByteArray) : Prop := ∃ n ds, OpsGood n ds ∧ opsB ds n = s
theorem parse_fits {s : ByteArray} {n : Nat} {ds : Nat → OpD} (h : OpsGood n ds) (e : opsB ds n = s) : rdList 44 rdOp (restB s 0) = some (opList ds 0 n, []) := by
  have := rdOps_opsB h
  rw [e] at this
  simpa [restB, rdOps] using this
theorem opList_getD (ds : Nat → OpD) (n i : Nat) (h : i < n) : (opList ds 0 n).getD i default = ds i := by
  have := opList_get ds n 0 i h
  rw [List.getD_eq_getElem?_getD, this, Nat.zero_add]; rfl
theorem good_same {n : Nat} {ds ds' : Nat → OpD} (h : OpsGood n ds) (e : ∀ i, i < n → ds i = ds' i) : OpsGood n ds' := by
  refine ⟨h.1, fun i hi => ?_⟩
  obtain ⟨h1, h2⟩ := h.2 i hi
  rw [e i hi] at h1 h2
  exact ⟨h1, fun j hj => by have := h2 j hj; rwa [e j (by omega)] at this⟩
theorem opsB_same {ds ds' : Nat → OpD} : ∀ n, (∀ i, i < n → ds i = ds' i) → opsB ds n = opsB ds' n
  | 0, _ => rfl
  | 1, h => by rw [opsB, opsB, h 0 (by omega)]
  | n + 2, h => by rw [opsB, opsB, opsB_same (n + 1) (fun i hi => h i (by omega)), h (n + 1) (by omega)]
def BodyPost (s : ByteArray) (w : World) (e : Ending) (w' : World) : Prop :=
  Below w.heap.size w w' ∧ ((Hid (¬ IsOpsT s) ∧ e = Fell) ∨ ∃ (n g cap : Nat) (ds : Nat → OpD), n ≤ cap ∧ Hid (OpsGood n ds ∧ opsB ds n = s) ∧ e = .returned (.slice (some ⟨g, 0, none⟩) n cap) ∧ w.heap.size ≤ g ∧ Ops w' (some ⟨g, 0, none⟩) n ds)
open Classical in
noncomputable def textO (n : Nat) (ds : Nat → OpD) : ByteArray := if OpsGood n ds then opsB ds n else ⟨#[]⟩
theorem textO_of {n : Nat} {ds : Nat → OpD} {o : ByteArray} (h : OpsText n ds o) : o = textO n ds := by
  unfold textO
  split
  · rename_i q; exact h.1 q
  · rename_i q; exact h.2 q
theorem body_no {s : ByteArray} {l : List OpD} {r : List UInt8} (hp : rdList 44 rdOp (restB s 0) = some (l, r)) (hne : (textO l.length (dsL l)).toList ≠ s.toList) : ¬ IsOpsT s := by
  rintro ⟨n, ds, hg, e⟩
  have h := parse_fits hg e
  rw [hp] at h
  have hl : l = opList ds 0 n := by injection h with h; exact congrArg Prod.fst h
  have hn : l.length = n := by rw [hl, opList_len]
  have hs : ∀ i, i < n → ds i = dsL l i := fun i hi => by rw [dsL, hl, opList_getD ds n i hi]
  apply hne
  rw [hn]
  unfold textO
  rw [if_pos (good_same hg hs), ← opsB_same n hs, e]
theorem body_yes {s : ByteArray} {l : List OpD} {r : List UInt8} (hp : rdList 44 rdOp (restB s 0) = some (l, r)) (he : (textO l.length (dsL l)).toList = s.toList) : OpsGood l.length (dsL l) ∧ opsB (dsL l) l.length = s := by
  have e : textO l.length (dsL l) = s := by
    apply ByteArray.ext; apply Array.ext'
    rw [Lib.toList_data, Lib.toList_data] at he; exact he
  unfold textO at e
  split at e
  · rename_i q; exact ⟨q, e⟩
  · subst e
    have : restB ⟨#[]⟩ 0 = [] := rfl
    rw [this] at hp
    simp [rdList, rdOp, rdPart, rdNext, offOf] at hp
def SRd (n g cap : Nat) (o s : ByteArray) (i : Nat) (W : World) (v : Value) : Prop := match i with
  | 0 => v = .slice (some ⟨g, 0, none⟩) n cap
  | 1 => v = .string o
  | 2 => v = .string s
  | 3 => v = .bool (!(o.toList == s.toList))
  | _ => True
theorem infoCur : (Tryd.prog.info? 46).map (·.size) = some 2 := by kernel_rfl
set_option maxRecDepth 100000 in
set_option maxHeartbeats 4000000 in
theorem bodyC (tb : Nat) (s : ByteArray) (w : World) (hs : s.size ≤ 1048575) (hL : LaidE w) (hc : w.cell? ⟨tb, 0, none⟩ = some (.string s)) (htb : tb < w.heap.size) :
    Calls Tryd.prog 20 #[.pointer (some ⟨tb, 0, none⟩)] w (BodyPost s w) := by
  have HL := Lib.hid hL
  have HC := Lib.hid hc
  have y0 := hc
  clear hL hc
  have hA : Below w.heap.size w (w.alloc (.cells #[.string s, .int .i64 0] 46)) := (Below.refl _ _).alloc (Nat.le_refl _) _
  have hX : (w.alloc (.cells #[.string s, .int .i64 0] 46)).heap[w.heap.size]? = some (.cells #[.string s, .int .i64 0] 46 (0, 0)) := heap_alloc_new w _
  have hR : RdS (w.alloc (.cells #[.string s, .int .i64 0] 46)) w.heap.size s 0 := by
    refine ⟨?_, ?_, frozen_of_row _ _ _ _ _ hX, lt_heap hX, Nat.zero_le _⟩ <;> (rw [Lib.cell_of_heap hX]; rfl)
  have K := Lib.hid (opsC w w.heap.size s 0 _ hR (by omega) HL.out hA (Nat.le_refl _))
  have HA := Lib.hid hA
  clear hA hX hR
  go_enter Tryd.func20, Tryd.ntmps20
  go_wp2_with fail
  refine K.out.mono ?_
  rintro e w1 ⟨hg, ⟨hn, he⟩ | ⟨l, q, g, cap, -, hx, hl1, hl2, hp, rfl, hown, hgb, -⟩⟩
  · unfold Fell at he
    subst he
    have HB1 := Lib.hid (own_below HA.out (Nat.le_refl _) hg)
    have HN := Lib.hid hn
    clear hg hn
    go_wp2
    refine ⟨rfl, HB1.out, Or.inl ⟨Lib.hid ?_, rfl⟩⟩
    rintro ⟨n, ds, h1, h2⟩
    have := parse_fits h1 h2
    rw [HN.out.out] at this
    cases this
  · have hb1 := own_below HA.out (Nat.le_refl _) hg
    have hwa : w.heap.size < (w.alloc (.cells #[.string s, .int .i64 0] 46)).heap.size := by simp
    have hg1 := (hown.lt g rfl)
    have hlc : l.length ≤ cap := own_cap hown
    have HO := Lib.hid (ops_own hown)
    have HP := Lib.hid hp
    have HXs := Lib.hid hx
    have HB1 := Lib.hid hb1
    have HLw1 := Lib.hid (laid_stays HL.out.1 hb1)
    have y1 : w1.cell? ⟨tb, 0, none⟩ = some (.string s) := (hb1.cell (p := ⟨tb, 0, none⟩) htb).trans HC.out
    have htb1 : tb < w1.heap.size := Nat.lt_of_lt_of_le htb hb1.size
    have HY := Lib.hid y1
    have hz : w.heap.size ≤ w1.heap.size := hb1.size
    have hgw : w.heap.size ≤ g := by omega
    clear hg hx hp hown hb1 y0 y1 K HA hwa hg1
    go_upto_region 3 with fail
    refine wp_region_free' (by kernel_rfl) (fun _ W => Below w1.heap.size w1 W) (fun _ _ => True) (SRd l.length g cap (textO l.length (dsL l)) s) (by kernel_rfl) (fun i k v W W' h _ _ => h) ((Below.refl _ _).drew) ?_
    apply Exists.intro
    apply And.intro
    · intro f
      simp only [over, List.set]
      exact rfl
    refine ⟨?hops, ?hend⟩
    case hops =>
      refine EachOp.cons ?_ (EachOp.cons ?_ (EachOp.cons ?_ (EachOp.cons ?_ EachOp.nil)))
      · intro ff kk ww hkk hI hd QQ' hQ
        try dsimp only
        go_big_wp2_with fail
        refine hQ _ _ _ ?_ hI trivial rfl
        first | rfl | (simp [upd]; done)
      · intro ff kk ww hkk hI hd QQ' hQ
        try dsimp only
        have c0' : ff 0 = _ := DepsO.get hd (n := 0) (by decide)
        go_big_wp2_with fail
        refine (writeI (some ⟨g, 0, none⟩) l.length cap (dsL l) ww (HO.out.kept hI) ?_ (by omega) hlc (laid_stays HLw1.out hI)).mono ?_
        · intro i hi
          have := HXs.out (dsL l i) (by rw [dsL, List.getD_eq_getElem?_getD, List.getElem?_eq_getElem hi]; exact List.getElem_mem hi)
          unfold maxLen; omega
        rintro e wa ⟨o, rfl, ho, da⟩
        obtain rfl := textO_of ho.out
        go_big_wp2_with fail
        refine hQ _ _ wa ?_ (bt hI da) trivial rfl
        first | rfl | (simp [upd, c0']; done)
      · intro ff kk ww hkk hI hd QQ' hQ
        try dsimp only
        have y2 : ww.cell? ⟨tb, 0, none⟩ = some (.string s) := (hI.cell (p := ⟨tb, 0, none⟩) htb1).trans HY.out
        go_big_wp2_with fail
        refine hQ _ _ _ ?_ hI trivial rfl
        first | rfl | (simp [upd]; done)
      · intro ff kk ww hkk hI hd QQ' hQ
        try dsimp only
        have c1' : ff 1 = _ := DepsO.get hd (n := 1) (by decide)
        have c2' : ff 2 = _ := DepsO.get hd (n := 2) (by decide)
        go_big_wp2_with fail
        refine hQ _ _ _ ?_ hI trivial rfl
        first | rfl | (simp [upd, c1', c2']; done)
    case hend =>
    intro ff kk w2 d2 hS
    try dsimp only
    have cz : ff 3 = _ := hS 3 (by decide)
    rw [cz]
    have HB2 := Lib.hid (HB1.out.trans (d2.mono hz))
    have HO2 := Lib.hid (HO.out.kept d2)
    clear cz hS d2
    generalize hbz : (!((textO l.length (dsL l)).toList == s.toList)) = bz
    cases bz with
    | false =>
      have hq : (textO l.length (dsL l)).toList = s.toList := by simpa using hbz
      have HY2 := Lib.hid (body_yes HP.out.out hq)
      clear hq hbz
      go_wp2
      go_ret
      exact ⟨HB2.out, Or.inr ⟨l.length, g, cap, _, hlc, HY2, rfl, hgw, HO2.out⟩⟩
    | true =>
      have hq : (textO l.length (dsL l)).toList ≠ s.toList := by intro e; rw [e] at hbz; simp at hbz
      have HY2 := Lib.hid (body_no HP.out.out hq)
      clear hq hbz
      go_wp2
      exact ⟨rfl, HB2.out, Or.inl ⟨HY2, rfl⟩⟩
end Go.Proofs.YtlfmhhdlandcjaaDoor
