/-
  What a reader's methods do, on: a byte that must come, a run of a set, a number.
-/
import Derived.Test.YtjhgmmcglonokaaGreatDoorReader
import Derived.Test.YtjhgmmcglonokaaGreatDoorAtoiN
import Derived.Shelf.Strings.SlTrimAscii
namespace Go.Proofs.YtjhgmmcglonokaaGreatDoor
open Go.RowKit
set_option linter.unusedVariables false
set_option linter.unusedSimpArgs false

/-- A reader panics with this. -/
def Fell : Ending := .panicked [{ v := .iface 57 (.agg #[]), recovered := false }]
def NeedPost (c : UInt8) (b : Nat) (s : ByteArray) (p : Nat) (w : World) (e : Ending) (w' : World) : Prop :=
  w.grownBy w' (some b) ∧ ((rdNext c (restB s p) = none ∧ e = Fell) ∨ (rdNext c (restB s p) = some (restB s (p + 1)) ∧ e = .returned (.tuple #[]) ∧ RdS w' b s (p + 1)))
set_option maxHeartbeats 1000000 in
theorem needC (c : UInt8) (k : Int) (hk : k = (c.toNat : Int)) (b : Nat) (s : ByteArray) (p : Nat) (w : World) (h : RdS w b s p) (hs : s.size ≤ 1048576) :
    Calls Tryz.prog 97 #[.pointer (some ⟨b, 0, none⟩), .int .u8 k] w (NeedPost c b s p w) := by
  have K := Lib.hid (nextC c k hk b s p w h hs)
  clear h hk
  go_enter Tryz.func97, Tryz.ntmps97
  go_wp2_with fail
  refine K.out.mono ?_
  rintro e w1 ⟨hg, ⟨hn, rfl, hr⟩ | ⟨hn, rfl, hr⟩⟩
  · have HG := Lib.hid hg
    have HN := Lib.hid hn
    clear hr hg hn
    go_wp2
    exact ⟨rfl, HG.out, Or.inl ⟨HN.out, rfl⟩⟩
  · have HG := Lib.hid hg
    have HN := Lib.hid hn
    have HR := Lib.hid hr
    clear hr hg hn
    go_wp2
    go_end0
    exact ⟨HG.out, Or.inr ⟨HN.out, rfl, HR.out⟩⟩
theorem info256 : (Tryz.prog.info? 163).map (fun i => (i.zero, i.size)) = some (some (.agg (Array.replicate 256 (.bool false))), 256) := by kernel_rfl
def TrimPost (cs : List UInt8) (t : ByteArray) (w : World) (e : Ending) (w' : World) : Prop := ∃ u : ByteArray, e = .returned (.string u) ∧ Hid (u.data.toList = offOf cs t.data.toList) ∧ u.size ≤ t.size ∧ Below w.heap.size w w'
set_option maxRecDepth 1000000 in
theorem trimC (cs : ByteArray) (t : ByteArray) (w : World) (hc : cs.size < 4294967281) (ha : cs.data.toList.all (fun b => decide (b.toNat < 128)) = true) :
    Calls Tryz.prog 115 #[.string t, .string cs] w (TrimPost cs.data.toList t w) :=
  (Any.strings_TrimLeft_laid Tryz.lays161 info256 t cs w hc (ascii_of_all ha)).mono fun e w' h => by
    obtain ⟨rfl, hb⟩ := h
    refine ⟨_, rfl, Lib.hid (by simp [off_trim]), ?_, hb⟩
    have := run_len cs.data.toList t.data.toList
    have l : t.data.toList.length = t.size := by simp
    rw [← off_trim]
    show (offOf cs.data.toList t.data.toList).toArray.size ≤ _
    simp only [List.size_toArray]
    omega
def RunPost (cs : List UInt8) (b : Nat) (s : ByteArray) (p : Nat) (w : World) (e : Ending) (w' : World) : Prop :=
  ∃ (u : ByteArray) (q : Nat), p ≤ q ∧ e = .returned (.string u) ∧ u.size ≤ s.size ∧ Hid (u.data.toList = runOf cs (restB s p)) ∧ Hid (restB s q = offOf cs (restB s p)) ∧ RdS w' b s q ∧ w.grownBy w' (some b)
set_option maxHeartbeats 1000000 in
theorem runC (cs : ByteArray) (b : Nat) (s : ByteArray) (p : Nat) (w : World) (h : RdS w b s p) (hs : s.size ≤ 1048576) (hc : cs.size < 4294967281) (ha : cs.data.toList.all (fun b => decide (b.toNat < 128)) = true) :
    Calls Tryz.prog 92 #[.pointer (some ⟨b, 0, none⟩), .string cs] w (RunPost cs.data.toList b s p w) := by
  have H := Lib.hid h
  have y0 := h.text
  have y1 := h.pos
  have hle := h.le
  have T : Hid (∀ t W, Calls Tryz.prog 115 #[.string t, .string cs] W (TrimPost cs.data.toList t W)) := fun t W => trimC cs t W hc ha
  have i1 : (p : Int) ≤ (s.size : Int) := by omega
  have i0 : (0 : Int) ≤ (p : Int) := by omega
  clear h hc ha
  go_enter Tryz.func92, Tryz.ntmps92
  go_wp2_with fail
  go_quiet (fail)
  clear y0 y1
  have hx1 : Hid ((s.extract p s.size).data.toList = restB s p) := by
    refine Lib.hid ?_
    rw [Lib.extract_data, restB, List.take_of_length_le (by simp)]
  have hx2 : Hid ((s.extract p s.size).size = s.size - p) := by
    refine Lib.hid ?_
    rw [ByteArray.size_extract]; omega
  go_wp2_with fail
  generalize s.extract p s.size = t at *
  refine (T.out t _).mono ?_
  rintro e w1 ⟨u, rfl, hu, hul, hb⟩
  have HB : Hid (Below w.heap.size w w1) := (belowN (Below.refl _ _) nq).trans (hb.mono (Nat.le_refl _))
  have HU := Lib.hid hu
  have hR1 := H.out.kept HB.out
  have HR1 := Lib.hid hR1
  have y1 := hR1.pos
  have fz := hR1.fz
  have ht := hx2.out
  have e0 : IntKind.i64.wrap ((t.size : Int) - (u.size : Int)) = ((t.size - u.size : Nat) : Int) := by
    rw [IntWalk.i64_in _ (by omega)]; omega
  have j1 : ((t.size - u.size : Nat) : Int) ≤ (t.size : Int) := by omega
  have j0 : (0 : Int) ≤ ((t.size - u.size : Nat) : Int) := by omega
  clear hu hb hR1
  go_wp2_with fail
  go_ret
  have l1 : t.data.toList.length = t.size := by simp
  have l2 : u.data.toList.length = u.size := by simp
  have l3 := run_len cs.data.toList (restB s p)
  have e1 := HU.out
  rw [hx1.out] at e1 l1
  have l4 : (runOf cs.data.toList (restB s p)).length = s.size - p - u.size := by rw [e1] at l2; omega
  have l5 := run_off cs.data.toList (restB s p)
  have e2 : ((p : Int) + ((s.size - p - u.size : Nat) : Int)) = ((p + (s.size - p - u.size) : Nat) : Int) := by omega
  rw [e2]
  refine ⟨_, p + (s.size - p - u.size), by omega, rfl, by rw [ByteArray.size_extract]; omega, Lib.hid ?_, Lib.hid ?_, HR1.out.moved (by omega), ?_⟩
  · rw [Lib.extract_data, hx1.out, List.drop_zero, Nat.sub_zero, ← l4]
    have := List.take_left (l₁ := runOf cs.data.toList (restB s p)) (l₂ := offOf cs.data.toList (restB s p))
    rwa [l5] at this
  · have : restB s (p + (s.size - p - u.size)) = (restB s p).drop (s.size - p - u.size) := by simp [restB, List.drop_drop]
    rw [this, ← l4]
    have := List.drop_left (l₁ := runOf cs.data.toList (restB s p)) (l₂ := offOf cs.data.toList (restB s p))
    rwa [l5] at this
  · have hw := HB.out
    exact grown_trans ⟨hw.os, hw.tape, hw.output, hw.size, fun i hi _ => hw.block i hi⟩ (grown_set _ _ _)
def figB : ByteArray := ⟨#[45, 48, 49, 50, 51, 52, 53, 54, 55, 56, 57]⟩
def letBs : ByteArray := ⟨#[97, 98, 99, 100, 101, 102, 103, 104, 105, 106, 107, 108, 109, 110, 111, 112, 113, 114, 115, 116, 117, 118, 119, 120, 121, 122]⟩
def RdNumPost (b : Nat) (s : ByteArray) (p : Nat) (w : World) (e : Ending) (w' : World) : Prop :=
  w.grownBy w' (some b) ∧ ((Hid (rdNum (restB s p) = none) ∧ e = Fell) ∨ ∃ (v : Int) (q : Nat), p ≤ q ∧ Hid (rdNum (restB s p) = some (v, restB s q)) ∧ e = .returned (.int .i64 v) ∧ RdS w' b s q)
theorem own_below {w0 w w' : World} {b : Nat} (hB : Below w0.heap.size w0 w) (hb : w0.heap.size ≤ b) (hg : w.grownBy w' (some b)) : Below w0.heap.size w0 w' :=
  hB.grown hg hB.size (fun k e => by cases e; exact hb)
set_option maxHeartbeats 1000000 in
theorem numberC (w0 : World) (b : Nat) (s : ByteArray) (p : Nat) (w : World) (h : RdS w b s p) (hs : s.size ≤ 1048576) (hL : LaidE w0) (hB : Below w0.heap.size w0 w) (hb : w0.heap.size ≤ b) :
    Calls Tryz.prog 93 #[.pointer (some ⟨b, 0, none⟩)] w (RdNumPost b s p w) := by
  have K := Lib.hid (runC figB b s p w h hs (by decide) (by decide))
  have HL := Lib.hid hL
  have HB := Lib.hid hB
  clear h hL hB
  unfold figB at K
  go_enter Tryz.func93, Tryz.ntmps93
  go_wp2_with fail
  refine K.out.mono ?_
  rintro e w1 ⟨u, q, hq, rfl, hul, hu, hr, hR, hg⟩
  have HG := Lib.hid hg
  have HR := Lib.hid hR
  have HU := Lib.hid hu
  have HQ := Lib.hid hr
  have HE := Lib.hid (laidE_stays HL.out (own_below HB.out hb hg))
  have eF : figB.data.toList = figS := rfl
  have HU1 : Hid (u.data.toList = runOf figS (restB s p)) := HU.out.out
  have HQ1 : Hid (restB s q = offOf figS (restB s p)) := HQ.out.out
  clear hu hr hR hg HU HQ eF
  by_cases hok : ∃ v, Lib.atoiAll u.data.toList = .ok v
  · obtain ⟨v, hv⟩ := hok
    have HV := Lib.hid hv
    have A := Lib.hid (atoiGood u v (by omega) hv w1)
    clear hv
    go_wp2_with fail
    refine A.out.mono ?_
    rintro e w2 ⟨rfl, hb2⟩
    have HB2 := Lib.hid hb2
    clear hb2
    go_wp2
    go_ret
    refine ⟨?_, Or.inr ⟨v, q, hq, Lib.hid ?_, rfl, HR.out.kept HB2.out⟩⟩
    · have := HB2.out
      exact grown_trans HG.out ⟨this.os, this.tape, this.output, this.size, fun i hi _ => this.block i hi⟩
    · unfold rdNum; rw [← HU1.out, HV.out, HQ1.out]
  · have HV : Hid (∀ v, Lib.atoiAll u.data.toList ≠ .ok v) := Lib.hid fun v hv => hok ⟨v, hv⟩
    have A := Lib.hid (atoiBad u (by omega) HV.out w1 HE.out)
    clear hok
    go_wp2_with fail
    refine A.out.mono ?_
    rintro e w2 ⟨v, t, x, rfl, hb2⟩
    have HB2 := Lib.hid hb2
    clear hb2
    go_wp2
    refine ⟨rfl, ?_, Or.inl ⟨Lib.hid ?_, rfl⟩⟩
    · have := HB2.out
      exact grown_trans HG.out ⟨this.os, this.tape, this.output, this.size, fun i hi _ => this.block i hi⟩
    · unfold rdNum; rw [← HU1.out]
      split
      · rename_i q1 hq1; exact absurd hq1 (HV.out _)
      · rfl
end Go.Proofs.YtjhgmmcglonokaaGreatDoor
