/-
  The word with which a text begins, as the program finds it; or none.
-/
import Derived.Test.YtifpdamghmlcfaaDoorDoor6
import Derived.Test.YtifpdamghmlcfaaDoorWire
import Derived.Test.YtifpdamghmlcfaaDoorGetMath
namespace Go.Proofs.YtifpdamghmlcfaaDoor
open Go.RowKit
set_option linter.unusedVariables false

def CutPost (t : ByteArray) (w : World) (e : Ending) (w' : World) : Prop := ∃ (F B : ByteArray) (b : Bool), e = .returned (.tuple #[.string F, .string B, .bool b]) ∧ F.size ≤ t.size ∧ B.size ≤ t.size ∧ Hid (Lib.cut t.data.toList [58] = (F.data.toList, B.data.toList, b)) ∧ Drew w w'
theorem cut_le (l s : List UInt8) : (Lib.cut l s).1.length ≤ l.length ∧ (Lib.cut l s).2.1.length ≤ l.length := by
  unfold Lib.cut
  split
  · simp only [List.length_take, List.length_drop]; omega
  · simp
theorem cutS (t : ByteArray) (m : Int) (w : World) (hs : t.size ≤ 1048576) (hm : w.cell? ⟨1, 0, none⟩ = some (.int .i64 m)) :
    Calls Tryd.prog 37 #[.string t, .string ⟨#[58]⟩] w (CutPost t w) :=
  (Tryd.strings_Cut t ⟨#[58]⟩ m w (by omega) hm).mono fun e w' h => by
    obtain ⟨rfl, q, rfl⟩ := h
    have := cut_le t.data.toList [58]
    have e : t.data.toList.length = t.size := by simp
    rw [e] at this
    refine ⟨_, _, _, rfl, ?_, ?_, rfl, q, rfl⟩
    · show (Lib.cut t.data.toList [58]).1.toArray.size ≤ t.size; rw [List.size_toArray]; exact this.1
    · show (Lib.cut t.data.toList [58]).2.1.toArray.size ≤ t.size; rw [List.size_toArray]; exact this.2

def FirstYes (t : ByteArray) (w : World) (e : Ending) (w' : World) : Prop := ∃ x : ByteArray, e = .returned (.tuple #[.string x, .nilIface]) ∧ x.size + 3 ≤ t.size ∧ Hid (Begins t.data.toList x) ∧ Below w.heap.size w w'
def FirstNo (p : Addr) (t : ByteArray) (w : World) (e : Ending) (w' : World) : Prop := e = .returned (.tuple #[.string ⟨#[]⟩, .iface 113 (.pointer (some p))]) ∧ Hid (∀ x, ¬ Begins t.data.toList x) ∧ Below w.heap.size w w'
def FirstPost (p : Addr) (t : ByteArray) (w : World) (e : Ending) (w' : World) : Prop := FirstYes t w e w' ∨ FirstNo p t w e w'

theorem no1 {t F B : ByteArray} {b : Bool} (hs : t.size ≤ 1048576) (hc : Lib.cut t.data.toList [58] = (F.data.toList, B.data.toList, b)) (h : ∀ v, Lib.atoiAll F.data.toList ≠ .ok v) : ∀ x, ¬ Begins t.data.toList x := by
  intro x hx
  have s1 := begins_size hx
  have e : t.data.toList.length = t.size := by simp
  obtain ⟨r, e1, -⟩ := begins_cut hx
  rw [e1] at hc
  have e2 : Lib.decDigits x.size = F.data.toList := congrArg Prod.fst hc
  exact h _ (by rw [← e2]; exact atoi_digits x.size (by omega))
theorem no2 {t F B : ByteArray} {b : Bool} {v : Int} (hs : t.size ≤ 1048576) (hc : Lib.cut t.data.toList [58] = (F.data.toList, B.data.toList, b)) (h : Lib.atoiAll F.data.toList = .ok v) : ∀ x, Begins t.data.toList x → v = x.size ∧ ∃ r, B.data.toList = x.data.toList ++ 44 :: r := by
  intro x hx
  have s1 := begins_size hx
  have e : t.data.toList.length = t.size := by simp
  obtain ⟨r, e1, -⟩ := begins_cut hx
  rw [e1] at hc
  have e2 : Lib.decDigits x.size = F.data.toList := congrArg Prod.fst hc
  have e3 : x.data.toList ++ 44 :: r = B.data.toList := congrArg (fun p => p.2.1) hc
  rw [← e2, atoi_digits x.size (by omega)] at h
  cases h
  exact ⟨rfl, r, e3.symm⟩
theorem no3 {t F B : ByteArray} {b : Bool} {v : Int} (hs : t.size ≤ 1048576) (hc : Lib.cut t.data.toList [58] = (F.data.toList, B.data.toList, b)) (h : Lib.atoiAll F.data.toList = .ok v) (hv : v < 0 ∨ (B.size : Int) < v) : ∀ x, ¬ Begins t.data.toList x := by
  intro x hx
  obtain ⟨rfl, r, e⟩ := no2 hs hc h x hx
  have := congrArg List.length e
  simp at this
  omega
theorem no4 {t F B : ByteArray} {b : Bool} {n : Nat} {u : ByteArray} (hs : t.size ≤ 1048576) (hc : Lib.cut t.data.toList [58] = (F.data.toList, B.data.toList, b)) (h : Lib.atoiAll F.data.toList = .ok (n : Int)) (hn : n ≤ B.size) (hu : u = ⟨(wire1 (B.extract 0 n)).toArray⟩) (hp : Lib.hasPrefix t.data.toList u.data.toList = false) : ∀ x, ¬ Begins t.data.toList x := by
  intro x hx
  obtain ⟨e0, r, e⟩ := no2 hs hc h x hx
  have en : n = x.size := by omega
  have ex : B.extract 0 n = x := by
    apply ByteArray.ext
    apply Array.ext'
    rw [Lib.extract_data, e, en]
    simp
  rw [hu, ex] at hp
  have : (wire1 x).isPrefixOf t.data.toList = true := List.isPrefixOf_iff_prefix.2 hx
  unfold Lib.hasPrefix at hp
  rw [show (⟨(wire1 x).toArray⟩ : ByteArray).data.toList = wire1 x from by simp] at hp
  rw [this] at hp; cases hp
theorem yes1 {t u x : ByteArray} (hu : u = ⟨(wire1 x).toArray⟩) (hp : Lib.hasPrefix t.data.toList u.data.toList = true) : Begins t.data.toList x := by
  rw [hu] at hp
  unfold Lib.hasPrefix at hp
  rw [show (⟨(wire1 x).toArray⟩ : ByteArray).data.toList = wire1 x from by simp] at hp
  exact List.isPrefixOf_iff_prefix.1 hp

theorem drew_bel {w w' w'' : World} (h : Drew w w') (k : Below w'.heap.size w' w'') : Below w.heap.size w w'' := (drew_below h).trans (k.mono (drew_below (B := w.heap.size) h).size)

set_option maxHeartbeats 2000000 in
theorem first (p : Addr) (t : ByteArray) (w : World) (hs : t.size ≤ 1048576) (hL : LaidW p w) :
    Calls Tryd.prog 31 #[.string t] w (FirstPost p t w) := by
  obtain ⟨m, hm⟩ := hL.2.2
  have hgl : ∀ w', Below w.heap.size w w' → w'.cell? ⟨0, 0, none⟩ = some (.iface 113 (.pointer (some p))) := fun w' hb => laidW_cell (laidW_stays hL hb)
  have Hgl := Lib.hid hgl
  clear hgl
  go_enter Tryd.func31, Tryd.ntmps31
  go_wp2_with fail
  refine (cutS t m _ hs hm).mono ?_
  rintro e w1 ⟨F, B, b, rfl, hF, hB, hc, hd⟩
  have hb1 : Below w.heap.size w w1 := drew_below hd
  have hL1 := laidW_stays hL hb1
  clear hd hm
  go_wp2_with fail
  by_cases hex : ∃ v, Lib.atoiAll F.data.toList = .ok v
  · obtain ⟨v, hv⟩ := hex
    have Hv := Lib.hid hv
    clear hv
    refine (atoiGood F v (by omega) Hv.out _).mono ?_
    rintro e w2 ⟨rfl, hb2⟩
    have hbw2 : Below w.heap.size w w2 := hb1.trans (hb2.mono hb1.size)
    have g2 := Hgl.out w2 hbw2
    rcases Int.lt_or_le v 0 with c1 | c1
    · go_wp2_with fail
      go_quiet (fail)
      go_wp2
      go_ret2
      exact Or.inr ⟨rfl, no3 hs hc.out Hv.out (Or.inl c1), belowN hbw2 _⟩
    obtain ⟨n, rfl⟩ := Int.eq_ofNat_of_zero_le c1
    rcases Nat.lt_or_ge B.size n with c2 | c2
    · go_wp2_with fail
      go_quiet (fail)
      go_wp2
      go_ret2
      exact Or.inr ⟨rfl, no3 hs hc.out Hv.out (Or.inr (by omega)), belowN hbw2 _⟩
    have hL2 := (laidW_stays hL hbw2).1.1
    have hx : (B.extract 0 n).size ≤ 1048576 := by rw [ByteArray.size_extract]; omega
    go_wp2_with fail
    refine (wordS (B.extract 0 n) _ hx hL2).mono ?_
    rintro e w3 ⟨u, rfl, huz, hu, hb3, hL3⟩
    have hbw3 : Below w.heap.size w w3 := hbw2.trans (hb3.mono hbw2.size)
    have g3 := Hgl.out w3 hbw3
    go_wp2_with fail
    refine (Tryd.strings_HasPrefix t u _).mono ?_
    rintro e w' ⟨rfl, rfl⟩
    generalize hp : Lib.hasPrefix t.data.toList u.data.toList = hpb
    have Hp := Lib.hid hp
    clear hp
    cases hpb with
    | true =>
      go_wp2
      go_ret2
      have hbeg := yes1 hu.out Hp.out
      refine Or.inl ⟨_, rfl, ?_, hbeg, hbw3⟩
      have := begins_size hbeg
      simpa using this
    | false =>
      go_wp2_with fail
      go_quiet (fail)
      go_wp2
      go_ret2
      exact Or.inr ⟨rfl, no4 hs hc.out Hv.out c2 hu.out Hp.out, belowN hbw3 _⟩
  · have Hex : Hid (∀ v, Lib.atoiAll F.data.toList ≠ .ok v) := fun v hv => hex ⟨v, hv⟩
    clear hex
    refine (atoiBad F (by omega) Hex.out _ hL1.1).mono ?_
    rintro e w2 ⟨v, ty, q, rfl, hb2⟩
    have hbw2 : Below w.heap.size w w2 := hb1.trans (hb2.mono hb1.size)
    have g2 := Hgl.out w2 hbw2
    go_wp2_with fail
    go_quiet (fail)
    go_wp2
    go_ret2
    exact Or.inr ⟨rfl, no1 hs hc.out Hex.out, belowN hbw2 _⟩
end Go.Proofs.YtifpdamghmlcfaaDoor
