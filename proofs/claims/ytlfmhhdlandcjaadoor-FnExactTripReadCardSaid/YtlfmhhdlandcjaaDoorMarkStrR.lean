/-
  Lists of texts that are marked, and held against their marks.
-/
import Derived.Test.YtlfmhhdlandcjaaDoorDecN
import Derived.Test.YtlfmhhdlandcjaaDoorStrs
namespace Go.Proofs.YtlfmhhdlandcjaaDoor
open Go.RowKit
set_option linter.unusedVariables false

def mkS (k : Nat) : ByteArray := ⟨(109 :: Lib.decDigits k).toArray⟩
def headD (n : Nat) : List UInt8 := if n = 0 then [] else Lib.decDigits n
theorem headD_step {n : Nat} (h : 0 < n) : headD n = headD (n / 10) ++ [UInt8.ofNat (48 + n % 10)] := by
  unfold headD
  rw [if_neg (by omega), Lib.decDigits.eq_1 n]
  by_cases h10 : n < 10
  · rw [dif_pos h10, if_pos (by omega)]; congr 2; omega
  · rw [dif_neg h10, if_neg (by omega)]
theorem mk_next {n k : Nat} {s : ByteArray} (h : 0 < n) (hs : headD n ++ s.data.toList = Lib.decDigits k) : headD (n / 10) ++ ((⟨#[48 + UInt8.ofNat (n % 10)]⟩ : ByteArray) ++ s).data.toList = Lib.decDigits k := by
  rw [headD_step h, List.append_assoc] at hs
  rw [← hs]
  simp
theorem size_list (s : ByteArray) : s.data.toList.length = s.size := by simp

set_option maxHeartbeats 1000000 in
theorem markTextS (k : Nat) (w : World) (h1 : 1 ≤ k) (h2 : k ≤ 1000000000000) :
    Calls Tryd.prog 61 #[.int .i64 k] w fun e w' => e = .returned (.string (mkS k)) ∧ Below w.heap.size w w' := by
  have Hl := Lib.hid (dec_len k (by omega))
  have k0 : (0 : Int) < k := by omega
  go_enter Tryd.func61, Tryd.ntmps61
  go_wp2_with fail
  go_loopw [3, 0] (fun o i wr => ∃ (n : Nat) (s : ByteArray), i = .int .i64 n ∧ n ≤ k ∧ o = .string s ∧ s.size ≤ 20 ∧ Hid (headD n ++ s.data.toList = Lib.decDigits k) ∧ Below w.heap.size w wr) (fun _ i _ => (intOf i).toNat)
  case atStart => exact ⟨k, ⟨#[]⟩, rfl, Nat.le_refl _, rfl, by decide, by simp [Hid, headD]; omega, Below.refl _ _⟩
  case round =>
    obtain ⟨n, s, rfl, hn, rfl, hsz, hs, hb⟩ := hrel
    rcases Nat.eq_zero_or_pos n with c | c
    · subst c
      go_wp2
      go_ret
      refine ⟨retS ?_, hb⟩
      have := hs.out
      simp only [headD, if_true, List.nil_append] at this
      apply ByteArray.ext
      apply Array.ext'
      simp [mkS, ← this]
    · have cv := conv1
      have cb := isByte_u8
      have cs := byteStr_u8
      have c0 : (0 : Int) < n := by omega
      have q1 : IntKind.i64.wrap ((n : Int) / 10) = (n : Int) / 10 := IntWalk.i64_in _ (by omega)
      have q0 : (n : Int).tmod 10 = (n : Int) % 10 := rfl
      have q2 : IntKind.i64.wrap (48 + (n : Int) % 10) = 48 + (n : Int) % 10 := IntWalk.i64_in _ (by omega)
      have q3 : IntKind.u8.wrap (48 + (n : Int) % 10) = 48 + (n : Int) % 10 := IntWalk.u8_in _ (by omega)
      have hm := mk_next c hs.out
      have Hm := Lib.hid hm
      have hz2 : ((⟨#[48 + UInt8.ofNat (n % 10)]⟩ : ByteArray) ++ s).size ≤ 20 := by
        have := congrArg List.length hm
        have h3 := Hl.out
        rw [List.length_append, size_list] at this
        omega
      have Hz2 := Lib.hid hz2
      clear hm hz2
      go_wp2
      go_roundw
      case rel => exact ⟨n / 10, _, by go_num, by omega, rfl, Hz2.out, Hm.out, hb.alloc hb.size _⟩
      case measure => simp [intOf]; omega

/-- A list of texts of its own: its cells can be written. -/
def StrsW (B : Nat) (w : World) (a : Option Addr) (len : Nat) : Prop :=
  len = 0 ∨ ∃ g, a = some ⟨g, 0, none⟩ ∧ B ≤ g ∧ g < w.heap.size ∧ ∀ i, i < len → (∃ u, w.cell? ⟨g, i, none⟩ = some (.string u)) ∧ w.frozen? ⟨g, i, none⟩ = false
def Marked (w : World) (g len k0 : Nat) : Prop := ∀ i, i < len → w.cell? ⟨g, i, none⟩ = some (.string (mkS (k0 + i)))
def MarkSt (B : Nat) (a : Option Addr) (len k0 : Nat) (w : World) (e : Ending) (w' : World) : Prop :=
  e = .returned (.int .i64 ((k0 : Int) + len)) ∧ (len = 0 ∧ w' = w ∨ ∃ g, a = some ⟨g, 0, none⟩ ∧ B ≤ g ∧ g < w.heap.size ∧ w.grownBy w' (some g) ∧ Marked w' g len k0)
theorem below_grownM {w w' : World} (h : Below w.heap.size w w') (row : Option Nat) : w.grownBy w' row := ⟨h.os, h.tape, h.output, h.size, fun k hk _ => h.block k hk⟩

set_option maxHeartbeats 2000000 in
theorem markStrs (B : Nat) (a : Option Addr) (len cap k0 : Nat) (w : World) (h : StrsW B w a len) (hl : len ≤ 1048576) (h0 : 1 ≤ k0) (h1 : k0 ≤ 1048576) :
    Calls Tryd.prog 38 #[.slice a len cap, .int .i64 k0] w (MarkSt B a len k0 w) := by
  rcases h with h | ⟨g, rfl, hB, hg, hc⟩
  · have hle : len ≤ 0 := by omega
    have hpost : MarkSt B a len k0 w (.returned (.int .i64 k0)) w := ⟨by rw [h]; simp, Or.inl ⟨h, rfl⟩⟩
    have HP := Lib.hid hpost
    clear h hpost
    go_enter Tryd.func38, Tryd.ntmps38
    go_wp2_with fail
    go_loopw [5, 1] (fun i v wr => i = .int .i64 0 ∧ v = .int .i64 k0 ∧ wr = w) (fun i _ _ => 0)
    case atStart => exact ⟨rfl, rfl, rfl⟩
    case round =>
      obtain ⟨rfl, rfl, rfl⟩ := hrel
      go_wp2
      go_ret
      exact HP.out
  · have Hc := Lib.hid hc
    clear hc
    go_enter Tryd.func38, Tryd.ntmps38
    go_wp2_with fail
    go_loopw [5, 1] (fun i v wr => ∃ k : Nat, k ≤ len ∧ i = .int .i64 k ∧ v = .int .i64 ((k0 + k : Nat) : Int) ∧ w.grownBy wr (some g) ∧ g < wr.heap.size ∧ Hid (∀ i, i < len → (∃ u, wr.cell? ⟨g, i, none⟩ = some (.string u)) ∧ wr.frozen? ⟨g, i, none⟩ = false) ∧ Hid (Marked wr g k k0)) (fun i _ _ => len - (intOf i).toNat)
    case atStart => exact ⟨0, Nat.zero_le _, rfl, rfl, grownN w 0 _, hg, Hc.out, fun i hi => by omega⟩
    case round =>
      obtain ⟨k, hk, rfl, rfl, hgr, hgs, hf, hm⟩ := hrel
      rcases Nat.lt_or_ge k len with hlt | hge
      · go_wp2_with fail
        refine (markTextS (k0 + k) _ (by omega) (by omega)).mono ?_
        rintro e w2 ⟨rfl, hb2⟩
        obtain ⟨⟨u, c1⟩, f1⟩ := hf.out k hlt
        have c2 : w2.cell? ⟨g, k, none⟩ = some (.string u) := (hb2.cell (p := ⟨g, k, none⟩) hgs).trans c1
        have hcell : ∀ i, w2.cell? ⟨g, i, none⟩ = wr.cell? ⟨g, i, none⟩ := fun i => hb2.cell (p := ⟨g, i, none⟩) hgs
        have hfroz : ∀ i, w2.frozen? ⟨g, i, none⟩ = wr.frozen? ⟨g, i, none⟩ := fun i => World.frozen?_of_block (a := ⟨g, i, none⟩) (hb2.block g hgs)
        have f2 : w2.frozen? ⟨g, k, none⟩ = false := (hfroz k).trans f1
        have Hcell := Lib.hid hcell
        have Hfroz := Lib.hid hfroz
        clear hcell hfroz c1 f1
        go_wp2
        go_roundw
        case rel =>
          refine ⟨k + 1, by omega, by go_num, by go_num, grown_trans hgr (grown_trans (below_grownM hb2 _) (grown_set w2 ⟨g, k, none⟩ _)), by have := hb2.size; simp [go_sem]; omega, fun i hi => ?_, fun i hi => ?_⟩
          · obtain ⟨⟨u', c'⟩, f'⟩ := hf.out i hi
            rw [← Hcell.out] at c'
            rw [← Hfroz.out] at f'
            refine ⟨?_, by simpa [go_sem] using f'⟩
            by_cases e : i = k
            · subst e; exact ⟨mkS (k0 + i), by simp [go_sem, c2]⟩
            · exact ⟨u', by simp [go_sem, c']; try omega⟩
          · by_cases e : i = k
            · subst e; simp [go_sem, c2]
            · have := hm.out i (by omega)
              rw [← Hcell.out] at this
              simp [go_sem, this]; try omega
        case measure => simp [intOf]; omega
      · obtain rfl : k = len := by omega
        go_wp2
        go_ret
        exact ⟨by congr 2, Or.inr ⟨g, rfl, hB, hg, hgr, hm.out⟩⟩

set_option maxHeartbeats 2000000 in
theorem heldStrs (a : Option Addr) (len cap k0 : Nat) (w : World) (h : len = 0 ∨ ∃ g, a = some ⟨g, 0, none⟩ ∧ g < w.heap.size ∧ Marked w g len k0) (hl : len ≤ 1048576) (h0 : 1 ≤ k0) (h1 : k0 ≤ 1048576) :
    Calls Tryd.prog 39 #[.slice a len cap, .int .i64 k0] w fun e w' => e = .returned (.int .i64 ((k0 : Int) + len)) ∧ Below w.heap.size w w' := by
  go_enter Tryd.func39, Tryd.ntmps39
  go_wp2_with fail
  go_loopw [5, 1] (fun i v wr => ∃ k : Nat, k ≤ len ∧ i = .int .i64 k ∧ v = .int .i64 ((k0 + k : Nat) : Int) ∧ Below w.heap.size w wr) (fun i _ _ => len - (intOf i).toNat)
  case atStart => exact ⟨0, Nat.zero_le _, rfl, rfl, Below.refl _ _⟩
  case round =>
    obtain ⟨k, hk, rfl, rfl, hb⟩ := hrel
    rcases Nat.lt_or_ge k len with hlt | hge
    · rcases h with hc | ⟨g, rfl, hg, hm⟩
      · omega
      have c1 : wr.cell? ⟨g, k, none⟩ = some (.string (mkS (k0 + k))) := (hb.cell (p := ⟨g, k, none⟩) hg).trans (hm k hlt)
      have hgr : g < wr.heap.size := Nat.lt_of_lt_of_le hg hb.size
      have k1 : (k : Int) < len := by omega
      have k0' : (0 : Int) ≤ k := by omega
      have Hm := Lib.hid hm
      clear hm
      generalize hS : mkS (k0 + k) = s at *
      have HS := Lib.hid hS
      clear hS
      go_wp2_with fail
      go_region_with (go_at_call 61; refine (markTextS (k0 + k) _ ?_ ?_).mono ?_; omega; omega; rintro e w2 ⟨rfl, hb2⟩; rw [HS.out]; have c2 := hb2.cell (p := ⟨g, k, none⟩) hgr)
      all_goals
        go_wp2
        go_roundw
        case rel => exact ⟨k + 1, by omega, by go_num, by go_num, hb.trans ((bd hb2).mono hb.size)⟩
        case measure => simp [intOf]; omega
    · obtain rfl : k = len := by omega
      go_wp2
      go_ret
      exact ⟨by congr 2, hb⟩
end Go.Proofs.YtlfmhhdlandcjaaDoor
