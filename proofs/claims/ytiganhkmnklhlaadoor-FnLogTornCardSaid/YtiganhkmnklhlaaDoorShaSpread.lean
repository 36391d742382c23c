/-
  The words of a block, by the program.
-/
import Derived.Test.YtiganhkmnklhlaaDoorShaRound
import Derived.Deep.RegionWith
import Derived.BigRegion
namespace Go.Proofs.YtiganhkmnklhlaaDoor
open Go.RowKit
set_option linter.unusedVariables false

def byteAt (t : List UInt8) (i : Nat) : Int := ((t.getD i 0).toNat : Int)
theorem byte_at (t : ByteArray) (i : Nat) (h : i < t.size) : ((t[i]'h).toNat : Int) = byteAt t.data.toList i := by
  have : t.data.toList.getD i 0 = t[i] := by
    rw [List.getD_eq_getElem?_getD, List.getElem?_eq_getElem (by simpa using h)]; rfl
  rw [byteAt, this]

def zeros64 : Array Value := #[.int .u32 0, .int .u32 0, .int .u32 0, .int .u32 0, .int .u32 0, .int .u32 0, .int .u32 0, .int .u32 0, .int .u32 0, .int .u32 0, .int .u32 0, .int .u32 0, .int .u32 0, .int .u32 0, .int .u32 0, .int .u32 0, .int .u32 0, .int .u32 0, .int .u32 0, .int .u32 0, .int .u32 0, .int .u32 0, .int .u32 0, .int .u32 0, .int .u32 0, .int .u32 0, .int .u32 0, .int .u32 0, .int .u32 0, .int .u32 0, .int .u32 0, .int .u32 0, .int .u32 0, .int .u32 0, .int .u32 0, .int .u32 0, .int .u32 0, .int .u32 0, .int .u32 0, .int .u32 0, .int .u32 0, .int .u32 0, .int .u32 0, .int .u32 0, .int .u32 0, .int .u32 0, .int .u32 0, .int .u32 0, .int .u32 0, .int .u32 0, .int .u32 0, .int .u32 0, .int .u32 0, .int .u32 0, .int .u32 0, .int .u32 0, .int .u32 0, .int .u32 0, .int .u32 0, .int .u32 0, .int .u32 0, .int .u32 0, .int .u32 0, .int .u32 0]
theorem zeros_at (i : Nat) (h : i < 64) : zeros64[i]? = some (.int .u32 0) := by
  have e : zeros64 = Array.replicate 64 (.int .u32 0) := rfl
  rw [e, Array.getElem?_replicate, if_pos h]
def w4 (x0 x1 x2 x3 : Int) : Int := bits .or .u32 (bits .or .u32 (bits .or .u32 (x0 % 4294967296 * 16777216 % 4294967296) (x1 % 4294967296 * 65536 % 4294967296)) (x2 % 4294967296 * 256 % 4294967296)) (x3 % 4294967296)
def w16 (b : List UInt8) (i : Nat) : Int := w4 (byteAt b (4 * i)) (byteAt b (4 * i + 1)) (byteAt b (4 * i + 2)) (byteAt b (4 * i + 3))
def mixFar (x : Int) : Int := bits .xor .u32 (bits .xor .u32 (rotr 128 33554432 x) (rotr 262144 16384 x)) (x / 8)
def mixNear (x : Int) : Int := bits .xor .u32 (bits .xor .u32 (rotr 131072 32768 x) (rotr 524288 8192 x)) (x / 1024)
def nextW (l : List Int) : Int := (l.getD (l.length - 16) 0 + mixFar (l.getD (l.length - 15) 0) + l.getD (l.length - 7) 0 + mixNear (l.getD (l.length - 2) 0)) % 4294967296
def wordsL (b : List UInt8) : Nat → List Int
  | 0 => (List.range 16).map (w16 b)
  | n + 1 => wordsL b n ++ [nextW (wordsL b n)]
theorem words_len (b : List UInt8) (n : Nat) : (wordsL b n).length = 16 + n := by
  induction n with
  | zero => simp [wordsL]
  | succ n ih => simp [wordsL, ih]; omega
theorem words_first (b : List UInt8) {j : Nat} (h : j < 16) : (wordsL b 0).getD j 0 = w16 b j := by
  simp [wordsL, List.getD_eq_getElem?_getD, h]
theorem words_old (b : List UInt8) (n : Nat) {j : Nat} (h : j < 16 + n) : (wordsL b (n + 1)).getD j 0 = (wordsL b n).getD j 0 := by
  have hl := words_len b n
  rw [wordsL, List.getD_eq_getElem?_getD, List.getD_eq_getElem?_getD, List.getElem?_append_left (by omega)]
theorem words_new (b : List UInt8) (n : Nat) : (wordsL b (n + 1)).getD (16 + n) 0 = nextW (wordsL b n) := by
  have hl := words_len b n
  rw [wordsL, List.getD_eq_getElem?_getD, List.getElem?_append_right (by omega), hl]; simp

theorem grown_row (w : World) (g : Nat) (cs : Array Value) : w.grownBy (w.setRow g cs) (some g) := by
  refine ⟨rfl, rfl, rfl, by simp [World.setRow], fun i hi hr => ?_⟩
  have hne : ¬ g = i := fun e => hr (by rw [e])
  simp [World.setRow, Array.getElem?_modify, hne]
def SpreadPost (t : List UInt8) (w : World) (e : Ending) (w' : World) : Prop := ∃ cs : Array Value, e = .returned (.agg cs) ∧ cs.size = 64 ∧ (∀ j, j < 64 → cs[j]? = some (.int .u32 ((wordsL t 48).getD j 0))) ∧ Below w.heap.size w w'
theorem size64 : (Tryd.prog.info? 109).map (·.size) = some 64 := by kernel_rfl

set_option maxRecDepth 100000 in
set_option maxHeartbeats 8000000 in
theorem spreadS (t : ByteArray) (w : World) (hs : t.size = 64) :
    Calls Tryd.prog 74 #[.string t] w (SpreadPost t.data.toList w) := by
  go_enter Tryd.func74, Tryd.ntmps74
  go_wp2_with fail
  have hz : ∀ w1 : World, (w1.alloc (.cells zeros64 109)).rowIs w1.heap.size 109 64 (fun _ => .int .u32 0) := fun w1 => World.rowIs_alloc w1 zeros64 _ _ (fun i hi => zeros_at i (by simpa [zeros64] using hi))
  have r0 := (hz w).alloc (.cells zeros64 109)
  have r1 := hz (w.alloc (.cells zeros64 109))
  rw [World.size_alloc] at r1
  have hb0 : Below w.heap.size w ((w.alloc (.cells zeros64 109)).alloc (.cells zeros64 109)) := ((Below.refl _ w).alloc (Nat.le_refl _) _).alloc (by simp) _
  clear hz
  have Hs := Lib.hid hs
  go_loopw [11] (fun i wr => ∃ k : Nat, i = .int .i64 k ∧ k ≤ 16 ∧ wr.rowIs (w.heap.size + 1) 109 64 (fun j => .int .u32 (if j < k then w16 t.data.toList j else 0)) ∧ wr.rowIs w.heap.size 109 64 (fun _ => .int .u32 0) ∧ Below w.heap.size w wr) (fun i _ => 16 - (intOf i).toNat)
  case atStart => exact ⟨0, rfl, by omega, r1.congr (fun i hi => by simp), r0, hb0⟩
  case round =>
    clear r0 r1 hb0
    obtain ⟨k, rfl, hk, hr, hr0, hb⟩ := hrel
    rcases Nat.lt_or_ge k 16 with hlt | hge
    · obtain ⟨m, hm⟩ : ∃ m : Nat, m = 4 * k := ⟨_, rfl⟩
      obtain ⟨m1, hm1⟩ : ∃ m1 : Nat, m1 = 4 * k + 1 := ⟨_, rfl⟩
      obtain ⟨m2, hm2⟩ : ∃ m2 : Nat, m2 = 4 * k + 2 := ⟨_, rfl⟩
      obtain ⟨m3, hm3⟩ : ∃ m3 : Nat, m3 = 4 * k + 3 := ⟨_, rfl⟩
      have j0 : m < t.size := by omega
      have j1 : m1 < t.size := by omega
      have j2 : m2 < t.size := by omega
      have j3 : m3 < t.size := by omega
      have i0 : (m : Int) < (t.size : Int) := by omega
      have i1 : (m1 : Int) < (t.size : Int) := by omega
      have i2 : (m2 : Int) < (t.size : Int) := by omega
      have i3 : (m3 : Int) < (t.size : Int) := by omega
      have q0 : IntKind.i64.wrap (4 * (k : Int)) = (m : Int) := by rw [IntWalk.i64_in _ (by omega)]; omega
      have q1 : IntKind.i64.wrap ((m : Int) + 1) = (m1 : Int) := by rw [IntWalk.i64_in _ (by omega)]; omega
      have q2 : IntKind.i64.wrap ((m : Int) + 2) = (m2 : Int) := by rw [IntWalk.i64_in _ (by omega)]; omega
      have q3 : IntKind.i64.wrap ((m : Int) + 3) = (m3 : Int) := by rw [IntWalk.i64_in _ (by omega)]; omega
      have b0 := byte_at t m j0
      have b1 := byte_at t m1 j1
      have b2 := byte_at t m2 j2
      have b3 := byte_at t m3 j3
      have Hm := Lib.hid (And.intro hm (And.intro hm1 (And.intro hm2 hm3)))
      clear hm hm1 hm2 hm3
      have Hb := Lib.hid hb
      have Hr0 := Lib.hid hr0
      have Hr := Lib.hid hr
      have c1 := hr.cell (i := k) (by omega)
      have f1 := hr.frozen k
      clear hb hr0 hr
      go_wp2_with fail
      go_region
      go_wp2
      go_roundw
      case rel =>
        refine ⟨k + 1, by go_num, by omega, ((Hr.out.set k _).drew).congr (fun j hj => ?_), (Hr0.out.setOther (by simp) _).drew, (Hb.out.setCell (p := ⟨w.heap.size + 1, k, none⟩) (Nat.le_succ _) _).drew⟩
        obtain ⟨rfl, rfl, rfl, rfl⟩ := Hm.out
        by_cases e : j = k
        · subst e
          rw [if_pos rfl, if_pos (Nat.lt_succ_self _)]; rfl
        · rw [if_neg e]
          by_cases e2 : j < k
          · rw [if_pos e2, if_pos (by omega)]
          · rw [if_neg e2, if_neg (by omega)]
      case measure => simp [intOf]; omega
    · have hrw : wr.rowIs (w.heap.size + 1) 109 64 (fun j => .int .u32 (if j < 16 then (wordsL t.data.toList 0).getD j 0 else 0)) := hr.congr (fun j hj => by
        obtain rfl : k = 16 := by omega
        by_cases e : j < 16
        · rw [if_pos e, if_pos e, words_first _ e]
        · rw [if_neg e, if_neg e])
      clear hr
      have hge' : ¬ ((k : Int) < 16) := by omega
      go_wp2_with fail
      clear hge hk hge'
      generalize hwx : wr = wx at *
      clear hwx
      go_loopw [6] (fun i wr => ∃ n : Nat, i = .int .i64 ((16 + n : Nat) : Int) ∧ n ≤ 48 ∧ wr.rowIs (w.heap.size + 1) 109 64 (fun j => .int .u32 (if j < 16 + n then (wordsL t.data.toList n).getD j 0 else 0)) ∧ wr.rowIs w.heap.size 109 64 (fun _ => .int .u32 0) ∧ Below w.heap.size w wr) (fun i _ => 64 - (intOf i).toNat)
      case atStart => exact ⟨0, rfl, by omega, hrw, hr0, hb⟩
      case round =>
        clear hrw hr0 hb
        obtain ⟨n, rfl, hn, hr, hr0, hb⟩ := hrel
        obtain ⟨k, hk⟩ : ∃ k : Nat, k = 16 + n := ⟨_, rfl⟩
        rw [← hk]
        rw [← hk] at hr
        have Hb := Lib.hid hb
        have Hr0 := Lib.hid hr0
        have Hr := Lib.hid hr
        rcases Nat.lt_or_ge k 64 with hlt | hge
        · obtain ⟨m1, hm1⟩ : ∃ m : Nat, m = k - 15 := ⟨_, rfl⟩
          obtain ⟨m2, hm2⟩ : ∃ m : Nat, m = k - 2 := ⟨_, rfl⟩
          obtain ⟨m3, hm3⟩ : ∃ m : Nat, m = k - 16 := ⟨_, rfl⟩
          obtain ⟨m4, hm4⟩ : ∃ m : Nat, m = k - 7 := ⟨_, rfl⟩
          have q1 : IntKind.i64.wrap ((k : Int) - 15) = (m1 : Int) := by rw [IntWalk.i64_in _ (by omega)]; omega
          have q2 : IntKind.i64.wrap ((k : Int) - 2) = (m2 : Int) := by rw [IntWalk.i64_in _ (by omega)]; omega
          have q3 : IntKind.i64.wrap ((k : Int) - 16) = (m3 : Int) := by rw [IntWalk.i64_in _ (by omega)]; omega
          have q4 : IntKind.i64.wrap ((k : Int) - 7) = (m4 : Int) := by rw [IntWalk.i64_in _ (by omega)]; omega
          have c1 : wr.cell? ⟨w.heap.size + 1, m1, none⟩ = some (.int .u32 ((wordsL t.data.toList n).getD m1 0)) := by have := hr.cell (i := m1) (by omega); rwa [if_pos (by omega)] at this
          have c2 : wr.cell? ⟨w.heap.size + 1, m2, none⟩ = some (.int .u32 ((wordsL t.data.toList n).getD m2 0)) := by have := hr.cell (i := m2) (by omega); rwa [if_pos (by omega)] at this
          have c3 : wr.cell? ⟨w.heap.size + 1, m3, none⟩ = some (.int .u32 ((wordsL t.data.toList n).getD m3 0)) := by have := hr.cell (i := m3) (by omega); rwa [if_pos (by omega)] at this
          have c4 : wr.cell? ⟨w.heap.size + 1, m4, none⟩ = some (.int .u32 ((wordsL t.data.toList n).getD m4 0)) := by have := hr.cell (i := m4) (by omega); rwa [if_pos (by omega)] at this
          have c5 : wr.cell? ⟨w.heap.size + 1, k, none⟩ = some (.int .u32 0) := by have := hr.cell (i := k) (by omega); rwa [if_neg (by omega)] at this
          have f5 := hr.frozen k
          have d1 : (m1 : Int) < 64 := by omega
          have d2 : (m2 : Int) < 64 := by omega
          have d3 : (m3 : Int) < 64 := by omega
          have d4 : (m4 : Int) < 64 := by omega
          have d5 : (k : Int) < 64 := by omega
          have hv : nextW (wordsL t.data.toList n) = ((wordsL t.data.toList n).getD m3 0 + mixFar ((wordsL t.data.toList n).getD m1 0) + (wordsL t.data.toList n).getD m4 0 + mixNear ((wordsL t.data.toList n).getD m2 0)) % 4294967296 := by
            have := words_len t.data.toList n
            rw [nextW, this, ← hk, ← hm1, ← hm2, ← hm3, ← hm4]
          have Hv := Lib.hid hv
          have Hk := Lib.hid hk
          clear hv hr hr0 hb hm1 hm2 hm3 hm4 hk
          generalize (wordsL t.data.toList n).getD m1 0 = v1 at *
          generalize (wordsL t.data.toList n).getD m2 0 = v2 at *
          generalize (wordsL t.data.toList n).getD m3 0 = v3 at *
          generalize (wordsL t.data.toList n).getD m4 0 = v4 at *
          go_wp2_with fail
          go_quiet (fail)
          go_wp2_with fail
          refine (rl7 v1 _).mono ?_
          rintro e1 w1 ⟨rfl, rfl⟩
          go_wp2_with fail
          refine (rl18 v1 _).mono ?_
          rintro e1 w1 ⟨rfl, rfl⟩
          go_wp2_with fail
          refine (rl17 v2 _).mono ?_
          rintro e1 w1 ⟨rfl, rfl⟩
          go_wp2_with fail
          refine (rl19 v2 _).mono ?_
          rintro e1 w1 ⟨rfl, rfl⟩
          go_wp2_with fail
          go_region
          go_wp2
          go_roundw
          case rel =>
            refine ⟨n + 1, by rw [show ((16 + (n + 1) : Nat) : Int) = (k : Int) + 1 from by have := Hk.out; omega], by have := Hk.out; omega, (World.rowIs.drew (World.rowIs.set (by exact Hr.out) k _)).congr (fun j hj => ?_), World.rowIs.drew (World.rowIs.setOther (by exact Hr0.out) (by simp) _), (belowN Hb.out _).setCell (p := ⟨w.heap.size + 1, k, none⟩) (Nat.le_succ _) _⟩
            by_cases e : j = k
            · subst e
              have e3 := words_new t.data.toList n
              rw [← Hk.out] at e3
              rw [if_pos rfl, if_pos (by have := Hk.out; omega), e3, Hv.out]; rfl
            · rw [if_neg e]
              by_cases e2 : j < k
              · rw [if_pos e2, if_pos (by have := Hk.out; omega), words_old _ _ (by have := Hk.out; omega)]
              · rw [if_neg e2, if_neg (by have := Hk.out; omega)]
          case measure => simp [intOf]; have := Hk.out; omega
        · obtain rfl : k = 64 := by omega
          obtain rfl : n = 48 := by omega
          obtain ⟨cs, hcs, hsz, hci⟩ := hr
          obtain ⟨cz, hcz, hszz, -⟩ := hr0
          have h64 := size64
          rw [← hsz] at h64
          have hone : cs.all (·.oneCell') = true := by
            rw [Array.all_eq_true]
            intro i hi
            have := hci i (by omega)
            rw [Array.getElem?_eq_getElem hi] at this
            rw [Option.some.inj this]; rfl
          go_wp2_with (first
            | (refine wpList_load_row rfl 109 _ rfl (w.heap.size + 1) rfl _ cs (0, 0) _ hcs Tryd.underlying109 rfl h64 ?_)
            | (refine wpList_store_row rfl 109 _ _ rfl w.heap.size cs rfl rfl 109 cz hcz h64 (by omega) hone ?_))
          refine bodyPost_ret (v := .agg cs) (results_cell_row rfl _ _ w.heap.size 109 cs (0, 0) _ rfl ?_ Tryd.underlying109 rfl h64) rfl ⟨cs, rfl, hsz, fun j hj => ?_, hb.grown (grown_row wr w.heap.size cs) hb.size (fun k e => by cases e; exact Nat.le_refl _)⟩
          · simp [World.setRow, Array.getElem?_modify, hcz]
          · have := hci j hj
            rwa [if_pos (by omega)] at this
end Go.Proofs.YtiganhkmnklhlaaDoor
