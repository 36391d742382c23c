/-
  A trip's text, by the model.
-/
import Derived.Test.YtlfmhhdlandcjaaDoorTripWriteR
namespace Go.Proofs.YtlfmhhdlandcjaaDoor
open Go.RowKit
set_option linter.unusedVariables false
set_option linter.unusedSimpArgs false

/-- What the model's text is. -/
def TextPost (ss : List ByteArray) (f : ByteArray) (n : Int) (w : World) (e : Ending) (w' : World) : Prop := e = .returned (.string ⟨(tripT ss f n).toArray⟩) ∧ Below w.heap.size w w'
set_option maxHeartbeats 4000000 in
theorem textS (a : Option Addr) (cap : Nat) (ss : List ByteArray) (f : ByteArray) (n : Int) (w : World) (h : Strs w a ss.length ss) (hok : FormOk ss f n) :
    Calls Tryd.prog 54 #[.agg #[.slice a ss.length cap, .string f, .int .i64 n]] w (TextPost ss f n w) := by
  have h1 := hok.1
  have h3 := hok.2.1
  have n1 := hok.2.2.2.2.1
  have n4 := hok.2.2.2.2.2
  have hfs := (legs_small hok).2
  have Hsm := Lib.hid (legs_small hok).1
  have hbA : Below w.heap.size w (w.alloc (.cells #[.slice a ss.length cap, .string f, .int .i64 n] 33)) := (Below.refl _ _).alloc (Nat.le_refl _) _
  have HbA := Lib.hid hbA
  obtain ⟨bk, off, rfl, hbl, hcell⟩ := (h.kept hbA).cells h1
  have Hcell := Lib.hid hcell
  generalize hlen : ss.length = len at *
  have HLen := Lib.hid hlen
  clear h hok hbA hcell hlen
  go_enter Tryd.func54, Tryd.ntmps54
  go_wp2_with fail
  go_loopw [3, 4] (fun vo vi wr => ∃ (k : Nat) (o : ByteArray), k ≤ len ∧ vo = .string o ∧ vi = .int .i64 k ∧ o.size ≤ 27 ∧ Hid (o.data.toList = joinL (ss.take k)) ∧ ∃ q, wr = (w.alloc (.cells #[.slice (some ⟨bk, off, none⟩) len cap, .string f, .int .i64 n] 33)).drewN q) (fun _ vi _ => len - (intOf vi).toNat)
  case atStart => exact ⟨0, ⟨#[]⟩, Nat.zero_le _, rfl, rfl, by decide, by simp [Hid, joinL, Lib.join_nil], 0, rfl⟩
  case round =>
    obtain ⟨k, o, hk, rfl, rfl, hoz, ho, q, rfl⟩ := hrel
    rcases Nat.lt_or_ge k len with hlt | hge
    · have c1 := Hcell.out k hlt
      have k1 : (k : Int) < len := by omega
      have k0 : (0 : Int) ≤ k := by omega
      have hnx := take_next ss k (by have := HLen.out; omega)
      have hsz9 : (joinL (ss.take (k + 1))).length ≤ 27 := by
        have := joinL_len (ss.take (k + 1)) (fun x hx => Hsm.out x (List.mem_of_mem_take hx))
        rw [List.length_take] at this; omega
      have hxs : (legAt ss k).size ≤ 8 := Hsm.out _ (by
        have hk2 : k < ss.length := by have := HLen.out; omega
        have e : legAt ss k = ss[k] := by simp [legAt, hk2]
        rw [e]; exact List.getElem_mem _)
      generalize hx : legAt ss k = x at *
      clear hx
      rcases Nat.eq_zero_or_pos k with hk0 | hkp
      · have g0 : (k : Int) ≤ 0 := by omega
        have hj : Hid ((o ++ x).data.toList = joinL (ss.take (k + 1))) := by
          show _ = _
          have : o.data.toList = [] := by rw [ho.out, hk0]; simp [joinL, Lib.join_nil]
          rw [hnx, hk0, List.take_zero, List.nil_append, joinL_one]
          simp [this]
        clear hk0
        have hz : (o ++ x).size ≤ 27 := by
          have := congrArg List.length hj.out
          have e : (o ++ x).data.toList.length = (o ++ x).size := Array.length_toList
          omega
        have Hz := Lib.hid hz
        clear hnx hsz9 hz
        go_wp2
        go_roundw
        case rel => exact ⟨k + 1, o ++ x, by omega, rfl, by go_num, Hz.out, hj.out, _, rfl⟩
        case measure => simp [intOf]; omega
      · have g0 : (0 : Int) < (k : Int) := by omega
        have hj : Hid ((o ++ ⟨#[45]⟩ ++ x).data.toList = joinL (ss.take (k + 1))) := by
          show _ = _
          rw [hnx, joinL_snoc _ _ (by intro e; have := congrArg List.length e; rw [List.length_take, List.length_nil] at this; have := HLen.out; omega), ← ho.out]
          simp
        have hz : (o ++ ⟨#[45]⟩ ++ x).size ≤ 27 := by
          have := congrArg List.length hj.out
          have e : (o ++ ⟨#[45]⟩ ++ x).data.toList.length = (o ++ ⟨#[45]⟩ ++ x).size := Array.length_toList
          omega
        have Hz := Lib.hid hz
        clear hnx hsz9 hz
        go_wp2
        go_roundw
        case rel => exact ⟨k + 1, o ++ ⟨#[45]⟩ ++ x, by omega, rfl, by go_num, Hz.out, hj, _, rfl⟩
        case measure => simp [intOf]; omega
    · obtain rfl : k = len := by omega
      have hV : Below w.heap.size w ((w.alloc (.cells #[.slice (some ⟨bk, off, none⟩) k cap, .string f, .int .i64 n] 33)).drewN q) := belowN HbA.out q
      have hA : ((w.alloc (.cells #[.slice (some ⟨bk, off, none⟩) k cap, .string f, .int .i64 n] 33)).drewN q).heap[w.heap.size]? = some (.cells #[.slice (some ⟨bk, off, none⟩) k cap, .string f, .int .i64 n] 33 (0, 0)) := by
        have := heap_alloc_new w (.cells #[.slice (some ⟨bk, off, none⟩) k cap, .string f, .int .i64 n] 33)
        simpa [World.drewN] using this
      have ho2 : Hid (o.data.toList = joinL ss) := by show _ = _; rw [ho.out, List.take_of_length_le (by have := HLen.out; omega)]
      go_wp2_with fail
      generalize (w.alloc (.cells #[.slice (some ⟨bk, off, none⟩) k cap, .string f, .int .i64 n] 33)).drewN q = V at *
      have sV : w.heap.size < V.heap.size := lt_heap hA
      have c1 : V.cell? ⟨w.heap.size, 1, none⟩ = some (.string f) := by rw [Lib.cell_of_heap hA]; rfl
      have c2 : V.cell? ⟨w.heap.size, 2, none⟩ = some (.int .i64 n) := by rw [Lib.cell_of_heap hA]; rfl
      have HV := Lib.hid hV
      clear hA hV
      have hoz2 : o.size ≤ 27 := hoz
      have hso : (⟨(Lib.decDigits n.toNat).toArray⟩ : ByteArray).size ≤ 20 := by
        have := dec_len n.toNat (by omega)
        simpa [ByteArray.size] using this
      have cD : ∀ dd os, Calls Tryd.prog 31 #[.int .i64 n] (Go.Sort.grow (redrawn V dd) os) fun e w'' => e = .returned (.string ⟨(Lib.decDigits n.toNat).toArray⟩) ∧ ∃ p : Regrown, w'' = Go.Sort.grow (redrawn V p.d) p.os := fun dd os => Calls.regrown_of ((decS n _ (by omega) (by omega)).mono (fun e w3 ⟨s3, h1, hl3, he3, hb3⟩ => ⟨by
        rw [h1, he3.out], hb3⟩))
      generalize hS : (⟨(Lib.decDigits n.toNat).toArray⟩ : ByteArray) = S at *
      have HS := Lib.hid hS
      clear hS
      have k1 := cell_regrown c1
      have k2 := cell_regrown c2
      have m1 : ¬ 9223372036854775807 < o.size + 1 := by omega
      have m2 : ¬ 9223372036854775807 < o.size + 1 + f.size := by omega
      have m3 : ¬ 9223372036854775807 < o.size + 1 + f.size + 1 := by omega
      have m4 : ¬ 9223372036854775807 < o.size + 1 + f.size + 1 + S.size := by omega
      clear c1 c2
      refine wp_region_quiet_below (by kernel_rfl) (by kernel_rfl) ?_
      repeat (quiet_step (exact cD _ _))
      refine wpQuiet_nil ?_
      intro _ hw'
      obtain ⟨⟨dq, osq⟩, hw''⟩ := hw'
      subst hw''
      go_wp2
      go_ret
      refine ⟨retS ?_, HV.out.trans ((below_regrown V dq osq).mono HV.out.size)⟩
      apply ByteArray.ext
      have e2 := ho2.out
      apply Array.ext'
      rw [← HS.out]
      simp [tripT, e2]

set_option maxHeartbeats 4000000 in
theorem writeS (a : Option Addr) (cap : Nat) (ss : List ByteArray) (f : ByteArray) (n : Int) (w : World) (h : Strs w a ss.length ss) (hl : ss.length ≤ 1048576) (hss : ∀ i, i < ss.length → (legAt ss i).size ≤ 1048576) (hf : f.size ≤ 1048576) :
    Calls Tryd.prog 32 #[.agg #[.slice a ss.length cap, .string f, .int .i64 n]] w (WritePost ss f n w) := by
  have hbA : Below w.heap.size w (w.alloc (.cells #[.slice a ss.length cap, .string f, .int .i64 n] 33)) := (Below.refl _ _).alloc (Nat.le_refl _) _
  have HbA := Lib.hid hbA
  have H := Lib.hid h
  have Hss := Lib.hid hss
  clear h hss hbA
  go_enter Tryd.func32, Tryd.ntmps32
  go_wp2_with fail
  refine (formS a cap ss f n _ (H.out.kept HbA.out) hl Hss.out hf).mono ?_
  rintro e w1 ⟨b, rfl, hb, dd1⟩
  have d1 := btt HbA.out dd1
  have hA := heap_alloc_new w (.cells #[.slice a ss.length cap, .string f, .int .i64 n] 33)
  have hA1 := (dd1.block _ (by simp)).trans hA
  have c0 : w1.cell? ⟨w.heap.size, 0, none⟩ = some (.slice a ss.length cap) := by rw [Lib.cell_of_heap hA1]; rfl
  have c1 : w1.cell? ⟨w.heap.size, 1, none⟩ = some (.string f) := by rw [Lib.cell_of_heap hA1]; rfl
  have c2 : w1.cell? ⟨w.heap.size, 2, none⟩ = some (.int .i64 n) := by rw [Lib.cell_of_heap hA1]; rfl
  clear hA hA1 dd1
  cases b with
  | false =>
    have hno : Hid (¬ FormOk ss f n) := fun h => by have := hb.out.2 h; cases this
    go_wp2
    go_ret
    exact ⟨_, rfl, Or.inr ⟨hno.out, rfl⟩, d1⟩
  | true =>
    have hok := Lib.hid (hb.out.1 rfl)
    go_wp2_with fail
    refine (textS a cap ss f n _ (H.out.kept d1) hok.out).mono ?_
    rintro e w2 ⟨rfl, hb2⟩
    go_wp2
    go_ret
    exact ⟨_, rfl, Or.inl ⟨hok.out, rfl⟩, btt d1 hb2⟩
end Go.Proofs.YtlfmhhdlandcjaaDoor
