/-
  A log's record, by the model: written, and the next one at a place.
-/
import Derived.Test.YtiganhkmnklhlaaDoorLogMath
import Derived.Test.YtiganhkmnklhlaaDoorShaSpecH
import Derived.Test.YtiganhkmnklhlaaDoorDec
namespace Go.Proofs.YtiganhkmnklhlaaDoor
open Go.RowKit
set_option linter.unusedVariables false
set_option linter.unusedSimpArgs false

def NoColon (T : List UInt8) (a k : Nat) : Prop := ∀ j, a ≤ j → j < k → T[j]? ≠ some 58
/-- Where figures and a colon come, the first colon is that one. -/
theorem colon_first {T D R : List UInt8} {a p : Nat} (e : T.drop a = D ++ 58 :: R) (hD : (58 : UInt8) ∉ D) (hap : a ≤ p) (hn : NoColon T a p) (hp : p = T.length ∨ T[p]? = some 58) :
    p < T.length ∧ (T.drop a).take (p - a) = D ∧ T.drop (p + 1) = R := by
  have hlen := congrArg List.length e
  simp only [List.length_append, List.length_cons, List.length_drop] at hlen
  have hDc : T[a + D.length]? = some 58 := by
    have : (T.drop a)[D.length]? = some 58 := by rw [e]; simp
    rwa [List.getElem?_drop] at this
  have hk : p = a + D.length := by
    rcases Nat.lt_trichotomy p (a + D.length) with c | c | c
    · exfalso
      rcases hp with hp | hp
      · omega
      · have e2 : (T.drop a)[p - a]? = some 58 := by rw [List.getElem?_drop, show a + (p - a) = p from by omega]; exact hp
        rw [e, List.getElem?_append_left (by omega)] at e2
        exact hD (List.mem_of_getElem? e2)
    · exact c
    · exact absurd hDc (hn _ (by omega) c)
  refine ⟨by omega, ?_, ?_⟩
  · rw [show p - a = D.length from by omega, e, List.take_left]
  · have e3 : T.drop (p + 1) = (T.drop a).drop (D.length + 1) := by rw [List.drop_drop]; congr 1; omega
    rw [e3, e, ← List.drop_drop, List.drop_left]; rfl
/-- Both colons of a record. -/
theorem colons {T : List UInt8} {a p q k : Nat} {x : ByteArray} (h : FB (T.drop a) k x) (hs : T.length ≤ 1000000000) (hap : a ≤ p) (hn : NoColon T a p) (hp : p = T.length ∨ T[p]? = some 58) :
    p < T.length ∧ (p + 1 ≤ q → NoColon T (p + 1) q → (q = T.length ∨ T[q]? = some 58) → q < T.length ∧ numV ((T.drop (p + 1)).take (q - (p + 1))) = x.size ∧ q + 1 + x.size + 13 ≤ T.length ∧ x.data.toList = (T.drop (q + 1)).take x.size) := by
  have hz := fb_size h
  obtain ⟨r, e⟩ := h
  rw [frame_eq] at e
  obtain ⟨h1, -, h3⟩ := colon_first e.symm (dec_no_colon _) hap hn hp
  refine ⟨h1, fun hpq hn2 hq => ?_⟩
  obtain ⟨k1, k2, k3⟩ := colon_first h3 (dec_no_colon _) hpq hn2 hq
  have e4 : x.data.toList.length = x.size := by simp
  refine ⟨k1, ?_, ?_, ?_⟩
  · rw [k2]; exact num_digits _ (by simp only [List.length_drop] at hz; omega)
  · have := congrArg List.length k3
    simp only [List.length_drop, List.length_append, List.length_cons, sum12_len, e4] at this
    omega
  · rw [k3, ← e4, List.take_left]

def UntilPost (t : ByteArray) (a : Nat) (w : World) (e : Ending) (w' : World) : Prop := ∃ (n : Int) (p : Nat), e = .returned (.tuple #[.int .i64 n, .int .i64 p]) ∧ -1 ≤ n ∧ n < 1000000000000 ∧ Drew w w' ∧
  ((n = -1 ∧ p = t.size ∧ Hid (NoColon t.data.toList a t.size)) ∨ ∃ q, p = q + 1 ∧ a ≤ q ∧ q < t.size ∧ Hid (n = numV ((t.data.toList.drop a).take (q - a)) ∧ NoColon t.data.toList a q ∧ t.data.toList[q]? = some 58))

set_option maxRecDepth 100000 in
set_option maxHeartbeats 4000000 in
theorem untilS (t : ByteArray) (a : Nat) (w : World) (ht : t.size ≤ 1048576) (ha : a ≤ t.size) :
    Calls Tryd.prog 38 #[.string t, .int .i64 a] w (UntilPost t a w) := by
  go_enter Tryd.func38, Tryd.ntmps38
  go_wp2_with fail
  go_loop [1] (fun i => ∃ k : Nat, i = .int .i64 k ∧ a ≤ k ∧ k ≤ t.size ∧ Hid (NoColon t.data.toList a k)) (fun i => t.size - (intOf i).toNat)
  case atStart => exact ⟨a, rfl, Nat.le_refl _, ha, fun j h1 h2 => by omega⟩
  case round =>
    obtain ⟨k, rfl, hak, hk, hnc⟩ := hrel
    rcases Nat.lt_or_ge k t.size with hkl | hkl
    · by_cases h58 : (t[k]'hkl).toNat = 58
      · have e58 : (((t[k]'hkl).toNat : Int) == 58) = true := by simp; omega
        have e58' : (((t[k]'hkl).toNat : Int) != 58) = false := by simp; omega
        have hT : Hid (t.data.toList[k]? = some 58) := by
          show _ = _
          rw [List.getElem?_eq_getElem (by simpa using hkl)]
          exact congrArg some (UInt8.toNat_inj.1 h58)
        have hz : (t.extract a k).size ≤ maxLen := by rw [ByteArray.size_extract]; unfold maxLen; omega
        have Hz := Lib.hid hz
        have hxs : Hid ((t.extract a k).data.toList = (t.data.toList.drop a).take (k - a)) := Lib.extract_data _ _ _
        have g1 : ((k : Int) == (t.size : Int)) = false := by simp; omega
        have q1 : IntKind.i64.wrap ((k : Int) + 1) = (k : Int) + 1 := IntWalk.i64_in _ (by omega)
        clear hz h58
        go_wp2_with fail
        refine (numAt _ _ Hz.out).mono ?_
        rintro e w' ⟨n, rfl, hn, hn1, hn2, rfl⟩
        have Hn : Hid (n = numV ((t.data.toList.drop a).take (k - a)) ∧ NoColon t.data.toList a k ∧ t.data.toList[k]? = some 58) := ⟨by rw [← hxs.out]; exact hn.out, hnc.out, hT.out⟩
        clear hn
        go_wp2
        go_ret2
        exact ⟨n, k + 1, rfl, hn1, hn2, ⟨0, rfl⟩, Or.inr ⟨k, rfl, hak, hkl, Hn⟩⟩
      · have e58 : (((t[k]'hkl).toNat : Int) == 58) = false := by simp; omega
        have e58' : (((t[k]'hkl).toNat : Int) != 58) = true := by simp; omega
        have hT : Hid (t.data.toList[k]? ≠ some 58) := by
          intro h
          rw [List.getElem?_eq_getElem (by simpa using hkl)] at h
          exact h58 (by have := Option.some.inj h; exact congrArg UInt8.toNat this)
        clear h58
        go_wp2
        go_round
        case rel =>
          refine ⟨k + 1, by go_num, by omega, by omega, fun j h1 h2 => ?_⟩
          by_cases e : j = k
          · subst e; exact hT.out
          · exact hnc.out j h1 (by omega)
        case measure => simp [intOf]; omega
    · obtain rfl : k = t.size := by omega
      go_wp2
      go_ret2
      exact ⟨-1, _, rfl, by omega, by omega, ⟨0, rfl⟩, Or.inl ⟨rfl, rfl, hnc⟩⟩

theorem frame_is {k : Nat} {x s1 s2 : ByteArray} (h1 : Hid (s1 = ⟨(Lib.decDigits ((k : Int)).toNat).toArray⟩)) (h2 : Hid (s2 = ⟨(Lib.decDigits ((x.size : Int)).toNat).toArray⟩)) : s1 ++ ⟨#[58]⟩ ++ s2 ++ ⟨#[58]⟩ ++ x = (⟨(frB k x).toArray⟩ : ByteArray) := by
  rw [h1.out, h2.out, Int.toNat_natCast, Int.toNat_natCast]
  apply ByteArray.ext
  simp [frB]
theorem dec7' {n : Nat} (h : n < 10000000) : (Lib.decDigits n).length ≤ 7 := dec_len' 6 n (by omega)
theorem frB_size {k : Nat} {x : ByteArray} (hk : k < 10000000) (hx : x.size < 10000000) : (⟨(frB k x).toArray⟩ : ByteArray).size ≤ x.size + 16 := by
  have := dec7' hk; have := dec7' hx
  show (frB k x).toArray.size ≤ _
  rw [List.size_toArray, frB]
  have e : x.data.toList.length = x.size := by simp
  simp only [List.length_append, List.length_cons, e]; omega
theorem hash64 (l : List UInt8) : (⟨(hashS l).toArray⟩ : ByteArray).size = 64 := by
  show (hashS l).toArray.size = 64
  rw [List.size_toArray, hashS_len]
theorem frame_made {k : Nat} {x T H : ByteArray} (hT : T = ⟨(frB k x).toArray⟩) (hH : H = ⟨(hashS T.data.toList).toArray⟩) : T ++ H.extract 0 12 ++ ⟨#[59]⟩ = (⟨(frame k x).toArray⟩ : ByteArray) := by
  apply ByteArray.ext
  apply Array.ext'
  have e2 : H.data.toList.take 12 = sum12 (frB k x) := by rw [hH, hT]; simp [sum12]
  simp [e2, frame, hT]
def FrameIs (k : Nat) (x : ByteArray) (w : World) (e : Ending) (w' : World) : Prop := ∃ f : ByteArray, e = .returned (.string f) ∧ f.size ≤ x.size + 29 ∧ Hid (f = ⟨(frame k x).toArray⟩) ∧ Below w.heap.size w w'

set_option maxRecDepth 100000 in
set_option maxHeartbeats 4000000 in
theorem frameS (k : Nat) (x : ByteArray) (w : World) (hk : k ≤ 1048576) (hx : x.size ≤ 1048576) :
    Calls Tryd.prog 26 #[.int .i64 k, .string x] w (FrameIs k x w) := by
  have HT := Lib.hid (frB_size (k := k) (x := x) (by omega) (by omega))
  go_enter Tryd.func26, Tryd.ntmps26
  go_wp2_with fail
  refine (decS k _ (by omega) (by omega)).mono ?_
  rintro e w1 ⟨s1, rfl, hl1, he1, hb1⟩
  go_wp2_with fail
  refine (decS x.size _ (by omega) (by omega)).mono ?_
  rintro e w2 ⟨s2, rfl, hl2, he2, hb2⟩
  have hb12 := bt hb1 hb2
  have HT2 := Lib.hid (frame_is he1 he2)
  go_wp2_with fail
  rw [HT2.out]
  generalize hTT : (⟨(frB k x).toArray⟩ : ByteArray) = T at *
  have HTT := Lib.hid hTT
  have HZ := HT.out
  clear hTT HT2
  refine (specSum T _ (by omega)).mono ?_
  rintro e w3 ⟨rfl, hb3⟩
  have hb13 := bt hb12 hb3
  have hs := hash64 T.data.toList
  generalize hH : (⟨(hashS T.data.toList).toArray⟩ : ByteArray) = H at *
  have HH := Lib.hid hH
  clear hH
  have hx12 : (H.extract 0 12).size = 12 := by rw [ByteArray.size_extract]; omega
  go_wp2
  go_ret
  refine ⟨_, rfl, ?_, ?_, hb13⟩
  · have e1 : (⟨#[59]⟩ : ByteArray).size = 1 := rfl
    simp only [ByteArray.size_append, hx12, e1]; omega
  · exact frame_made HTT.out.symm HH.out.symm
end Go.Proofs.YtiganhkmnklhlaaDoor
