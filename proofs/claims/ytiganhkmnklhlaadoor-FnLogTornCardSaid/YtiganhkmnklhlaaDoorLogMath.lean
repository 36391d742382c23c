/-
  When a text begins with a record, and which records a log has: in plain words; no program is walked here.
-/
import Derived.Test.YtiganhkmnklhlaaDoorDig
import Derived.Test.YtiganhkmnklhlaaDoorShaImpl
namespace Go.Proofs.YtiganhkmnklhlaaDoor
open Go.RowKit
set_option linter.unusedVariables false

/-- What is summed of a record: its place, how many bytes it has, its bytes. -/
def frB (k : Nat) (x : ByteArray) : List UInt8 := Lib.decDigits k ++ 58 :: (Lib.decDigits x.size ++ 58 :: x.data.toList)
def sum12 (l : List UInt8) : List UInt8 := (hashS l).take 12
theorem sum12_len (l : List UInt8) : (sum12 l).length = 12 := by simp [sum12, hashS_len]
def frame (k : Nat) (x : ByteArray) : List UInt8 := frB k x ++ (sum12 (frB k x) ++ [59])
def frames (k : Nat) : List ByteArray → List UInt8
  | [] => []
  | x :: r => frame k x ++ frames (k + 1) r
theorem frame_len (k : Nat) (x : ByteArray) : (frame k x).length = (Lib.decDigits k).length + (Lib.decDigits x.size).length + x.size + 15 := by
  have e : x.data.toList.length = x.size := by simp
  simp only [frame, frB, List.length_append, List.length_cons, List.length_nil, sum12_len, e]; omega
theorem frame_ge (k : Nat) (x : ByteArray) : x.size + 17 ≤ (frame k x).length := by
  have := frame_len k x; have := dec_pos k; have := dec_pos x.size; omega
theorem frames_snoc (l : List ByteArray) (x : ByteArray) : ∀ k, frames k (l ++ [x]) = frames k l ++ frame (k + l.length) x := by
  induction l with
  | nil => intro k; simp [frames]
  | cons y r ih => intro k; simp only [List.cons_append, frames, ih, List.append_assoc, List.length_cons]; congr 3; omega
theorem frames_app (l m : List ByteArray) : ∀ k, frames k (l ++ m) = frames k l ++ frames (k + l.length) m := by
  induction l with
  | nil => intro k; simp [frames]
  | cons y r ih => intro k; simp only [List.cons_append, frames, ih, List.append_assoc, List.length_cons]; congr 3; omega
theorem frames_ge (l : List ByteArray) : ∀ k, 17 * l.length ≤ (frames k l).length := by
  induction l with
  | nil => intro k; simp
  | cons y r ih => intro k; simp only [frames, List.length_append, List.length_cons]; have := ih (k + 1); have := frame_ge k y; omega

/-- A text begins with the record x, as that of the place k. -/
def FB (t : List UInt8) (k : Nat) (x : ByteArray) : Prop := frame k x <+: t
theorem frame_eq (k : Nat) (x : ByteArray) (r : List UInt8) : frame k x ++ r = Lib.decDigits k ++ 58 :: (Lib.decDigits x.size ++ 58 :: (x.data.toList ++ (sum12 (frB k x) ++ 59 :: r))) := by
  simp [frame, frB]
theorem fb_cut {t : List UInt8} {k : Nat} {x : ByteArray} (h : FB t k x) : ∃ r, t = frame k x ++ r ∧ Lib.cut t [58] = (Lib.decDigits k, Lib.decDigits x.size ++ 58 :: (x.data.toList ++ (sum12 (frB k x) ++ 59 :: r)), true) ∧
    Lib.cut (Lib.decDigits x.size ++ 58 :: (x.data.toList ++ (sum12 (frB k x) ++ 59 :: r))) [58] = (Lib.decDigits x.size, x.data.toList ++ (sum12 (frB k x) ++ 59 :: r), true) := by
  obtain ⟨r, rfl⟩ := h
  refine ⟨r, rfl, ?_, cut_colon _ _ (dec_no_colon _)⟩
  rw [frame_eq, cut_colon _ _ (dec_no_colon _)]
theorem fb_size {t : List UInt8} {k : Nat} {x : ByteArray} (h : FB t k x) : x.size + 17 ≤ t.length := by
  obtain ⟨r, rfl⟩ := h
  have := frame_ge k x
  simp only [List.length_append]; omega
theorem fb_one {t : List UInt8} {k : Nat} {x y : ByteArray} (hs : t.length ≤ 1000000000) (h : FB t k x) (h' : FB t k y) : x = y := by
  have s1 := fb_size h
  have s2 := fb_size h'
  obtain ⟨r, -, c1, d1⟩ := fb_cut h
  obtain ⟨r', -, c2, d2⟩ := fb_cut h'
  rw [c1] at c2
  have e3 : Lib.decDigits x.size ++ 58 :: (x.data.toList ++ (sum12 (frB k x) ++ 59 :: r)) = Lib.decDigits y.size ++ 58 :: (y.data.toList ++ (sum12 (frB k y) ++ 59 :: r')) := congrArg (fun p => p.2.1) c2
  rw [e3, d2] at d1
  have e4 : Lib.decDigits y.size = Lib.decDigits x.size := congrArg Prod.fst d1
  have e5 : y.data.toList ++ (sum12 (frB k y) ++ 59 :: r') = x.data.toList ++ (sum12 (frB k x) ++ 59 :: r) := congrArg (fun p => p.2.1) d1
  have e6 := num_digits x.size (by omega)
  rw [← e4, num_digits y.size (by omega)] at e6
  have e7 : y.data.toList.length = x.data.toList.length := by simp; omega
  exact (ByteArray.ext (by simpa using (List.append_inj e5 e7).1)).symm
theorem frames_prefix : ∀ (vs ws : List ByteArray) (k : Nat) (q r : List UInt8), (frames k ws ++ r).length ≤ 1000000000 → frames k vs ++ q = frames k ws ++ r → (∀ x, ¬ FB r (k + ws.length) x) → ∃ us, ws = vs ++ us ∧ q = frames (k + vs.length) us ++ r
  | [], ws, k, q, r, _, h, _ => ⟨ws, rfl, by simpa [frames] using h⟩
  | x :: vs, [], k, q, r, _, h, hn => by
    exfalso
    refine hn x ⟨frames (k + 1) vs ++ q, ?_⟩
    simp only [frames, List.nil_append, List.append_assoc] at h
    simpa using h
  | x :: vs, y :: ws, k, q, r, hs, h, hn => by
    have h1 : FB (frames k (y :: ws) ++ r) k x := ⟨frames (k + 1) vs ++ q, by rw [← h]; simp [frames]⟩
    have h2 : FB (frames k (y :: ws) ++ r) k y := ⟨frames (k + 1) ws ++ r, by simp [frames]⟩
    have := fb_one hs h1 h2
    subst this
    simp only [frames, List.append_assoc] at h
    have h3 := List.append_cancel_left h
    obtain ⟨us, rfl, h4⟩ := frames_prefix vs ws (k + 1) q r (by simp only [frames, List.length_append] at hs ⊢; omega) h3 (fun x hx => hn x (by rw [List.length_cons, show k + (ws.length + 1) = k + 1 + ws.length from by omega]; exact hx))
    exact ⟨us, rfl, by rw [h4]; simp only [List.length_cons]; congr 2; omega⟩

/-- What LogRead says of a log: its records, and how many bytes they are. -/
def LogIs (t : List UInt8) (rs : List ByteArray) (m : Nat) : Prop := ∃ r, t = frames 0 rs ++ r ∧ m = (frames 0 rs).length ∧ ∀ x, ¬ FB r rs.length x
theorem log_prefix {t : List UInt8} {rs vs : List ByteArray} {m : Nat} {q : List UInt8} (hs : t.length ≤ 1000000000) (h : LogIs t rs m) (e : t = frames 0 vs ++ q) : ∃ us, rs = vs ++ us ∧ q = frames vs.length us ++ t.drop m := by
  obtain ⟨r, e1, e2, h3⟩ := h
  obtain ⟨us, h4, h5⟩ := frames_prefix vs rs 0 q r (by rw [← e1]; exact hs) (by rw [← e, e1]) (by simpa using h3)
  refine ⟨us, h4, ?_⟩
  rw [e1, e2, List.drop_left]; simpa using h5
theorem log_one {t : List UInt8} {rs vs : List ByteArray} {m n : Nat} (hs : t.length ≤ 1000000000) (h : LogIs t rs m) (k : LogIs t vs n) : rs = vs ∧ m = n := by
  have hh := h; have kk := k
  obtain ⟨r, e1, e2, -⟩ := hh
  obtain ⟨q, f1, f2, -⟩ := kk
  obtain ⟨us, h1, -⟩ := log_prefix hs h f1
  obtain ⟨xs, h2, -⟩ := log_prefix hs k e1
  have : us = [] := by
    rw [h1] at h2
    have := congrArg List.length h2
    simp only [List.length_append] at this
    exact List.eq_nil_of_length_eq_zero (by omega)
  subst this
  rw [List.append_nil] at h1
  exact ⟨h1, by rw [e2, f2, h1]⟩
theorem log_le {t : List UInt8} {rs : List ByteArray} {m : Nat} (h : LogIs t rs m) : m ≤ t.length ∧ 17 * rs.length ≤ m := by
  obtain ⟨r, e1, e2, -⟩ := h
  refine ⟨by rw [e1, e2]; simp, by rw [e2]; exact frames_ge rs 0⟩
theorem log_whole {t : List UInt8} {rs : List ByteArray} (h : LogIs t rs t.length) : t = frames 0 rs := by
  obtain ⟨r, e1, e2, -⟩ := h
  have : r = [] := by
    rw [e1] at e2
    simp only [List.length_append] at e2
    exact List.eq_nil_of_length_eq_zero (by omega)
  rw [this, List.append_nil] at e1
  exact e1
theorem no_fb_nil (k : Nat) (x : ByteArray) : ¬ FB [] k x := by
  intro h
  have := fb_size h
  simp at this
theorem log_frames (rs : List ByteArray) : LogIs (frames 0 rs) rs (frames 0 rs).length := ⟨[], by simp, rfl, fun x => no_fb_nil _ x⟩
theorem log_add {t : List UInt8} {rs : List ByteArray} (x : ByteArray) (h : LogIs t rs t.length) : t ++ frame rs.length x = frames 0 (rs ++ [x]) ∧ LogIs (t ++ frame rs.length x) (rs ++ [x]) (t ++ frame rs.length x).length := by
  have e := log_whole h
  have e2 : t ++ frame rs.length x = frames 0 (rs ++ [x]) := by rw [frames_snoc, Nat.zero_add, ← e]
  exact ⟨e2, by rw [e2]; exact log_frames _⟩
/-- What is cut off a log has its first records. -/
theorem log_cut {t : List UInt8} {rs vs : List ByteArray} {m n k : Nat} (hs : t.length ≤ 1000000000) (h : LogIs t rs m) (c : LogIs (t.take k) vs n) : ∃ us, rs = vs ++ us := by
  obtain ⟨q, f1, f2, -⟩ := c
  have : t = frames 0 vs ++ (q ++ t.drop k) := by rw [← List.append_assoc, ← f1, List.take_append_drop]
  obtain ⟨us, h1, -⟩ := log_prefix hs h this
  exact ⟨us, h1⟩
/-- A log of which nothing is cut off but what comes behind its records. -/
theorem log_kept {t : List UInt8} {rs vs : List ByteArray} {n : Nat} {q : List UInt8} (hs : (t ++ q).length ≤ 1000000000) (h : LogIs t rs t.length) (c : LogIs (t ++ q) vs n) : ∃ us, vs = rs ++ us := by
  have e := log_whole h
  obtain ⟨us, h1, -⟩ := log_prefix hs c (by rw [← e])
  exact ⟨us, h1⟩
end Go.Proofs.YtiganhkmnklhlaaDoor
