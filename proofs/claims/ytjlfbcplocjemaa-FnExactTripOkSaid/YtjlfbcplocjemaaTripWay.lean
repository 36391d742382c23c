/-
  When the legs of a trip go on where and when the one ahead of each ended: in plain words; and whether one leg goes on behind another one, of the program and of the model.
-/
import Derived.Test.YtjlfbcplocjemaaNetPlace
import Derived.Test.YtjlfbcplocjemaaFree
import Derived.Deep.Cut
import Derived.Test.YtjlfbcplocjemaaTripFormN
namespace Go.Proofs.Ytjlfbcplocjemaa
open Go.RowKit
set_option linter.unusedVariables false
set_option linter.unusedSimpArgs false

def GoesOn (a b : LegD) : Prop := a.to = b.fr ∧ a.arr < b.dep
/-- That place is the first one of that name. -/
def AtLeg (ds : Nat → LegD) (n : Nat) (s : ByteArray) (j : Nat) : Prop := j < n ∧ (ds j).name = s ∧ ∀ i, i < j → (ds i).name ≠ s
def LegsGo (ds : Nat → LegD) (n : Nat) (ss : List ByteArray) (k : Nat) : Prop := ∀ i, i < k → ∃ j, AtLeg ds n (legAt ss i) j ∧ (0 < i → ∀ m, AtLeg ds n (legAt ss (i - 1)) m → GoesOn (ds m) (ds j))
theorem at_one {ds : Nat → LegD} {n : Nat} {s : ByteArray} {j i : Nat} (h : AtLeg ds n s j) (k : AtLeg ds n s i) : j = i := by
  obtain ⟨h1, h2, h3⟩ := h
  obtain ⟨k1, k2, k3⟩ := k
  rcases Nat.lt_trichotomy j i with q | q | q
  · exact absurd h2 (k3 j q)
  · exact q
  · exact absurd k2 (h3 i q)
theorem place_none {ds : Nat → LegD} {n : Nat} {s : ByteArray} {r : Int} (h : PlaceIs ds n s r) (hr : r < 0) : ¬ ∃ j, AtLeg ds n s j := by
  rcases h with ⟨rfl, h⟩ | ⟨j, hj, rfl, he, hf⟩
  · rintro ⟨j, h1, h2, -⟩; exact h j h1 h2
  · omega
theorem place_some {ds : Nat → LegD} {n : Nat} {s : ByteArray} {r : Int} (h : PlaceIs ds n s r) (hr : 0 ≤ r) : ∃ j : Nat, r = (j : Int) ∧ AtLeg ds n s j := by
  rcases h with ⟨rfl, h⟩ | ⟨j, hj, rfl, he, hf⟩
  · omega
  · exact ⟨j, rfl, hj, he, hf⟩
theorem way_next {ds : Nat → LegD} {n : Nat} {ss : List ByteArray} {k j : Nat} (h : LegsGo ds n ss k) (hj : AtLeg ds n (legAt ss k) j) (hg : 0 < k → ∀ m, AtLeg ds n (legAt ss (k - 1)) m → GoesOn (ds m) (ds j)) : LegsGo ds n ss (k + 1) := by
  intro i hi
  rcases Nat.lt_or_ge i k with q | q
  · exact h i q
  · obtain rfl : i = k := by omega
    exact ⟨j, hj, hg⟩
theorem way_none {ds : Nat → LegD} {n : Nat} {ss : List ByteArray} {k len : Nat} (hk : k < len) (h : ¬ ∃ j, AtLeg ds n (legAt ss k) j) : ¬ LegsGo ds n ss len := fun q => by
  obtain ⟨j, hj, -⟩ := q k hk
  exact h ⟨j, hj⟩
theorem way_off {ds : Nat → LegD} {n : Nat} {ss : List ByteArray} {k len j m : Nat} (hk : k < len) (h0 : 0 < k) (hj : AtLeg ds n (legAt ss k) j) (hm : AtLeg ds n (legAt ss (k - 1)) m) (h : ¬ GoesOn (ds m) (ds j)) : ¬ LegsGo ds n ss len := fun q => by
  obtain ⟨j', hj', hg⟩ := q k hk
  obtain rfl := at_one hj hj'
  exact h (hg h0 m hm)
theorem way_at {ds : Nat → LegD} {n : Nat} {ss : List ByteArray} {k : Nat} (h : LegsGo ds n ss k) (h0 : 0 < k) : ∃ m, AtLeg ds n (legAt ss (k - 1)) m := by
  obtain ⟨j, hj, -⟩ := h (k - 1) (by omega)
  exact ⟨j, hj⟩
theorem detT {S : Prop} {a b : Bool} (h : a = true ↔ S) (k : b = true ↔ S) : a = b := by
  cases a <;> cases b
  · rfl
  · have := h.2 (k.1 rfl); cases this
  · have := k.2 (h.1 rfl); cases this
  · rfl
theorem LegV_eqT (d : LegD) (p : LegP) : LegV d p = .agg (LegC d p) := rfl
theorem DepsT.get {S : Nat → World → Value → Prop} {f : Nat → Value} {w : World} : ∀ {l : List Nat}, Deps S f w l → ∀ {n : Nat}, n ∈ l → S n w (f n)
  | [], _, _, h => by cases h
  | m :: l, hd, n, h => by
    rcases List.mem_cons.1 h with e | e
    · subst e; exact hd.1
    · exact DepsT.get hd.2 e
/-- The model: does one leg go on behind another one? -/
theorem nextS (d : LegD) (p : LegP) (d' : LegD) (p' : LegP) (w : World) :
    Calls Try.prog 35 #[LegV d p, LegV d' p'] w (OkPost (GoesOn d d') (Below w.heap.size w)) := by
  have hbA : Below w.heap.size w (w.alloc (.cells (LegC d p) 34)) := (Below.refl _ _).alloc (Nat.le_refl _) _
  have hbB : Below (w.alloc (.cells (LegC d p) 34)).heap.size (w.alloc (.cells (LegC d p) 34)) ((w.alloc (.cells (LegC d p) 34)).alloc (.cells (LegC d' p') 34)) := (Below.refl _ _).alloc (Nat.le_refl _) _
  have hA := (LegBox.new w d p).kept hbB
  have hB := LegBox.new (w.alloc (.cells (LegC d p) 34)) d' p'
  have HB := Lib.hid (bt hbA hbB)
  simp only [World.size_alloc] at hB
  have x2 := hA.c2
  have x4 := hA.c4
  have y1 := hB.c1
  have y3 := hB.c3
  have hV : LegV d p = .agg (LegC d p) := rfl
  have hV' : LegV d' p' = .agg (LegC d' p') := rfl
  rw [hV, hV']
  generalize LegC d p = LC at *
  generalize LegC d' p' = LC' at *
  clear hA hB hbA hbB hV hV'
  by_cases e : d.to = d'.fr
  · have z := str_eq e
    have HE := Lib.hid e
    clear e
    by_cases c : d.arr < d'.dep
    · have zc : decide (d.arr < d'.dep) = true := decide_eq_true c
      have HC := Lib.hid c
      clear c
      go_enter Try.func35, Try.ntmps35
      go_wp2
      go_ret
      exact ⟨true, rfl, ⟨fun _ => ⟨HE.out, HC.out⟩, fun _ => rfl⟩, HB.out⟩
    · have zc : decide (d.arr < d'.dep) = false := decide_eq_false c
      have HC := Lib.hid c
      clear c
      go_enter Try.func35, Try.ntmps35
      go_wp2
      go_ret
      exact ⟨false, rfl, ⟨fun q => (by cases q), fun q => by have := q.2; have := HC.out; omega⟩, HB.out⟩
  · have z := str_neq e
    have HE := Lib.hid e
    clear e
    go_enter Try.func35, Try.ntmps35
    go_wp2
    go_ret
    exact ⟨false, rfl, ⟨fun q => (by cases q), fun q => absurd q.1 HE.out⟩, HB.out⟩
/-- The program: does one leg go on behind another one? -/
theorem nextI (d : LegD) (p : LegP) (d' : LegD) (p' : LegP) (w : World) :
    Calls Try.prog 40 #[LegV d p, LegV d' p'] w (OkPost (GoesOn d d') (Below w.heap.size w)) := by
  have hbA : Below w.heap.size w (w.alloc (.cells (LegC d p) 34)) := (Below.refl _ _).alloc (Nat.le_refl _) _
  have hbB : Below (w.alloc (.cells (LegC d p) 34)).heap.size (w.alloc (.cells (LegC d p) 34)) ((w.alloc (.cells (LegC d p) 34)).alloc (.cells (LegC d' p') 34)) := (Below.refl _ _).alloc (Nat.le_refl _) _
  have hA := (LegBox.new w d p).kept hbB
  have hB := LegBox.new (w.alloc (.cells (LegC d p) 34)) d' p'
  have HB := Lib.hid (bt hbA hbB)
  simp only [World.size_alloc] at hB
  have x2 := hA.c2
  have x4 := hA.c4
  have y1 := hB.c1
  have y3 := hB.c3
  have hV : LegV d p = .agg (LegC d p) := rfl
  have hV' : LegV d' p' = .agg (LegC d' p') := rfl
  rw [hV, hV']
  generalize LegC d p = LC at *
  generalize LegC d' p' = LC' at *
  clear hA hB hbA hbB hV hV'
  by_cases e : d.to = d'.fr
  · have z := str_eq e.symm
    have HE := Lib.hid e
    clear e
    by_cases c : d.arr < d'.dep
    · have zc : decide (d.arr < d'.dep) = true := decide_eq_true c
      have HC := Lib.hid c
      clear c
      go_enter Try.func40, Try.ntmps40
      go_wp2
      go_ret
      exact ⟨true, rfl, ⟨fun _ => ⟨HE.out, HC.out⟩, fun _ => rfl⟩, HB.out⟩
    · have zc : decide (d.arr < d'.dep) = false := decide_eq_false c
      have HC := Lib.hid c
      clear c
      go_enter Try.func40, Try.ntmps40
      go_wp2
      go_ret
      exact ⟨false, rfl, ⟨fun q => (by cases q), fun q => by have := q.2; have := HC.out; omega⟩, HB.out⟩
  · have z := str_neq (fun q => e q.symm)
    have HE := Lib.hid e
    clear e
    go_enter Try.func40, Try.ntmps40
    go_wp2
    go_ret
    exact ⟨false, rfl, ⟨fun q => (by cases q), fun q => absurd q.1 HE.out⟩, HB.out⟩
theorem place_is {ds : Nat → LegD} {n m : Nat} {s : ByteArray} {r : Int} (h : PlaceIs ds n s r) (hm : AtLeg ds n s m) : r = (m : Int) := by
  rcases Int.lt_or_le r 0 with c | c
  · exact absurd ⟨m, hm⟩ (place_none h c)
  · obtain ⟨j, rfl, hj⟩ := place_some h c
    rw [at_one hj hm]
end Go.Proofs.Ytjlfbcplocjemaa
