/-
  A region that draws its order, walked operation by operation: each operation once, whatever has come up ahead of it, by what it leaves in its slot.
  The region, each operation once; and at its end no more steps than it has operations.
  A drawn region 'x = append(x, ..)' in which what a slot holds may be used up ahead of the end: what holds between its operations, in whatever order.
  A drawn region 'x = append(x, ..)': what holds between its operations, in whatever order.
  A drawn region 'x.f = append(x.f, ..)': what holds between its operations, in whatever order.
  A drawn region 'x, y = f(..), g(..)': what holds between its operations, in whatever order, of what both calls make.
-/
import Derived.WalkKit
import Derived.Orders
import Derived.RegionTactic
import Derived.Tactics
namespace Go.Proofs.YtjhgmmcglonokaaGreatDoor
open Go
set_option linter.unusedVariables false
set_option linter.unusedSimpArgs false

def upd {α : Type} (f : Nat → α) (i : Nat) (v : α) : Nat → α := fun j => if j = i then v else f j
theorem upd_self {α : Type} (f : Nat → α) (i : Nat) (v : α) : upd f i v i = v := by simp [upd]
theorem upd_ne {α : Type} (f : Nat → α) {i j : Nat} (v : α) (h : j ≠ i) : upd f i v j = f j := by simp [upd, h]

/-- The frame's slots, those that the operations write by f. -/
def over : List Oper → Nat → (Nat → Value) → List Value → List Value
  | [], _, _, s => s
  | o :: l, k, f, s => over l (k + 1) f (match o.dst with | some d => s.set d (f k) | none => s)
/-- What the slots hold at first. -/
def firstF (l : List Oper) (s : List Value) (i : Nat) : Value := match (l[i]?).bind (·.dst) with | some d => s.getD d undef | none => undef
theorem over_same (s : List Value) : ∀ (l : List Oper) (k : Nat) (f : Nat → Value), (∀ i o d, l[i]? = some o → o.dst = some d → f (k + i) = s.getD d undef) → over l k f s = s
  | [], _, _, _ => rfl
  | o :: l, k, f, h => by
    have e : (match o.dst with | some d => s.set d (f k) | none => s) = s := by
      cases hd : o.dst with
      | none => rfl
      | some d =>
        have := h 0 o d rfl hd
        rw [Nat.add_zero] at this
        show s.set d (f k) = s
        rw [this]
        apply List.ext_getElem?
        intro j
        by_cases hj : d = j
        · subst hj
          rw [List.getElem?_set_self']
          cases hs : s[d]? <;> simp [List.getD_eq_getElem?_getD, hs]
        · rw [List.getElem?_set_ne hj]
    show over l (k + 1) f _ = s
    rw [e]
    exact over_same s l (k + 1) f fun i o d h1 h2 => by
      have := h (i + 1) o d (by simpa using h1) h2
      rwa [show k + (i + 1) = k + 1 + i from by omega] at this
theorem over_first (s : List Value) (l : List Oper) : over l 0 (firstF l s) s = s :=
  over_same s l 0 _ fun i o d h1 h2 => by simp [firstF, h1, h2]

/-- What is asked of each operation, one behind the other. -/
def EachOp (G : Nat → Oper → Prop) : Nat → List Oper → Prop
  | _, [] => True
  | k, o :: l => G k o ∧ EachOp G (k + 1) l
theorem EachOp.cons {G : Nat → Oper → Prop} {k : Nat} {o : Oper} {l : List Oper} (h : G k o) (hl : EachOp G (k + 1) l) : EachOp G k (o :: l) := ⟨h, hl⟩
theorem EachOp.nil {G : Nat → Oper → Prop} {k : Nat} : EachOp G k [] := trivial
theorem EachOp.get {G : Nat → Oper → Prop} : ∀ {l : List Oper} {k : Nat}, EachOp G k l → ∀ {i : Nat} {o : Oper}, l[i]? = some o → G (k + i) o
  | [], _, _, i, o, h => by simp at h
  | x :: l, k, hg, 0, o, h => by simp at h; subst h; exact hg.1
  | x :: l, k, hg, i + 1, o, h => by
    have := EachOp.get hg.2 (i := i) (o := o) (by simpa using h)
    rwa [Nat.add_assoc, Nat.add_comm 1 i] at this

/-- Each waits only for such as stand ahead of it. -/
def aheadB : Nat → List Oper → Bool
  | _, [] => true
  | k, o :: l => (o.after.all fun e => !Region.binds .any e || decide (e.on < k)) && aheadB (k + 1) l
theorem aheadB_get : ∀ {l : List Oper} {k : Nat}, aheadB k l = true → ∀ {i : Nat} {o : Oper}, l[i]? = some o → ∀ e ∈ o.after, Region.binds .any e = true → e.on < k + i
  | [], _, _, i, o, h => by simp at h
  | x :: l, k, hg, 0, o, h => by
    simp at h; subst h
    simp only [aheadB, Bool.and_eq_true] at hg
    intro e he hb
    have := (Array.all_eq_true'.1 hg.1) e he
    simp [hb] at this
    omega
  | x :: l, k, hg, i + 1, o, h => by
    simp only [aheadB, Bool.and_eq_true] at hg
    have := aheadB_get hg.2 (i := i) (o := o) (by simpa using h)
    intro e he hb
    have := this e he hb
    omega

/-- For which operations one waits, written out. -/
def waits (o : Oper) : List Nat := (o.after.toList.filter fun e => Region.binds .any e).map (·.on)
theorem of_waits {o : Oper} {n : Nat} (h : n ∈ waits o) : ∃ e ∈ o.after, Region.binds .any e = true ∧ e.on = n := by
  obtain ⟨e, he, rfl⟩ := List.mem_map.1 h
  obtain ⟨h1, h2⟩ := List.mem_filter.1 he
  exact ⟨e, by simpa using h1, h2, rfl⟩
/-- Who has come up has waited. -/
def Closed (l : List Oper) (L : Nat → Bool) : Prop := ∀ i o, l[i]? = some o → L i = true → ∀ n ∈ waits o, L n = true

/-- What is asked of one operation: by what holds between the operations. -/
def OneJ (P : Program) (ops : Array Oper) (A : (Nat → Value) → List Value) (dfs : List Deferred) (J : Nat → (Nat → Bool) → (Nat → Value) → World → Prop) (i : Nat) (o : Oper) : Prop :=
  ∀ (L : Nat → Bool) (f : Nat → Value) (k : Nat) (w : World), k < ops.size → J k L f w → Closed ops.toList L → L i = false → (∀ n ∈ waits o, L n = true) → ∀ Q : Exit → Act → World → Prop,
    (∀ a v w', a = { tmps := (A (upd f i v)).toArray, defers := dfs } → J (k + 1) (upd L i true) (upd f i v) w' → Q .normal a w') → wpList P ops Q [o] { tmps := (A f).toArray, defers := dfs } w

theorem wpOp_of_list {P : Program} {ops : Array Oper} {Q : Exit → Act → World → Prop} {i : Nat} {o : Oper} (ho : ops[i]? = some o) {K : Act → World → Prop} {a : Act} {w : World}
    (h : wpList P ops (fun e => match e with | .normal => K | e => Q e) [o] a w) : wpOp P ops Q i K a w := by
  unfold wpOp
  rw [ho]
  simp only [wpList] at h
  show if _ then _ else _
  split
  · rename_i hw
    rw [if_pos hw] at h
    rcases h with h | ⟨h, h'⟩
    · refine .inl ?_
      unfold Oper.wp at *
      generalize (execOp a.eval o).run P w = r at *
      cases r with
      | ok n w' =>
        cases n <;> simp only [Oper.upon] at h ⊢ <;>
          first
            | exact h
            | exact Calls.mono h (fun e w'' he => by cases e <;> exact he)
      | halt x w' => cases x <;> simp only [Oper.upon] at h ⊢ <;> exact h
    · exact .inr ⟨h, h'⟩
  · rename_i hw
    rw [if_neg hw] at h
    exact h

section
variable {P : Program} {ops : Array Oper} {Q : Exit → Act → World → Prop}
theorem ready_of_ahead (ha : aheadB 0 ops.toList = true) {listed : Array Bool} (hs : listed.size = ops.size) (hr : Region.ready .any ops listed = []) : ∀ i, i < ops.size → listed.getD i true = true := by
  intro i
  induction i using Nat.strongRecOn with
  | ind i ih =>
    intro hi
    rcases hl : listed.getD i true with _ | _
    · have : i ∈ Region.ready .any ops listed := mem_ready.2 ⟨hl, ops[i], by simp [hi], fun e he hb => by
        have h1 := aheadB_get ha (i := i) (o := ops[i]) (by simp [hi]) e he hb
        have h2 := ih e.on (by omega) (by omega)
        have h3 : e.on < listed.size := by omega
        simpa [h3] using h2⟩
      rw [hr] at this
      cases this
    · rfl

theorem walk_inv (A : (Nat → Value) → List Value) (dfs : List Deferred) (J : Nat → (Nat → Bool) → (Nat → Value) → World → Prop)
    (ha : aheadB 0 ops.toList = true) (hops : EachOp (OneJ P ops A dfs J) 0 ops.toList)
    (hend : ∀ L f k w, (∀ i, i < ops.size → L i = true) → J k L f w → Q .normal { tmps := (A f).toArray, defers := dfs } w) :
    ∀ (fuel k : Nat) (listed : Array Bool) (L : Nat → Bool) (f : Nat → Value) (w : World), fuel + k = ops.size → listed.size = ops.size → (listed.toList.filter (!·)).length ≤ fuel →
      (∀ i, i < ops.size → L i = listed.getD i true) → Closed ops.toList L → J k L f w → wpAny P .any ops Q fuel listed { tmps := (A f).toArray, defers := dfs } w := by
  intro fuel
  induction fuel with
  | zero =>
    intro k listed L f w hk hs hc hL hcl hJ
    have hall : ∀ i, i < ops.size → listed.getD i true = true := by
      intro i hi
      have h0 : listed.toList.filter (!·) = [] := List.eq_nil_of_length_eq_zero (by omega)
      have h1 := (List.filter_eq_nil_iff.1 h0) listed[i] (by simp)
      simp at h1
      simp [show i < listed.size by omega, h1]
    refine ⟨?_, hend L f k w (fun i hi => (hL i hi).trans (hall i hi)) hJ⟩
    refine List.eq_nil_iff_forall_not_mem.2 fun j hj => ?_
    obtain ⟨h1, o, h2, -⟩ := mem_ready.1 hj
    have hj' : j < ops.size := by
      rcases Nat.lt_or_ge j ops.size with h | h
      · exact h
      · simp [Array.getElem?_eq_none h] at h2
    rw [hall j hj'] at h1
    cases h1
  | succ fuel ih =>
    intro k listed L f w hk hs hc hL hcl hJ
    refine ⟨fun hr => hend L f k w (fun i hi => (hL i hi).trans (ready_of_ahead ha hs hr i hi)) hJ, fun i hi => ?_⟩
    obtain ⟨h1, o, h2, h3⟩ := mem_ready.1 hi
    have hi' : i < ops.size := by
      rcases Nat.lt_or_ge i ops.size with h | h
      · exact h
      · simp [Array.getElem?_eq_none h] at h2
    have hil : i < listed.size := by omega
    have hG := EachOp.get hops (i := i) (o := o) (by simpa using h2)
    rw [Nat.zero_add] at hG
    have hwt : ∀ n ∈ waits o, L n = true := fun n hn => by
      obtain ⟨e, he, hb, rfl⟩ := of_waits hn
      have h4 := h3 e he hb
      have h5 := aheadB_get ha (i := i) (o := o) (by simpa using h2) e he hb
      have h6 : e.on < listed.size := by omega
      rw [hL e.on (by omega)]
      simpa [h6] using h4
    refine wpOp_of_list h2 (hG L f k w (by omega) hJ hcl ((hL i hi').trans h1) hwt _ ?_)
    rintro a v w' rfl hJ'
    refine ih (k + 1) _ (upd L i true) _ _ (by omega) (by simpa using hs) ?_ ?_ ?_ hJ'
    · have hlf : listed[i] = false := by simpa [hil] using h1
      have e1 : (listed.setIfInBounds i true).toList = listed.toList.set i true := by simp
      rw [e1]
      have : ∀ (l : List Bool) (j : Nat) (hj : j < l.length), l[j] = false → ((l.set j true).filter (!·)).length + 1 = (l.filter (!·)).length := by
        intro l
        induction l with
        | nil => intro j hj; simp at hj
        | cons b l ihl =>
          intro j hj hb
          cases j with
          | zero => simp at hb; subst hb; simp
          | succ j =>
            have := ihl j (by simpa using hj) (by simpa using hb)
            cases b <;> simp <;> omega
      have := this listed.toList i (by simpa using hil) (by simpa using hlf)
      omega
    · intro j hj
      by_cases hji : j = i
      · subst hji; rw [upd_self]; simp [hil]
      · rw [upd_ne _ _ hji, hL j hj]
        have hjl : j < listed.size := by omega
        simp [hjl, Array.getElem_setIfInBounds, Ne.symm hji]
    · intro j oj hoj hLj n hn
      by_cases hni : n = i
      · subst hni; exact upd_self _ _ _
      · rw [upd_ne _ _ hni]
        by_cases hji : j = i
        · subst hji
          obtain rfl : o = oj := by
            have h2' : ops.toList[j]? = some o := by simpa using h2
            exact Option.some.inj (h2'.symm.trans hoj)
          exact hwt n hn
        · rw [upd_ne _ _ hji] at hLj
          exact hcl j oj hoj hLj n hn

/-- **The region, each operation once.** -/
theorem wp_region_inv {id : Nat} {slots : List Value} {dfs : List Deferred} {w : World} (hm : P.follows .mixedOrders = true) (A : (Nat → Value) → List Value) (hA : ∀ f, over ops.toList 0 f slots = A f)
    (J : Nat → (Nat → Bool) → (Nat → Value) → World → Prop) (ha : aheadB 0 ops.toList = true)
    (hJ : J 0 (fun _ => false) (firstF ops.toList slots) w.drew) (hops : EachOp (OneJ P ops A dfs J) 0 ops.toList)
    (hend : ∀ L f k w, (∀ i, i < ops.size → L i = true) → J k L f w → Q .normal { tmps := (A f).toArray, defers := dfs } w) : (Code.region id ops true).wp P Q { tmps := slots.toArray, defers := dfs } w := by
  have e : slots = A (firstF ops.toList slots) := by rw [← hA, over_first]
  rw [e]
  have h0 : ∀ i, (if i < ops.size then false else true) = (Array.replicate ops.size false).getD i true := by
    intro i
    by_cases hi : i < ops.size <;> simp [hi]
  refine wp_region_any hm (walk_inv A dfs J ha hops hend ops.size 0 _ (fun _ => false) (firstF ops.toList slots) _ (by omega) (by simp) ?_ ?_ ?_ hJ)
  · exact Nat.le_trans (List.length_filter_le _ _) (by simp)
  · intro i hi
    simp [hi]
  · intro i o _ h
    cases h

/-- Of the operations that one waits for: what they have left. -/
def Deps (S : Nat → World → Value → Prop) (f : Nat → Value) (w : World) : List Nat → Prop
  | [] => True
  | n :: l => S n w (f n) ∧ Deps S f w l
theorem deps_of {S : Nat → World → Value → Prop} {f : Nat → Value} {w : World} : ∀ {l : List Nat}, (∀ n ∈ l, S n w (f n)) → Deps S f w l
  | [], _ => trivial
  | n :: l, h => ⟨h n (by simp), deps_of fun m hm => h m (by simp [hm])⟩
/-- What is asked of one operation: by what each leaves in its slot, which stays so. -/
def OneOp (P : Program) (ops : Array Oper) (A : (Nat → Value) → List Value) (dfs : List Deferred) (I : Nat → World → Prop) (R : World → World → Prop) (S : Nat → World → Value → Prop) (i : Nat) (o : Oper) : Prop :=
  ∀ (f : Nat → Value) (k : Nat) (w : World), k < ops.size → I k w → Deps S f w (waits o) → ∀ Q : Exit → Act → World → Prop,
    (∀ a v w', a = { tmps := (A (upd f i v)).toArray, defers := dfs } → I (k + 1) w' → R w w' → S i w' v → Q .normal a w') → wpList P ops Q [o] { tmps := (A f).toArray, defers := dfs } w
theorem eachOp_j {A : (Nat → Value) → List Value} {dfs : List Deferred} {I : Nat → World → Prop} {R : World → World → Prop} {S : Nat → World → Value → Prop}
    (hS : ∀ i k v w w', S i w v → I k w' → R w w' → S i w' v) {n : Nat} : ∀ (l : List Oper) (k : Nat), EachOp (OneOp P ops A dfs I R S) k l → (∀ (i : Nat) (o : Oper), l[i]? = some o → ∀ m ∈ waits o, m < n) → n = ops.size →
      EachOp (OneJ P ops A dfs (fun k L f w => I k w ∧ ∀ i, i < ops.size → L i = true → S i w (f i))) k l
  | [], _, _, _, _ => trivial
  | o :: l, k, h, hw, hn => by
    refine ⟨?_, eachOp_j hS l (k + 1) h.2 (fun i o ho => hw (i + 1) o (by simpa using ho)) hn⟩
    intro L f q w hq hJ _ _ hL Q hQ
    refine h.1 f q w hq hJ.1 (deps_of fun m hm => hJ.2 m (by have := hw 0 o rfl m hm; omega) (hL m hm)) Q ?_
    rintro a v w' rfl hI hR hSv
    refine hQ _ v w' rfl ⟨hI, fun j hj hLj => ?_⟩
    by_cases hjk : j = k
    · subst hjk; rw [upd_self]; exact hSv
    · rw [upd_ne _ _ hjk] at hLj ⊢
      exact hS j _ _ w w' (hJ.2 j hj hLj) hI hR
/-- **The same, where what is left in a slot stays so.** -/
theorem wp_region_free {id : Nat} {slots : List Value} {dfs : List Deferred} {w : World} (hm : P.follows .mixedOrders = true) (A : (Nat → Value) → List Value) (hA : ∀ f, over ops.toList 0 f slots = A f)
    (I : Nat → World → Prop) (R : World → World → Prop) (S : Nat → World → Value → Prop) (ha : aheadB 0 ops.toList = true)
    (hS : ∀ i k v w w', S i w v → I k w' → R w w' → S i w' v) (hI : I 0 w.drew)
    (hops : EachOp (OneOp P ops A dfs I R S) 0 ops.toList)
    (hend : ∀ f k w, I k w → (∀ i, i < ops.size → S i w (f i)) → Q .normal { tmps := (A f).toArray, defers := dfs } w) : (Code.region id ops true).wp P Q { tmps := slots.toArray, defers := dfs } w :=
  wp_region_inv hm A hA (fun k L f w => I k w ∧ ∀ i, i < ops.size → L i = true → S i w (f i)) ha ⟨hI, fun _ _ h => by cases h⟩
    (eachOp_j hS (n := ops.size) ops.toList 0 hops (fun i o ho m hm => by
      obtain ⟨e, he, hb, rfl⟩ := of_waits hm
      have h1 := aheadB_get ha ho e he hb
      have h2 : i < ops.toList.length := by
        rcases Nat.lt_or_ge i ops.toList.length with h | h
        · exact h
        · rw [List.getElem?_eq_none h] at ho; cases ho
      simp at h2
      omega) rfl)
    (fun L f k w hL hJ => hend f k w hJ.1 fun i hi => hJ.2 i hi (hL i hi))
theorem wp_region_free' {id : Nat} {slots : List Value} {dfs : List Deferred} {w : World} (hm : P.follows .mixedOrders = true)
    (I : Nat → World → Prop) (R : World → World → Prop) (S : Nat → World → Value → Prop) (ha : aheadB 0 ops.toList = true)
    (hS : ∀ i k v w w', S i w v → I k w' → R w w' → S i w' v) (hI : I 0 w.drew)
    (h : ∃ A : (Nat → Value) → List Value, (∀ f, over ops.toList 0 f slots = A f) ∧ EachOp (OneOp P ops A dfs I R S) 0 ops.toList ∧
      ∀ f k w, I k w → (∀ i, i < ops.size → S i w (f i)) → Q .normal { tmps := (A f).toArray, defers := dfs } w) : (Code.region id ops true).wp P Q { tmps := slots.toArray, defers := dfs } w :=
  let ⟨A, hA, hops, hend⟩ := h
  wp_region_free hm A hA I R S ha hS hI hops hend
end
end Go.Proofs.YtjhgmmcglonokaaGreatDoor

namespace Go.Proofs.YtjhgmmcglonokaaGreatDoor
open Go
set_option linter.unusedVariables false

section
variable {P : Program} {ops : Array Oper} {Q : Exit → Act → World → Prop}
theorem eachJ_k {A : (Nat → Value) → List Value} {dfs : List Deferred} {J : Nat → (Nat → Bool) → (Nat → Value) → World → Prop} : ∀ (l : List Oper) (q : Nat), EachOp (OneJ P ops A dfs J) q l →
    EachOp (OneJ P ops A dfs (fun k L f w => k ≤ ops.size ∧ J k L f w)) q l
  | [], _, _ => trivial
  | o :: l, q, h => ⟨fun L f k w hk hJ hc hL hw Q hQ => h.1 L f k w hk hJ.2 hc hL hw Q (fun a v w' ha hJ' => hQ a v w' ha ⟨hk, hJ'⟩), eachJ_k l (q + 1) h.2⟩
theorem wp_region_invK {id : Nat} {slots : List Value} {dfs : List Deferred} {w : World} (hm : P.follows .mixedOrders = true)
    (J : Nat → (Nat → Bool) → (Nat → Value) → World → Prop) (ha : aheadB 0 ops.toList = true) (hJ : J 0 (fun _ => false) (firstF ops.toList slots) w.drew)
    (h : ∃ A : (Nat → Value) → List Value, (∀ f, over ops.toList 0 f slots = A f) ∧ EachOp (OneJ P ops A dfs J) 0 ops.toList ∧
      ∀ L f k w, k ≤ ops.size → (∀ i, i < ops.size → L i = true) → J k L f w → Q .normal { tmps := (A f).toArray, defers := dfs } w) : (Code.region id ops true).wp P Q { tmps := slots.toArray, defers := dfs } w :=
  let ⟨A, hA, hops, hend⟩ := h
  wp_region_inv hm A hA (fun k L f w => k ≤ ops.size ∧ J k L f w) ha ⟨Nat.zero_le _, hJ⟩ (eachJ_k _ _ hops) (fun L f k w hL hJ => hend L f k w hJ.1 hL hJ.2)
end
end Go.Proofs.YtjhgmmcglonokaaGreatDoor

namespace Go.Proofs.YtjhgmmcglonokaaGreatDoor
open Go.RowKit
set_option linter.unusedVariables false

structure TE (E : Nat → Nat) (m : Nat) (I : Nat → World → Prop) (S : Nat → World → Value → Prop) (v0 : Value) (M : Value → World → Prop) (k : Nat) (L : Nat → Bool) (f : Nat → Value) (W : World) : Prop where
  inv : L m = false → I k W
  pre : ∀ i, i < m → L i = true → L (E i) = false → L m = false → S i W (f i)
  zero : L (m + 1) = false → f (m + 1) = v0
  mid : L m = true → M (f m) W
  fin : L (m + 1) = true → M (f (m + 1)) W
section
variable {E : Nat → Nat} {m k : Nat} {I : Nat → World → Prop} {S : Nat → World → Value → Prop} {v0 : Value} {M : Value → World → Prop} {L : Nat → Bool} {f : Nat → Value} {W W' : World}
theorem TE.start (h0 : f (m + 1) = v0) (h : I 0 W) : TE E m I S v0 M 0 (fun _ => false) f W := ⟨fun _ => h, fun _ _ a => (by cases a), fun _ => h0, fun a => (by cases a), fun a => (by cases a)⟩
theorem TE.pre_op (h : TE E m I S v0 M k L f W) {i : Nat} {v : Value} (hi : i < m) (hm : L m = false) (hm1 : L (m + 1) = false) (hI : I (k + 1) W') (hS : ∀ j v, L j = true → E j ≠ i → S j W v → S j W' v) (hv : S i W' v) : TE E m I S v0 M (k + 1) (upd L i true) (upd f i v) W' := by
  have u : ∀ {α : Type} (g : Nat → α) (x : α) (j : Nat), m ≤ j → upd g i x j = g j := fun g x j hj => upd_ne g x (by omega)
  refine ⟨fun _ => hI, fun j hj hL hE _ => ?_, ?_, ?_, ?_⟩
  · by_cases e : j = i
    · subst e; rw [upd_self]; exact hv
    · rw [upd_ne _ _ e] at hL ⊢
      by_cases e2 : E j = i
      · rw [e2, upd_self] at hE; cases hE
      · rw [upd_ne _ _ e2] at hE
        exact hS _ _ hL e2 (h.pre j hj hL hE hm)
  · rw [u _ _ _ (by omega), u _ _ _ (by omega)]; exact h.zero
  · rw [u _ _ _ (Nat.le_refl _), hm]; exact fun a => by cases a
  · rw [u _ _ _ (by omega), hm1]; exact fun a => by cases a
theorem TE.app_op (h : TE E m I S v0 M k L f W) {v : Value} (hm1 : L (m + 1) = false) (hM : M v W') : TE E m I S v0 M (k + 1) (upd L m true) (upd f m v) W' := by
  have u : ∀ {α : Type} (g : Nat → α) (x : α) (j : Nat), j ≠ m → upd g m x j = g j := fun g x j hj => upd_ne g x hj
  refine ⟨fun a => (by rw [upd_self] at a; cases a), fun _ _ _ _ a => (by rw [upd_self] at a; cases a), ?_, fun _ => (by rw [upd_self]; exact hM), ?_⟩
  · rw [u _ _ _ (by omega), u _ _ _ (by omega)]; exact h.zero
  · rw [u _ _ _ (by omega), hm1]; exact fun a => by cases a
theorem TE.fin_op (h : TE E m I S v0 M k L f W) {v : Value} (hm : L m = true) (hv : v = f m) : TE E m I S v0 M (k + 1) (upd L (m + 1) true) (upd f (m + 1) v) W := by
  have u : ∀ {α : Type} (g : Nat → α) (x : α) (j : Nat), j ≠ m + 1 → upd g (m + 1) x j = g j := fun g x j hj => upd_ne g x hj
  refine ⟨?_, fun j hj _ _ => ?_, fun a => (by rw [upd_self] at a; cases a), ?_, fun _ => ?_⟩
  · rw [u _ _ _ (by omega), hm]; exact fun a => by cases a
  · rw [u _ _ _ (by omega), hm]; exact fun a => by cases a
  · rw [u _ _ _ (by omega), u _ _ _ (by omega)]; exact h.mid
  · rw [upd_self, hv]; exact h.mid hm
end
end Go.Proofs.YtjhgmmcglonokaaGreatDoor

namespace Go.Proofs.YtjhgmmcglonokaaGreatDoor
open Go.RowKit
set_option linter.unusedVariables false

structure TX (m : Nat) (I : Nat → World → Prop) (S : Nat → World → Value → Prop) (v0 : Value) (M : Value → World → Prop) (k : Nat) (L : Nat → Bool) (f : Nat → Value) (W : World) : Prop where
  inv : L m = false → I k W
  pre : ∀ i, i < m → L i = true → L m = false → S i W (f i)
  zero : L (m + 1) = false → f (m + 1) = v0
  mid : L m = true → M (f m) W
  fin : L (m + 1) = true → M (f (m + 1)) W
section
variable {m k : Nat} {I : Nat → World → Prop} {S : Nat → World → Value → Prop} {v0 : Value} {M : Value → World → Prop} {L : Nat → Bool} {f : Nat → Value} {W W' : World}
theorem TX.start (h0 : f (m + 1) = v0) (h : I 0 W) : TX m I S v0 M 0 (fun _ => false) f W := ⟨fun _ => h, fun _ _ a => (by cases a), fun _ => h0, fun a => (by cases a), fun a => (by cases a)⟩
theorem TX.pre_op (h : TX m I S v0 M k L f W) {i : Nat} {v : Value} (hi : i < m) (hm : L m = false) (hm1 : L (m + 1) = false) (hI : I (k + 1) W') (hS : ∀ j v, S j W v → S j W' v) (hv : S i W' v) : TX m I S v0 M (k + 1) (upd L i true) (upd f i v) W' := by
  have u : ∀ {α : Type} (g : Nat → α) (x : α) (j : Nat), m ≤ j → upd g i x j = g j := fun g x j hj => upd_ne g x (by omega)
  refine ⟨fun _ => hI, fun j hj hL _ => ?_, ?_, ?_, ?_⟩
  · by_cases e : j = i
    · subst e; rw [upd_self]; exact hv
    · rw [upd_ne _ _ e] at hL ⊢; exact hS _ _ (h.pre j hj hL hm)
  · rw [u _ _ _ (by omega), u _ _ _ (by omega)]; exact h.zero
  · rw [u _ _ _ (Nat.le_refl _), hm]; exact fun a => by cases a
  · rw [u _ _ _ (by omega), hm1]; exact fun a => by cases a
theorem TX.app_op (h : TX m I S v0 M k L f W) {v : Value} (hm1 : L (m + 1) = false) (hM : M v W') : TX m I S v0 M (k + 1) (upd L m true) (upd f m v) W' := by
  have u : ∀ {α : Type} (g : Nat → α) (x : α) (j : Nat), j ≠ m → upd g m x j = g j := fun g x j hj => upd_ne g x hj
  refine ⟨fun a => (by rw [upd_self] at a; cases a), fun _ _ _ a => (by rw [upd_self] at a; cases a), ?_, fun _ => (by rw [upd_self]; exact hM), ?_⟩
  · rw [u _ _ _ (by omega), u _ _ _ (by omega)]; exact h.zero
  · rw [u _ _ _ (by omega), hm1]; exact fun a => by cases a
theorem TX.fin_op (h : TX m I S v0 M k L f W) {v : Value} (hm : L m = true) (hv : v = f m) : TX m I S v0 M (k + 1) (upd L (m + 1) true) (upd f (m + 1) v) W := by
  have u : ∀ {α : Type} (g : Nat → α) (x : α) (j : Nat), j ≠ m + 1 → upd g (m + 1) x j = g j := fun g x j hj => upd_ne g x hj
  refine ⟨?_, fun j hj _ => ?_, fun a => (by rw [upd_self] at a; cases a), ?_, fun _ => ?_⟩
  · rw [u _ _ _ (by omega), hm]; exact fun a => by cases a
  · rw [u _ _ _ (by omega), hm]; exact fun a => by cases a
  · rw [u _ _ _ (by omega), u _ _ _ (by omega)]; exact h.mid
  · rw [upd_self, hv]; exact h.mid hm
end
end Go.Proofs.YtjhgmmcglonokaaGreatDoor

namespace Go.Proofs.YtjhgmmcglonokaaGreatDoor
open Go.RowKit
set_option linter.unusedVariables false

/-- A region whose last operations append and store. -/
structure TA (m : Nat) (I : Nat → World → Prop) (S : Nat → World → Value → Prop) (F : Value) (M : Value → World → Prop) (R : World → Prop) (k : Nat) (L : Nat → Bool) (f : Nat → Value) (W : World) : Prop where
  inv : L m = false → I k W
  pre : ∀ i, i < m → L i = true → L m = false → S i W (f i)
  fld : L (m + 1) = true → f (m + 1) = F
  mid : L m = true → L (m + 2) = false → M (f m) W
  done : L (m + 2) = true → R W
section
variable {m k : Nat} {I : Nat → World → Prop} {S : Nat → World → Value → Prop} {F : Value} {M : Value → World → Prop} {R : World → Prop} {L : Nat → Bool} {f : Nat → Value} {W W' : World}
theorem TA.start (h : I 0 W) : TA m I S F M R 0 (fun _ => false) f W := ⟨fun _ => h, fun _ _ a => (by cases a), fun a => (by cases a), fun a => (by cases a), fun a => (by cases a)⟩
theorem TA.pre_op (h : TA m I S F M R k L f W) {i : Nat} {v : Value} (hi : i < m) (hm : L m = false) (hm2 : L (m + 2) = false) (hI : I (k + 1) W') (hS : ∀ j v, S j W v → S j W' v) (hv : S i W' v) : TA m I S F M R (k + 1) (upd L i true) (upd f i v) W' := by
  have u : ∀ {α : Type} (g : Nat → α) (x : α) (j : Nat), m ≤ j → upd g i x j = g j := fun g x j hj => upd_ne g x (by omega)
  refine ⟨fun _ => hI, fun j hj hL _ => ?_, ?_, ?_, ?_⟩
  · by_cases e : j = i
    · subst e; rw [upd_self]; exact hv
    · rw [upd_ne _ _ e] at hL ⊢; exact hS _ _ (h.pre j hj hL hm)
  · rw [u _ _ _ (by omega), u _ _ _ (by omega)]; exact h.fld
  · rw [u _ _ _ (Nat.le_refl _), hm]; exact fun a => by cases a
  · rw [u _ _ _ (by omega), hm2]; exact fun a => by cases a
theorem TA.fld_op (h : TA m I S F M R k L f W) (hm2 : L (m + 2) = false) (hI : I k W → I (k + 1) W) : TA m I S F M R (k + 1) (upd L (m + 1) true) (upd f (m + 1) F) W := by
  have u : ∀ {α : Type} (g : Nat → α) (x : α) (j : Nat), j ≠ m + 1 → upd g (m + 1) x j = g j := fun g x j hj => upd_ne g x hj
  refine ⟨?_, fun j hj => ?_, fun _ => upd_self _ _ _, ?_, ?_⟩
  · rw [u _ _ _ (by omega)]; exact fun a => hI (h.inv a)
  · rw [u _ _ _ (by omega), u _ _ _ (by omega), u _ _ _ (by omega)]; exact h.pre j hj
  · rw [u _ _ _ (by omega), u _ _ _ (by omega), u _ _ _ (by omega)]; exact h.mid
  · rw [u _ _ _ (by omega), hm2]; exact fun a => by cases a
theorem TA.app_op (h : TA m I S F M R k L f W) {v : Value} (hm2 : L (m + 2) = false) (hM : M v W') : TA m I S F M R (k + 1) (upd L m true) (upd f m v) W' := by
  have u : ∀ {α : Type} (g : Nat → α) (x : α) (j : Nat), j ≠ m → upd g m x j = g j := fun g x j hj => upd_ne g x hj
  refine ⟨fun a => (by rw [upd_self] at a; cases a), fun _ _ _ a => (by rw [upd_self] at a; cases a), ?_, fun _ _ => (by rw [upd_self]; exact hM), ?_⟩
  · rw [u _ _ _ (by omega), u _ _ _ (by omega)]; exact h.fld
  · rw [u _ _ _ (by omega), hm2]; exact fun a => by cases a
theorem TA.store_op (h : TA m I S F M R k L f W) (v : Value) (hm : L m = true) (hR : R W') : TA m I S F M R (k + 1) (upd L (m + 2) true) (upd f (m + 2) v) W' := by
  have u : ∀ {α : Type} (g : Nat → α) (x : α) (j : Nat), j ≠ m + 2 → upd g (m + 2) x j = g j := fun g x j hj => upd_ne g x hj
  refine ⟨?_, fun j hj _ => ?_, ?_, fun _ a => (by rw [upd_self] at a; cases a), fun _ => hR⟩
  · rw [u _ _ _ (by omega), hm]; exact fun a => by cases a
  · rw [u _ _ _ (by omega), hm]; exact fun a => by cases a
  · rw [u _ _ _ (by omega), u _ _ _ (by omega)]; exact h.fld
end
end Go.Proofs.YtjhgmmcglonokaaGreatDoor

namespace Go.Proofs.YtjhgmmcglonokaaGreatDoor
open Go.RowKit
set_option linter.unusedVariables false

/-- S: what each slot holds; p, q: the two calls, R: what holds of both; i1, i2: where they are put. -/
structure TP (wy : World) (S : Nat → World → Value → Prop) (p q i1 i2 : Nat) (R : World → Value → Value → Prop) (L : Nat → Bool) (f : Nat → Value) (W : World) : Prop where
  inv : Below wy.heap.size wy W
  pre : ∀ i, L i = true → S i W (f i)
  both : L p = true → L q = true → R W (f p) (f q)
  c1 : L i1 = true → f i1 = f p
  c2 : L i2 = true → f i2 = f q
section
variable {wy : World} {S : Nat → World → Value → Prop} {p q i1 i2 : Nat} {R : World → Value → Value → Prop} {L : Nat → Bool} {f : Nat → Value} {W W' : World}
theorem TP.start (h : Below wy.heap.size wy W) : TP wy S p q i1 i2 R (fun _ => false) f W := ⟨h, fun _ a => (by cases a), fun a => (by cases a), fun a => (by cases a), fun a => (by cases a)⟩
theorem TP.op (h : TP wy S p q i1 i2 R L f W) {i : Nat} {v : Value} (hb : Below W.heap.size W W') (hS : ∀ j v, S j W v → S j W' v) (hR : ∀ a b, R W a b → R W' a b) (hv : S i W' v)
    (hpq : p ≠ q) (hp : i = p → L q = true → R W' v (f q)) (hq : i = q → L p = true → R W' (f p) v) (n1 : i = p → L i1 = false) (n2 : i = q → L i2 = false)
    (d1 : i1 ≠ p) (d2 : i2 ≠ q) (d3 : i1 ≠ q) (d4 : i2 ≠ p) (d5 : i1 ≠ i2) (e1 : i = i1 → v = f p) (e2 : i = i2 → v = f q) : TP wy S p q i1 i2 R (upd L i true) (upd f i v) W' := by
  refine ⟨h.inv.trans (hb.mono h.inv.size), fun j hj => ?_, fun a b => ?_, fun a => ?_, fun a => ?_⟩
  · by_cases e : j = i
    · subst e; rw [upd_self]; exact hv
    · rw [upd_ne _ _ e] at hj ⊢; exact hS _ _ (h.pre j hj)
  · by_cases ep : i = p
    · subst ep
      rw [upd_ne _ _ (Ne.symm hpq)] at b ⊢
      rw [upd_self]; exact hp rfl b
    · rw [upd_ne _ _ (Ne.symm ep)] at a ⊢
      by_cases eq : i = q
      · subst eq; rw [upd_self]; exact hq rfl a
      · rw [upd_ne _ _ (Ne.symm eq)] at b ⊢; exact hR _ _ (h.both a b)
  · by_cases ep : i = p
    · subst ep
      rw [upd_ne _ _ d1] at a; rw [n1 rfl] at a; cases a
    · rw [upd_ne f _ (Ne.symm ep)]
      by_cases ei : i = i1
      · subst ei; rw [upd_self]; exact e1 rfl
      · rw [upd_ne _ _ (Ne.symm ei)] at a ⊢; exact h.c1 a
  · by_cases eq : i = q
    · subst eq
      rw [upd_ne _ _ d2] at a; rw [n2 rfl] at a; cases a
    · rw [upd_ne f _ (Ne.symm eq)]
      by_cases ei : i = i2
      · subst ei; rw [upd_self]; exact e2 rfl
      · rw [upd_ne _ _ (Ne.symm ei)] at a ⊢; exact h.c2 a
end
end Go.Proofs.YtjhgmmcglonokaaGreatDoor
