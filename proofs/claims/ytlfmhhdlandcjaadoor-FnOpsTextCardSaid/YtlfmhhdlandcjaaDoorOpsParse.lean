/-
  Ops that were written are read as they were. No program is walked here.
-/
import Derived.Test.YtlfmhhdlandcjaaDoorOpsText
import Derived.Test.YtlfmhhdlandcjaaDoorReadMath
namespace Go.Proofs.YtlfmhhdlandcjaaDoor
open Go.RowKit
set_option linter.unusedVariables false
set_option linter.unusedSimpArgs false

def rdPart (l : List UInt8) : Option (Int × List UInt8) := (rdNext 58 l).bind rdNum
def rdOp (l : List UInt8) : Option (OpD × List UInt8) :=
  (rdPart (offOf letS l)).bind fun p => (rdPart p.2).bind fun q => (rdPart q.2).bind fun s => some (⟨⟨(runOf letS l).toArray⟩, p.1, q.1, s.1⟩, s.2)
def rdOps (l : List UInt8) : Option (List OpD × List UInt8) := rdList 44 rdOp l
theorem let_in {b : UInt8} (h : letB b = true) : letS.contains b = true := by
  have q : ∀ n, n < 123 → 97 ≤ n → letS.contains (UInt8.ofNat n) = true := by decide
  simp only [letB, Bool.and_eq_true, decide_eq_true_eq] at h
  have := q b.toNat (by omega) (by omega)
  rwa [UInt8.ofNat_toNat] at this
theorem rdPart_itoa {x : Int} (h : x.natAbs < 100000000000000000) {r : List UInt8} (hr : ∀ a b, r = a :: b → figS.contains a = false) : rdPart (58 :: (Lib.itoa x ++ r)) = some (x, r) := by
  unfold rdPart
  rw [rdNext_cons, Option.bind_some, rdNum_itoa h hr]
theorem colon_fig : ∀ (l : List UInt8) a b, 58 :: l = a :: b → figS.contains a = false := fun l a b e => by cases e; rfl
theorem opB_list (d : OpD) : (opB d).data.toList = d.leg.data.toList ++ 58 :: (Lib.itoa d.cls ++ 58 :: (Lib.itoa d.st ++ 58 :: Lib.itoa d.sh)) := by
  simp [opB, intB]
theorem rdOp_opB {d : OpD} (h : OpGood d) {r : List UInt8} (hr : ∀ a b, r = a :: b → figS.contains a = false) : rdOp ((opB d).data.toList ++ r) = some (d, r) := by
  obtain ⟨h1, h2, h3, h4, h5⟩ := h
  have hl : ∀ x ∈ d.leg.data.toList, letS.contains x = true := by
    intro x hx
    simp only [nameB, Bool.and_eq_true] at h1
    exact let_in (List.all_eq_true.1 h1.2 x hx)
  have e : (opB d).data.toList ++ r = d.leg.data.toList ++ 58 :: (Lib.itoa d.cls ++ 58 :: (Lib.itoa d.st ++ 58 :: (Lib.itoa d.sh ++ r))) := by
    rw [opB_list]; simp
  obtain ⟨q1, q2⟩ := run_app letS d.leg.data.toList (58 :: (Lib.itoa d.cls ++ 58 :: (Lib.itoa d.st ++ 58 :: (Lib.itoa d.sh ++ r)))) hl (fun a b e => by cases e; rfl)
  rw [rdOp, e, q1, q2, rdPart_itoa (by omega) (colon_fig _)]
  simp only [Option.bind_some]
  rw [rdPart_itoa (by omega) (colon_fig _)]
  simp only [Option.bind_some]
  rw [rdPart_itoa (by omega) hr]
  simp only [Option.bind_some]
def opList (ds : Nat → OpD) (i : Nat) : Nat → List OpD
  | 0 => []
  | k + 1 => ds i :: opList ds (i + 1) k
def restL (ds : Nat → OpD) (i : Nat) : Nat → List UInt8
  | 0 => []
  | k + 1 => 44 :: ((opB (ds i)).data.toList ++ restL ds (i + 1) k)
theorem restL_snoc (ds : Nat → OpD) : ∀ (k i : Nat), restL ds i (k + 1) = restL ds i k ++ 44 :: (opB (ds (i + k))).data.toList
  | 0, i => by simp [restL]
  | k + 1, i => by
    rw [restL, restL_snoc ds k (i + 1), restL]
    have : i + 1 + k = i + (k + 1) := by omega
    rw [this]; simp
theorem opsB_rest (ds : Nat → OpD) : ∀ n, (opsB ds (n + 1)).data.toList = (opB (ds 0)).data.toList ++ restL ds 1 n
  | 0 => by simp [opsB, restL]
  | n + 1 => by
    rw [opsB, restL_snoc]
    have : (opsB ds (n + 1)).data.toList = _ := opsB_rest ds n
    simp only [ByteArray.data_append, Array.toList_append, this]
    simp [Nat.add_comm]
theorem restL_fig (ds : Nat → OpD) (i k : Nat) : ∀ a b, restL ds i k = a :: b → figS.contains a = false := by
  intro a b e
  cases k with
  | zero => cases e
  | succ k => rw [restL] at e; cases e; rfl
theorem rdTail_rest (ds : Nat → OpD) : ∀ (k i n : Nat) (acc : List OpD), (∀ j, i ≤ j → j < i + k → OpGood (ds j)) → (restL ds i k).length ≤ n → rdTail 44 rdOp n (restL ds i k) acc = some (acc ++ opList ds i k, [])
  | 0, i, n, acc, hg, hn => by rw [restL, rdTail_stop rfl, opList]; simp
  | k + 1, i, n, acc, hg, hn => by
    have h1 : rdNext 44 (restL ds i (k + 1)) = some ((opB (ds i)).data.toList ++ restL ds (i + 1) k) := by rw [restL, rdNext_cons]
    have h2 := rdOp_opB (hg i (by omega) (by omega)) (restL_fig ds (i + 1) k)
    obtain ⟨m, -, hm, e⟩ := rdTail_more h1 h2 hn acc
    rw [e, rdTail_rest ds k (i + 1) m _ (fun j a b => hg j (by omega) (by omega)) (by rw [List.length_append] at hm; omega), opList]
    simp
theorem rdOps_opsB {n : Nat} {ds : Nat → OpD} (h : OpsGood n ds) : rdOps (opsB ds n).data.toList = some (opList ds 0 n, []) := by
  obtain ⟨⟨h1, h2⟩, h3⟩ := h
  obtain ⟨k, rfl⟩ : ∃ k, n = k + 1 := ⟨n - 1, by omega⟩
  rw [opsB_rest, rdOps, rdList, rdOp_opB (h3 0 (by omega)).1 (restL_fig ds 1 k)]
  simp only
  rw [rdTail_rest ds k 1 _ _ (fun j a b => (h3 j (by omega)).1) (Nat.le_refl _), opList]
  rfl
theorem opList_len (ds : Nat → OpD) : ∀ k i, (opList ds i k).length = k
  | 0, i => rfl
  | k + 1, i => by rw [opList, List.length_cons, opList_len ds k (i + 1)]
theorem opList_get (ds : Nat → OpD) : ∀ k i j, j < k → (opList ds i k)[j]? = some (ds (i + j))
  | 0, i, j, h => by omega
  | k + 1, i, 0, h => by rw [opList]; rfl
  | k + 1, i, j + 1, h => by
    rw [opList, List.getElem?_cons_succ, opList_get ds k (i + 1) j (by omega)]
    congr 2; omega
/-- Two that are written the same are the same. -/
theorem opsB_one {n n' : Nat} {ds ds' : Nat → OpD} (h : OpsGood n ds) (h' : OpsGood n' ds') (e : opsB ds n = opsB ds' n') : n = n' ∧ ∀ i, i < n → ds i = ds' i := by
  have a := rdOps_opsB h
  have b := rdOps_opsB h'
  rw [e, b] at a
  have c : opList ds' 0 n' = opList ds 0 n := by injection a with a; exact congrArg Prod.fst a
  have l := congrArg List.length c
  rw [opList_len, opList_len] at l
  subst l
  refine ⟨rfl, fun i hi => ?_⟩
  have u := opList_get ds n' 0 i hi
  have v := opList_get ds' n' 0 i hi
  rw [c, u, Nat.zero_add] at v
  exact Option.some.inj v
end Go.Proofs.YtlfmhhdlandcjaaDoor
