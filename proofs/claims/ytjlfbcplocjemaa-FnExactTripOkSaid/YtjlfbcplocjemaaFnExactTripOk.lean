/-
  At every net and trip, but where both are larger than a mebibyte: TripOk of the program is the model's; net and trip are as they were, and nothing is written into them.
-/
import Derived.Test.YtjlfbcplocjemaaLawTripOk
import Derived.WalkKit
import Derived.ProofKit
import Derived.OpenShut
import Derived.ShutString
import Derived.ChangeOld
import Derived.SliceStrings
import Derived.Below
namespace Go.Proofs.Ytjlfbcplocjemaa.fnExactTripOk
open Go.ChangeShapes Go.WideShapes Go.ChangeAt Go.RowKit
open Go.ChangeMaps (open_string shut_string)
set_option linter.unusedVariables false

theorem own : ownKnob Try.prog.godebug = none := by kernel_rfl
theorem laidOut : laidOutB Try.prog = true := by kernel_rfl


theorem walk (a0 : Option Addr) (len0 cap0 : Nat) (ds0 : Nat → LegD) (ps0 : Nat → LegP) (ta1 : Option Addr) (tl1 tc1 : Nat) (tz1 : List ByteArray) (tf1 : ByteArray) (tm1 : Int) (w : World) (w0 : IsNet w a0 len0 cap0 ds0 ps0) (w1 : TripRow w ta1 tl1 tc1 tz1 tf1 tm1) :
    Calls Try.prog 4 #[.slice a0 len0 cap0, .agg #[.slice ta1 tl1 tc1, .string tf1, .int .i64 tm1]] w fun e w' => e = .returned (.bool true) ∧ Below w.heap.size w w' := by
  exact exactTripOk a0 len0 cap0 ds0 ps0 ta1 tl1 tc1 tz1 tf1 tm1 w w0 w1

set_option maxRecDepth 100000 in
theorem lifted (os : Os) (started : os.Started) (H : Type) (enc : TypeId × Value → H) :
    ReturnsInHanded {} Try.checked os 4 .any (Rows.fnExactTripOkSpec.pre6 enc Try.prog Try.f4 Rows.fnExactTripOkRow.domain false) (Rows.fnExactTripOkSpec.post enc Try.prog Try.f4 false true false false) := by
  refine returnsInHanded_of_change (C := Try.checked) own started (by kernel_rfl) Try.func4
    (ChangeSpec.witness6 (enc := enc) (C := Try.checked) false ⟨#[], #[.slice none 0 0, .agg #[.slice none 0 0, .string ByteArray.empty, .int .i64 0]], []⟩ 8 (by kernel_rfl) (by kernel_rfl) (by kernel_rfl) (by kernel_rfl)) ?_
  intro W base args ds gs before hval0 hW hcnd _
  have hval : ∀ (j : Nat) t v, Try.f4.params[j]? = some t → args[j]? = some v → Value.okWide Try.prog W .any base t v := hval0
  have hW' := hW
  obtain ⟨p, q, hA0, hV, rfl, hfz, hnd⟩ := hW
  have hA : DataW.TrodAll enc Try.prog W 0 (fun _ => true) true Try.f4.params.toList args.toList ds p := hA0
  rw [Try.params4] at hA hval
  obtain ⟨v0, vs0, d0, ds0, p0, q0, hargs, rfl, rfl, h0, r0⟩ := trodAll_cons hA
  obtain ⟨v1, vs1, d1, ds1, p1, q1, rfl, rfl, rfl, h1, r1⟩ := trodAll_cons r0
  obtain ⟨rfl, rfl, rfl⟩ := trodAll_nil r1
  obtain rfl : args = #[v0, v1] := by cases args; simp_all
  obtain ⟨rfl, rfl⟩ := trodVars_none hV
  obtain ⟨a0, len0, cap0, rfl⟩ := okWide_slice Try.underlying36 (hval 0 36 v0 rfl rfl)
  have k0 := h0
  have lt0 : ∀ x ∈ p0, x.block < W.heap.size := by obtain ⟨m, hm⟩ := k0; exact DataW.trod_lt m _ _ _ hm
  obtain ⟨ds0, ps0, w0⟩ : ∃ ds0 ps0, IsNet W a0 len0 cap0 ds0 ps0 := by
    obtain ⟨fuel, hf⟩ := h0
    exact openNet (fun _ => rfl) hf
  obtain ⟨cs1, rfl, hsz1⟩ := okWide_struct Try.underlying37 (hval 1 37 v1 rfl rfl)
  have k1 := h1
  have lt1 : ∀ x ∈ p1, x.block < W.heap.size := by obtain ⟨m, hm⟩ := k1; exact DataW.trod_lt m _ _ _ hm
  obtain ⟨ta1, tl1, tc1, tz1, tf1, tm1, he1, w1⟩ : ∃ ta1 tl1 tc1 tz1 tf1 tm1, cs1 = #[.slice ta1 tl1 tc1, .string tf1, .int .i64 tm1] ∧ TripRow W ta1 tl1 tc1 tz1 tf1 tm1 := by
    obtain ⟨fuel, hf⟩ := h1
    exact openTrip (fun _ => rfl) hf
  subst he1
  clear hA0 hval0
  refine (walk a0 len0 cap0 ds0 ps0 ta1 tl1 tc1 tz1 tf1 tm1 W w0 w1).mono fun e W' ⟨he, bel⟩ => ?_
  subst he
  exact ⟨_, rfl, _, _, _, [], _, [], hW', trodAll_mk1 (shut_bool Try.underlying4 _), (trodAll_cons_mk (Below.trod laidOut (by kernel_rfl) (of_decide_eq_true (by kernel_rfl)) k0 bel lt0) (trodAll_cons_mk (Below.trod laidOut (by kernel_rfl) (of_decide_eq_true (by kernel_rfl)) k1 bel lt1) trodAll_mk0)), rfl, bel.frame _, fun h => by cases h⟩

theorem over : Rows.fnExactTripOkRow.holds Try.pinned (OpenSpec.ofChange Rows.fnExactTripOkSpec) :=
  OpenClaim.holds_of_wide 4 Try.f4 rfl rfl rfl rfl rfl rfl rfl ⟨rfl, rfl, rfl, rfl, rfl⟩ rfl rfl rfl rfl rfl (by kernel_rfl) Try.func4 (by kernel_rfl)
    (of_decide_eq_true (by kernel_rfl)) (by unfold Func.isWrapper; first | (rw [if_pos (by decide +kernel)]; kernel_rfl) | (rw [if_neg (by decide +kernel)]; exact ⟨rfl, rfl⟩))
    (fun os started H enc _ => lifted os started H enc)

theorem proved : Rows.FnExactTripOkSaid :=
  over
#print axioms proved
end Go.Proofs.Ytjlfbcplocjemaa.fnExactTripOk
