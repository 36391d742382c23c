/-
  The text that the law FnWireText draws; in a world that has only grown.
-/
import Derived.Test.YtifpdamghmlcfaaDoorDrawnWords
import Derived.Test.YtifpdamghmlcfaaDoorBend
import Derived.Test.YtifpdamghmlcfaaDoorWire
namespace Go.Proofs.YtifpdamghmlcfaaDoor
open Go.RowKit
set_option linter.unusedVariables false

def getTexts : List ByteArray := [⟨#[]⟩, ⟨#[48, 58, 44]⟩, ⟨#[49, 58, 97]⟩, ⟨#[48, 49, 58, 97, 44]⟩, ⟨#[50, 58, 97, 44]⟩, ⟨#[120]⟩, ⟨#[49, 58, 97, 44, 120]⟩, ⟨#[45, 49, 58, 44]⟩, ⟨#[58, 44]⟩]
def getBends : List ByteArray := [⟨#[58]⟩, ⟨#[44]⟩, ⟨#[49]⟩, ⟨#[48]⟩]
def DrawnGet (w : World) (e : Ending) (w' : World) : Prop := ∃ s : ByteArray, s.size ≤ 700000 ∧ e = .returned (.string s) ∧ Below w.heap.size w w'

set_option maxHeartbeats 2000000 in
theorem drawGet (a0 : Option Addr) (len cap : Nat) (z : List Int) (w : World) (w0 : IsRow .u8 w a0 len cap z) :
    Calls Tryd.prog 5 #[.slice a0 len cap] w (DrawnGet w) := by
  have W0 := Lib.hid w0
  clear w0
  go_enter Tryd.func5, Tryd.ntmps5
  go_wp2_with fail
  refine (opened a0 len cap z _ W0.out).mono ?_
  rintro e w1 ⟨rfl, hr1, hb1, -⟩
  go_wp2_with fail
  refine (pick w.heap.size w.heap.size 0 6 _ hr1 (by omega) (by omega) (by omega)).mono ?_
  rintro e w2 ⟨x1, l1, u1, rfl, hr2, hg2, -⟩
  have hb2 := below_stepM hb1 hg2
  cases hx : (x1 == 0) with
  | true =>
    go_wp2_with fail
    refine (pickOf w.heap.size w.heap.size _ 9 w2.heap.size 9 (fun i => getTexts.getD i ByteArray.empty) _ (rd_alloc hr2 _) (by omega) (by omega) (by omega) (fun i hi => lits_at _ _ rfl getTexts rfl i hi) (by have := hr2.le; omega)).mono ?_
    rintro e w3 ⟨i, hi, rfl, hr3, hg3, -⟩
    have hs : (getTexts.getD i ByteArray.empty).size ≤ 300 := by
      have : ∀ i, i < 9 → (getTexts.getD i ByteArray.empty).size ≤ 300 := by decide
      exact this i hi
    have Hs := Lib.hid hs
    clear hs
    go_wp2
    go_ret
    exact ⟨_, by have := Hs.out; simp at this ⊢; omega, rfl, below_stepM (hb2.alloc hb2.size _) hg3⟩
  | false =>
    go_wp2_with fail
    refine (drawWords a0 len cap z _ (isRow_below W0.out hb2)).mono ?_
    rintro e w3 ⟨v, n, hn, rfl, ⟨ss, hss, hown, hsz, hnil⟩, hb3⟩
    obtain ⟨g, cp, rfl, hg, hst⟩ := owns_strs hss hown hnil
    have hb3' : Below w.heap.size w w3 := hb2.trans (hb3.mono hb2.size)
    have hr3 := hr2.kept (hb3.mono hb2.size) (hb3.block _ hr2.le.2)
    have ht := total_le ss hsz
    have hn2 : ss.length ≤ 42 := by omega
    have ht2 : total ss ≤ 252000 := by omega
    have hz : (wireL ss).length ≤ 252924 := by have := wireL_len ss (by omega); omega
    have HST := Lib.hid hst
    have HSZ := Lib.hid hsz
    have HZ := Lib.hid hz
    have HSS := Lib.hid hss
    clear hst hsz hz hown hnil ht hss
    go_wp2_with fail
    refine (specPutAll _ n cp ss _ HST.out (by omega) (by omega) (Nat.le_trans HZ.out (by omega)) (fun k hk => getD_size HSZ.out k (by rw [HSS.out]; exact hk))).mono ?_
    rintro e w4 ⟨t, rfl, hte, hb4⟩
    have htz : t.size ≤ 252924 := by
      rw [hte.out]; have := HZ.out; simpa [ByteArray.size] using this
    clear hte
    have hb4' : Below w.heap.size w w4 := hb3'.trans (hb4.mono hb3'.size)
    have hr4 := hr3.kept (hb4.mono hb3'.size) (hb4.block _ hr3.le.2)
    go_wp2_with fail
    refine (bendM 252924 w.heap.size w.heap.size _ 4 w4.heap.size 4 t (fun i => getBends.getD i ByteArray.empty) _ (rd_alloc hr4 _) (by omega) (by omega) (by omega) (by omega) htz (fun i hi => lits_at _ _ rfl getBends rfl i hi) (by have := hr4.le; omega) ?_).mono ?_
    · have : ∀ i, i < 4 → (getBends.getD i ByteArray.empty).size ≤ 50 := by decide
      exact this
    rintro e w5 ⟨u, hu, rfl, hg5⟩
    go_wp2
    go_ret
    exact ⟨_, by omega, rfl, below_stepM (hb4'.alloc hb4'.size _) hg5⟩
end Go.Proofs.YtifpdamghmlcfaaDoor
