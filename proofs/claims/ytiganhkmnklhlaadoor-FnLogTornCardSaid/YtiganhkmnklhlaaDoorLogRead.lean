/-
  All records of a log, by the program.
-/
import Derived.Test.YtiganhkmnklhlaaDoorLogNext
import Derived.Test.YtiganhkmnklhlaaDoorLogAt
import Derived.Deep.AppendLies
import Derived.Deep.DeepMust
import Derived.OwnWalk
namespace Go.Proofs.YtiganhkmnklhlaaDoor
open Go.RowKit
set_option linter.unusedVariables false
set_option linter.unusedSimpArgs false

theorem info_str : (Tryd.prog.info? 9).map (fun i => (i.zero, i.size, i.bytes)) = some (some (.string ⟨#[]⟩), 1, 16) := by kernel_rfl
def ReadI (t : ByteArray) (w : World) (e : Ending) (w' : World) : Prop := ∃ (rs : List ByteArray) (m : Nat) (a : Option Addr) (cap : Nat), e = .returned (.tuple #[.slice a rs.length cap, .int .i64 m]) ∧ w'.ownsRow (w.heap.size + 1) 9 1 (.slice a rs.length cap) rs.length (rs.map Value.string) ∧ rs.length ≤ 1048576 ∧ m ≤ t.size ∧ Hid (LogIs t.data.toList rs m) ∧ Below w.heap.size w w'

set_option maxRecDepth 100000 in
set_option maxHeartbeats 4000000 in
theorem readI (t : ByteArray) (w : World) (ht : t.size ≤ 1048576) (hL : LaidL w) :
    Calls Tryd.prog 10 #[.string t] w (ReadI t w) := by
  obtain ⟨i0, hi, hz0, hz1, hz2⟩ := info_parts info_str
  have Htl := Lib.hid (show t.data.toList.length = t.size by simp)
  have HL := Lib.hid hL
  clear hL
  go_enter Tryd.func10, Tryd.ntmps10
  go_wp2_with fail
  go_loopw [4] (fun v wr => ∃ (m : Nat) (rs : List ByteArray) (a : Option Addr) (cap : Nat), v = .slice a rs.length cap ∧ m ≤ t.size ∧ Hid (LogAt t.data.toList rs m) ∧ CurAt wr w.heap.size t m ∧ wr.ownsRow (w.heap.size + 1) 9 1 (.slice a rs.length cap) rs.length (rs.map Value.string) ∧ Below w.heap.size w wr) (fun v _ => t.size - sliceLen v)
  case atStart => exact ⟨0, [], none, 0, rfl, Nat.zero_le _, logAt_nil _, heap_alloc_new w _, World.ownsRow_nil _ _ _ _, (Below.refl _ _).alloc (Nat.le_refl _) _⟩
  case round =>
    obtain ⟨m, rs, a, cap, rfl, hm, hla, hcur, hown, hb⟩ := hrel
    have h17 := hla.out.le
    rw [Htl.out] at h17
    have hrn : rs.length ≤ 1048576 := by omega
    have hltc := hcur.lt
    have hsz := hb.size
    have HLr := Lib.hid (laidL_stays HL.out hb)
    go_wp2_with fail
    refine (nextRec w.heap.size rs.length m t _ hcur hm ht hrn HLr.out).mono ?_
    intro e w2 hn
    have hne : (Value.slice a rs.length cap).ownBlock ≠ some w.heap.size := fun e => by have := (hown.lt _ e).1; omega
    rcases hn with ⟨x, rfl, hxz, hfb, hcur2, hg⟩ | ⟨rfl, hno, hcur2, hg⟩
    · have hb2 : Below w.heap.size w w2 := hb.grown hg hb.size (fun k e => by cases e; exact Nat.le_refl _)
      have hown2 : w2.ownsRow (w.heap.size + 1) 9 1 (.slice a rs.length cap) rs.length (rs.map Value.string) := hown.kept hg (Or.inr hne)
      have Hown := Lib.hid hown2
      have hlt2 := hcur2.lt
      have Hcur2 := Lib.hid hcur2
      have hz4 := hb2.size
      clear hown hown2 hcur2
      go_wp2_with (at_builtin; go_must (refine wpList_append_lies _ rfl _ _ 27 rfl (w.heap.size + 1) 9 i0 (.string ⟨#[]⟩) 1 16 Tryd.underlying27 hi hz0 hz1 hz2 rfl (by decide) (.slice a rs.length cap) rs.length (rs.map Value.string) rfl (Hown.out.alloc _) ⟨w2.heap.size, 0, none⟩ 1 1 [.string x] rfl rfl ?c1 ?c2 ?c3 ?c4 ?c5 ?c6 (w2.heap.size + 1) ?c7 ?_); (case c1 => go_must (exact cell_one_new _ _ _)); (case c2 => go_must (intro u hu; simp at hu; subst hu; rfl)); (case c3 => go_must (omega)); (case c4 => go_must (unfold maxLen; omega)); (case c5 => go_must (omega)); (case c6 => go_must (simp only [World.size_alloc]; omega)); (case c7 => go_must (simp only [World.size_alloc])); intro g' cap' w6 hown6 hgr6 hor6 hg6)
      go_roundw
      case rel =>
        have hV := (Hown.out.alloc (.cells #[.string x] 9)).lt
        have hbA : Below w.heap.size w (w2.alloc (.cells #[.string x] 9)) := hb2.alloc hz4 _
        have hbs : Below w.heap.size (w2.alloc (.cells #[.string x] 9)) w6 := (Below.refl _ _).grown hgr6 (by simp only [World.size_alloc]; omega) (fun y e => by have := (hV y e).1; omega)
        have hfl : m + (frame rs.length x).length ≤ t.size := by
          have := (hla.out.step hfb.out).le.2
          rwa [Htl.out] at this
        refine ⟨m + (frame rs.length x).length, rs ++ [x], some ⟨g', 0, none⟩, cap', by simp, hfl, hla.out.step hfb.out, ?_, by simpa using hown6, hbA.trans hbs⟩
        have h1 := hgr6.block w.heap.size (by simp only [World.size_alloc]; omega) (fun e => hne e.symm)
        exact (h1.trans (Lib.alloc_old w2 _ _ hlt2)).trans Hcur2.out
      case measure => simp [sliceLen]; omega
    · have hb2 : Below w.heap.size w w2 := hb.grown hg hb.size (fun k e => by cases e; exact Nat.le_refl _)
      have hown2 : w2.ownsRow (w.heap.size + 1) 9 1 (.slice a rs.length cap) rs.length (rs.map Value.string) := hown.kept hg (Or.inr hne)
      have Hown := Lib.hid hown2
      have hst := Lib.hid (hla.out.stop hno.out)
      obtain ⟨d0, d1, d2⟩ := hcur2.cells
      clear hown hown2
      go_wp2_with fail
      go_quiet (fail)
      go_wp2
      go_ret2
      exact ⟨rs, m, a, cap, rfl, Hown.out, hrn, hm, hst.out, belowN hb2 _⟩
end Go.Proofs.YtiganhkmnklhlaaDoor
