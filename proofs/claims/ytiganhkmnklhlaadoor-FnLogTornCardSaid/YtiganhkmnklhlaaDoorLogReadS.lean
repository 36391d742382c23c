/-
  All records of a log, by the model.
-/
import Derived.Test.YtiganhkmnklhlaaDoorLogSpec2
import Derived.Test.YtiganhkmnklhlaaDoorLogAt
namespace Go.Proofs.YtiganhkmnklhlaaDoor
open Go.RowKit
set_option linter.unusedVariables false
set_option linter.unusedSimpArgs false

theorem info_strS : (Tryd.prog.info? 9).map (fun i => (i.zero, i.size, i.bytes)) = some (some (.string ⟨#[]⟩), 1, 16) := by kernel_rfl
def ReadS (t : ByteArray) (w : World) (e : Ending) (w' : World) : Prop := ∃ (rs : List ByteArray) (m : Nat) (a : Option Addr) (cap : Nat), e = .returned (.tuple #[.slice a rs.length cap, .int .i64 m]) ∧ w'.ownsRow w.heap.size 9 1 (.slice a rs.length cap) rs.length (rs.map Value.string) ∧ rs.length ≤ 1048576 ∧ m ≤ t.size ∧ Hid (LogIs t.data.toList rs m) ∧ Below w.heap.size w w'

set_option maxRecDepth 100000 in
set_option maxHeartbeats 4000000 in
theorem readS (t : ByteArray) (w : World) (ht : t.size ≤ 1048576) :
    Calls Tryd.prog 19 #[.string t] w (ReadS t w) := by
  obtain ⟨i0, hi, hz0, hz1, hz2⟩ := info_parts info_strS
  have Htl := Lib.hid (show t.data.toList.length = t.size by simp)
  have hb0 : Below w.heap.size w (w.alloc (.cells #[] 9)) := (Below.refl _ _).alloc (Nat.le_refl _) _
  have hown0 : (w.alloc (.cells #[] 9)).ownsRow w.heap.size 9 1 (.slice (some ⟨w.heap.size, 0, none⟩) 0 0) 0 [] := World.ownsRow_made w #[] 0 (Nat.le_refl _) (by unfold maxLen; omega) rfl
  go_enter Tryd.func19, Tryd.ntmps19
  go_wp2_with fail
  go_loopw [4, 5] (fun v i wr => ∃ (m : Nat) (rs : List ByteArray) (a : Option Addr) (cap : Nat), i = .int .i64 m ∧ v = .slice a rs.length cap ∧ m ≤ t.size ∧ Hid (LogAt t.data.toList rs m) ∧ wr.ownsRow w.heap.size 9 1 (.slice a rs.length cap) rs.length (rs.map Value.string) ∧ Below w.heap.size w wr) (fun _ i _ => t.size - (intOf i).toNat)
  case atStart => exact ⟨0, [], _, _, rfl, rfl, Nat.zero_le _, logAt_nil _, hown0, hb0⟩
  case round =>
    clear hown0 hb0
    obtain ⟨m, rs, a, cap, rfl, rfl, hm, hla, hown, hb⟩ := hrel
    have h17 := hla.out.le
    rw [Htl.out] at h17
    have hrn : rs.length ≤ 1048576 := by omega
    have hsz := hb.size
    have Hown := Lib.hid hown
    go_wp2_with fail
    refine (nextS t m rs.length _ ht hm hrn).mono ?_
    intro e w2 hn
    rcases hn with ⟨x, q, rfl, hxz, hq, hmq, hfb, hd2⟩ | ⟨rfl, hno, hd2⟩
    · have hb2 : Below w.heap.size w w2 := hb.trans (hd2.mono hsz)
      have hown2 : w2.ownsRow w.heap.size 9 1 (.slice a rs.length cap) rs.length (rs.map Value.string) := hown.kept (row := none) ⟨hd2.os, hd2.tape, hd2.output, hd2.size, fun k hk _ => hd2.block k hk⟩ (by cases (Value.slice a rs.length cap).ownBlock <;> simp)
      have Hown2 := Lib.hid hown2
      have hz4 := hb2.size
      clear hown hown2
      go_wp2_with (at_builtin; go_must (refine wpList_append_lies _ rfl _ _ 27 rfl w.heap.size 9 i0 (.string ⟨#[]⟩) 1 16 Tryd.underlying27 hi hz0 hz1 hz2 rfl (by decide) (.slice a rs.length cap) rs.length (rs.map Value.string) rfl (Hown2.out.alloc _) ⟨w2.heap.size, 0, none⟩ 1 1 [.string x] rfl rfl ?c1 ?c2 ?c3 ?c4 ?c5 ?c6 (w2.heap.size + 1) ?c7 ?_); (case c1 => go_must (exact cell_one_new _ _ _)); (case c2 => go_must (intro u hu; simp at hu; subst hu; rfl)); (case c3 => go_must (omega)); (case c4 => go_must (unfold maxLen; omega)); (case c5 => go_must (omega)); (case c6 => go_must (simp only [World.size_alloc]; omega)); (case c7 => go_must (simp only [World.size_alloc])); intro g' cap' w6 hown6 hgr6 hor6 hg6)
      go_roundw
      case rel =>
        have hV := (Hown2.out.alloc (.cells #[.string x] 9)).lt
        have hbA : Below w.heap.size w (w2.alloc (.cells #[.string x] 9)) := hb2.alloc hz4 _
        have hbs : Below w.heap.size (w2.alloc (.cells #[.string x] 9)) w6 := (Below.refl _ _).grown hgr6 (by simp only [World.size_alloc]; omega) (fun y e => (hV y e).1)
        refine ⟨q, rs ++ [x], some ⟨g', 0, none⟩, cap', rfl, by simp, hq, ?_, by simpa using hown6, hbA.trans hbs⟩
        have := hla.out.step hfb.out.1
        rw [← hfb.out.2] at this
        exact this
      case measure => simp [intOf]; omega
    · have hb2 : Below w.heap.size w w2 := hb.trans (hd2.mono hsz)
      have hown2 : w2.ownsRow w.heap.size 9 1 (.slice a rs.length cap) rs.length (rs.map Value.string) := hown.kept (row := none) ⟨hd2.os, hd2.tape, hd2.output, hd2.size, fun k hk _ => hd2.block k hk⟩ (by cases (Value.slice a rs.length cap).ownBlock <;> simp)
      have Hown2 := Lib.hid hown2
      have hst := Lib.hid (hla.out.stop hno.out)
      clear hown hown2
      go_wp2
      go_ret2
      exact ⟨rs, m, a, cap, rfl, Hown2.out, hrn, hm, hst.out, hb2⟩
end Go.Proofs.YtiganhkmnklhlaaDoor
