/-
  A reader in memory, and what its methods do: a run of a set, a byte that comes next, a byte that must.
-/
import Derived.Test.YtjhgmmcglonokaaGreatDoorReadMath
import Derived.Lib.Strings
import Derived.Deep.RegionWith
import Derived.OwnWalk
import Derived.Deep.Cut
namespace Go.Proofs.YtjhgmmcglonokaaGreatDoor
open Go.RowKit
set_option linter.unusedVariables false
set_option linter.unusedSimpArgs false

/-- A reader: its text, and up to where it was read. -/
structure RdS (w : World) (b : Nat) (s : ByteArray) (p : Nat) : Prop where
  text : w.cell? ⟨b, 0, none⟩ = some (.string s)
  pos : w.cell? ⟨b, 1, none⟩ = some (.int .i64 p)
  fz : w.frozen? ⟨b, 1, none⟩ = false
  lt : b < w.heap.size
  le : p ≤ s.size
def restB (s : ByteArray) (p : Nat) : List UInt8 := s.data.toList.drop p
theorem restB_len (s : ByteArray) (p : Nat) : (restB s p).length = s.size - p := by simp [restB]
theorem RdS.moved {w : World} {b : Nat} {s : ByteArray} {p q : Nat} (h : RdS w b s p) (hq : q ≤ s.size) : RdS (w.setCell ⟨b, 1, none⟩ (.int .i64 q)) b s q := by
  refine ⟨?_, ?_, ?_, ?_, hq⟩
  · rw [World.cell?_setCell_other _ _ _ _ (by simp)]; exact h.text
  · exact World.cell?_setCell_same _ _ _ h.pos
  · simpa using h.fz
  · simpa [World.setCell] using h.lt
theorem RdS.kept {w w' : World} {b : Nat} {s : ByteArray} {p : Nat} (h : RdS w b s p) (hB : Below w.heap.size w w') : RdS w' b s p :=
  ⟨(hB.cell (p := ⟨b, 0, none⟩) h.lt).trans h.text, (hB.cell (p := ⟨b, 1, none⟩) h.lt).trans h.pos, by rw [hB.frozen (p := ⟨b, 1, none⟩) h.lt]; exact h.fz, Nat.lt_of_lt_of_le h.lt hB.size, h.le⟩
theorem RdS.drewN {w : World} {b : Nat} {s : ByteArray} {p n : Nat} (h : RdS w b s p) : RdS (w.drewN n) b s p := ⟨h.text, h.pos, h.fz, h.lt, h.le⟩
def lenV : Value → Nat
  | .slice _ n _ => n
  | _ => 0
theorem grown_own {w a c : World} {b g : Nat} (h : w.grownBy a (some b)) (k : a.grownBy c (some g)) (hg : w.heap.size ≤ g) : w.grownBy c (some b) :=
  ⟨k.os.trans h.os, k.tape.trans h.tape, k.output.trans h.output, Nat.le_trans h.size k.size, fun i hi hn => (k.block i (Nat.lt_of_lt_of_le hi h.size) (fun e => by have := Option.some.inj e; omega)).trans (h.block i hi hn)⟩
theorem grown_new (w : World) (o : Obj) (row : Option Nat) : w.grownBy (w.alloc o) row := by
  have h : Below w.heap.size w (w.alloc o) := (Below.refl _ _).alloc (Nat.le_refl _) _
  exact ⟨h.os, h.tape, h.output, h.size, fun i hi _ => h.block i hi⟩
theorem RdS.grown {w w' : World} {b g : Nat} {s : ByteArray} {p : Nat} (h : RdS w b s p) (k : w.grownBy w' (some g)) (hn : g ≠ b) : RdS w' b s p := by
  have e := k.block b h.lt (fun e => hn (Option.some.inj e).symm)
  exact ⟨(World.cell?_of_block (a := ⟨b, 0, none⟩) e).trans h.text, (World.cell?_of_block (a := ⟨b, 1, none⟩) e).trans h.pos, (World.frozen?_of_block (a := ⟨b, 1, none⟩) e).trans h.fz, Nat.lt_of_lt_of_le h.lt k.size, h.le⟩
def NextPost (c : UInt8) (b : Nat) (s : ByteArray) (p : Nat) (w : World) (e : Ending) (w' : World) : Prop :=
  w.grownBy w' (some b) ∧ ((rdNext c (restB s p) = none ∧ e = .returned (.bool false) ∧ RdS w' b s p) ∨ (rdNext c (restB s p) = some (restB s (p + 1)) ∧ e = .returned (.bool true) ∧ RdS w' b s (p + 1)))
theorem restB_end {s : ByteArray} {p : Nat} (h : p = s.size) : restB s p = [] := by
  subst h; simp [restB]
theorem restB_cons {s : ByteArray} {p : Nat} (h : p < s.size) : restB s p = s[p] :: restB s (p + 1) := by
  rw [restB, restB, List.drop_eq_getElem_cons (by simpa using h)]; rfl
set_option maxHeartbeats 1000000 in
theorem nextC (c : UInt8) (k : Int) (hk : k = (c.toNat : Int)) (b : Nat) (s : ByteArray) (p : Nat) (w : World) (h : RdS w b s p) (hs : s.size ≤ 1048576) :
    Calls Tryz.prog 94 #[.pointer (some ⟨b, 0, none⟩), .int .u8 k] w (NextPost c b s p w) := by
  have H := Lib.hid h
  have y0 := h.text
  have y1 := h.pos
  have fz := h.fz
  have hle := h.le
  have e0 : IntKind.i64.wrap ((p : Int) + 1) = (p : Int) + 1 := IntWalk.i64_in _ (by omega)
  clear h
  rcases Nat.lt_or_ge p s.size with hlt | hge
  · have g0 : ((p : Int) == (s.size : Int)) = false := by simp; omega
    have i1 : (p : Int) < (s.size : Int) := by omega
    have i0 : (0 : Int) ≤ (p : Int) := by omega
    have HR := Lib.hid (restB_cons hlt)
    by_cases hc : s[p] = c
    · have z0 : ((s[p].toNat : Int) != k) = false := by rw [hc, hk]; simp
      go_enter Tryz.func94, Tryz.ntmps94
      go_wp2_with fail
      go_quiet (fail)
      go_wp2
      go_ret
      refine ⟨?_, Or.inr ⟨?_, rfl, ?_⟩⟩
      · exact grown_trans (grownN w _ _) (grown_set _ _ _)
      · rw [HR.out, hc]; exact rdNext_cons _ _
      · exact H.out.drewN.moved (q := p + 1) (by omega)
    · have z0 : ((s[p].toNat : Int) != k) = true := by
        rw [hk]; simp; intro e; exact hc (UInt8.toNat_inj.1 (by omega))
      go_enter Tryz.func94, Tryz.ntmps94
      go_wp2_with fail
      go_quiet (fail)
      go_wp2
      go_ret
      refine ⟨grownN w _ _, Or.inl ⟨?_, rfl, H.out.drewN⟩⟩
      rw [HR.out, rdNext, if_neg hc]
  · obtain rfl : p = s.size := by omega
    have g0 : ((s.size : Int) == (s.size : Int)) = true := by simp
    go_enter Tryz.func94, Tryz.ntmps94
    go_wp2_with fail
    go_quiet (fail)
    go_wp2
    go_ret
    refine ⟨grownN w _ _, Or.inl ⟨?_, rfl, H.out.drewN⟩⟩
    rw [restB_end rfl]; rfl
end Go.Proofs.YtjhgmmcglonokaaGreatDoor
