/-
  The model's way to cut a text at a byte: its pieces.
-/
import Derived.Test.YtjhgmmcglonokaaGreatDoorReadMath
import Derived.Lib.Strings
import Derived.Deep.AppendLies
import Derived.Laws.OwnMore
import Derived.OwnWalk
namespace Go.Proofs.YtjhgmmcglonokaaGreatDoor
open Go.RowKit
set_option linter.unusedVariables false
set_option linter.unusedSimpArgs false

/-- The pieces of a text between bytes b. -/
def splitB (b : UInt8) : List UInt8 → List (List UInt8)
  | [] => [[]]
  | c :: r => if c = b then [] :: splitB b r else match splitB b r with
    | [] => [[c]]
    | p :: ps => (c :: p) :: ps
theorem splitB_end {b : UInt8} : ∀ {l : List UInt8}, b ∉ l → splitB b l = [l]
  | [], _ => rfl
  | c :: r, h => by
    have h1 : c ≠ b := fun e => h (by simp [e])
    rw [splitB, if_neg h1, splitB_end (fun q => h (by simp [q]))]
theorem splitB_at {b : UInt8} : ∀ {a : List UInt8} (r : List UInt8), b ∉ a → splitB b (a ++ b :: r) = a :: splitB b r
  | [], r, _ => by simp [splitB]
  | c :: a, r, h => by
    have h1 : c ≠ b := fun e => h (by simp [e])
    rw [List.cons_append, splitB, if_neg h1, splitB_at r (fun q => h (by simp [q]))]
theorem info_strC : (Tryz.prog.info? 9).map (fun i => (i.zero, i.size, i.bytes)) = some (some (.string ⟨#[]⟩), 1, 16) := by kernel_rfl
def CutPost (b : UInt8) (s : ByteArray) (w : World) (e : Ending) (w' : World) : Prop :=
  ∃ (ws : List ByteArray) (g cap : Nat), Hid (ws.map (·.data.toList) = splitB b s.data.toList) ∧ 1 ≤ ws.length ∧ ws.length ≤ s.size + 1 ∧ Hid (∀ x ∈ ws, x.size ≤ s.size) ∧ e = .returned (.slice (some ⟨g, 0, none⟩) ws.length cap) ∧ w'.ownsRow w.heap.size 9 1 (.slice (some ⟨g, 0, none⟩) ws.length cap) ws.length (ws.map Value.string) ∧ Below w.heap.size w w'
/-- Between two places there is no such byte. -/
def NoB (b : UInt8) (l : List UInt8) (p q : Nat) : Prop := ∀ j, p ≤ j → j < q → l[j]? ≠ some b
theorem noB_not {b : UInt8} {l : List UInt8} {p q : Nat} (h : NoB b l p q) (hq : q ≤ l.length) : b ∉ (l.drop p).take (q - p) := by
  intro hm
  obtain ⟨j, hj, e⟩ := List.getElem_of_mem hm
  have hj2 : j < q - p := by simp at hj; omega
  refine h (p + j) (by omega) (by omega) ?_
  rw [List.getElem_take, List.getElem_drop] at e
  rw [List.getElem?_eq_getElem (by omega), e]
theorem cut_step {b : UInt8} {l : List UInt8} {p q : Nat} (h : NoB b l p q) (hpq : p ≤ q) (hb : l[q]? = some b) : splitB b (l.drop p) = (l.drop p).take (q - p) :: splitB b (l.drop (q + 1)) := by
  have hq : q < l.length := (List.getElem?_eq_some_iff.1 hb).1
  have e : l.drop p = (l.drop p).take (q - p) ++ b :: l.drop (q + 1) := by
    conv => lhs; rw [← List.take_append_drop (q - p) (l.drop p)]
    congr 1
    rw [List.drop_drop, show p + (q - p) = q by omega, List.drop_eq_getElem_cons hq]
    congr 1
    rw [List.getElem?_eq_getElem hq] at hb
    exact Option.some.inj hb
  rw [e, splitB_at _ (noB_not h (by omega)), ← e]
theorem cut_last {b : UInt8} {l : List UInt8} {p : Nat} (h : NoB b l p l.length) : splitB b (l.drop p) = [l.drop p] := by
  have := noB_not h (Nat.le_refl _)
  rw [List.take_of_length_le (by simp)] at this
  exact splitB_end this
set_option maxRecDepth 100000 in
set_option maxHeartbeats 4000000 in
theorem cut3C (b : UInt8) (bi : Int) (hbi : bi = (b.toNat : Int)) (s : ByteArray) (w : World) (hs : s.size ≤ 1048576) :
    Calls Tryz.prog 31 #[.string s, .int .u8 bi] w (CutPost b s w) := by
  obtain ⟨i0, hi, hz0, hz1, hz2⟩ := info_parts info_strC
  subst hbi
  have hl : Hid (s.data.toList.length = s.size) := by show _ = _; simp
  have hb0 : Below w.heap.size w (w.alloc (.cells #[] 9)) := (Below.refl _ _).alloc (Nat.le_refl _) _
  have hown0 : (w.alloc (.cells #[] 9)).ownsRow w.heap.size 9 1 (.slice (some ⟨w.heap.size, 0, none⟩) 0 0) 0 [] := World.ownsRow_made w #[] 0 (Nat.le_refl _) (by unfold maxLen; omega) rfl
  go_enter Tryz.func31, Tryz.ntmps31
  go_wp2_with fail
  go_loopw [5, 6, 7] (fun v f i wr => ∃ (p q : Nat) (ws : List ByteArray) (a : Option Addr) (cap : Nat), f = .int .i64 p ∧ i = .int .i64 q ∧ p ≤ q ∧ q ≤ s.size ∧ ws.length ≤ p ∧ Hid (ws.map (·.data.toList) ++ splitB b (s.data.toList.drop p) = splitB b s.data.toList) ∧ Hid (NoB b s.data.toList p q) ∧ Hid (∀ x ∈ ws, x.size ≤ s.size) ∧ v = .slice a ws.length cap ∧ wr.ownsRow w.heap.size 9 1 (.slice a ws.length cap) ws.length (ws.map Value.string) ∧ Below w.heap.size w wr) (fun _ _ i _ => s.size - (intOf i).toNat)
  case atStart => exact ⟨0, 0, [], _, _, rfl, rfl, Nat.le_refl _, Nat.zero_le _, Nat.le_refl _, Lib.hid (by simp), Lib.hid (fun j h1 h2 => by omega), Lib.hid (by simp), rfl, hown0, hb0⟩
  case round =>
    clear hown0 hb0
    obtain ⟨p, q, ws, a, cap, rfl, rfl, hpq, hq, hwp, hsp, hno, hsz, rfl, hown, hb⟩ := hrel
    have Hown := Lib.hid hown
    have HB := Lib.hid hb
    have HS := Lib.hid hsp
    have HN := Lib.hid hno
    have HZ := Lib.hid hsz
    have hwz : w.heap.size ≤ wr.heap.size := hb.size
    clear hown hb hsp hno hsz
    rcases Nat.lt_or_ge q s.size with hlt | hge
    · by_cases hc : s[q] = b
      · have z0 : ((s[q].toNat : Int) == (b.toNat : Int)) = true := by rw [hc]; simp
        have hqb : Hid (s.data.toList[q]? = some b) := by
          show _ = _
          rw [List.getElem?_eq_getElem (by simpa using hlt)]
          exact congrArg some hc
        have hst : Hid (splitB b (s.data.toList.drop p) = (s.extract p q).data.toList :: splitB b (s.data.toList.drop (q + 1))) := by
          show _ = _
          rw [cut_step HN.out.out hpq hqb.out, Lib.extract_data]
        have HA := Lib.hid (Hown.out.alloc (.cells #[.string (s.extract p q)] 9))
        have hX : Hid ((wr.alloc (.cells #[.string (s.extract p q)] 9)).heap[wr.heap.size]? = some (.cells #[.string (s.extract p q)] 9 (0, 0))) := heap_alloc_new wr _
        have hzA : w.heap.size ≤ (wr.alloc (.cells #[.string (s.extract p q)] 9)).heap.size := by simp only [World.size_alloc]; omega
        have hex : Hid ((s.extract p q).size ≤ s.size) := by show _ ≤ _; rw [ByteArray.size_extract]; omega
        have HBA := Lib.hid (HB.out.alloc hwz (.cells #[.string (s.extract p q)] 9))
        have j1 : (p : Int) ≤ (q : Int) := by omega
        have j2 : (q : Int) ≤ (s.size : Int) := by omega
        have e0 : IntKind.i64.wrap ((q : Int) + 1) = (q : Int) + 1 := IntWalk.i64_in _ (by omega)
        clear hc
        go_wp2_with (at_builtin; refine wpList_append_lies _ rfl _ _ 45 rfl w.heap.size 9 i0 (.string ⟨#[]⟩) 1 16 Tryz.underlying45 hi hz0 hz1 hz2 rfl (by decide) (.slice a ws.length cap) ws.length (ws.map Value.string) rfl HA.out ⟨wr.heap.size, 0, none⟩ 1 1 [.string (s.extract p q)] rfl rfl (World.news_of_block hX.out) (by intro u hu; simp at hu; subst hu; rfl) (by decide) (by unfold maxLen; omega) (by omega) hzA _ rfl ?_; intro g5 cap5 w5 hown5 hg5 hgg5 hlt5)
        go_roundw
        case rel =>
          have hV := HA.out.lt
          have hbs : Below w.heap.size (wr.alloc (.cells #[.string (s.extract p q)] 9)) w5 := (Below.refl _ _).grown hg5 hzA (fun y e => (hV y e).1)
          refine ⟨q + 1, q + 1, ws ++ [s.extract p q], some ⟨g5, 0, none⟩, cap5, by go_num, by go_num, Nat.le_refl _, by omega, by simp; omega, Lib.hid ?_, Lib.hid (fun j h1 h2 => by omega), Lib.hid ?_, by simp, by simpa using hown5, HBA.out.trans hbs⟩
          · rw [List.map_append, List.append_assoc, ← HS.out.out, hst.out]; rfl
          · intro x hx
            rcases List.mem_append.1 hx with hx | hx
            · exact HZ.out.out x hx
            · simp at hx; subst hx; exact hex.out
        case measure => simp [intOf]; omega
      · have z0 : ((s[q].toNat : Int) == (b.toNat : Int)) = false := by
          simp; intro e; exact hc (UInt8.toNat_inj.1 (by omega))
        have hqb : Hid (NoB b s.data.toList p (q + 1)) := by
          intro j h1 h2
          rcases Nat.lt_or_ge j q with h3 | h3
          · exact HN.out.out j h1 h3
          · obtain rfl : j = q := by omega
            rw [List.getElem?_eq_getElem (by simpa using hlt)]
            intro e
            exact hc (Option.some.inj e)
        have e0 : IntKind.i64.wrap ((q : Int) + 1) = (q : Int) + 1 := IntWalk.i64_in _ (by omega)
        clear hc
        go_wp2
        go_roundw
        case rel => exact ⟨p, q + 1, ws, a, cap, rfl, by go_num, by omega, by omega, hwp, HS.out, hqb, HZ.out, rfl, Hown.out, HB.out⟩
        case measure => simp [intOf]; omega
    · obtain rfl : q = s.size := by omega
      have HA := Lib.hid (Hown.out.alloc (.cells #[.string (s.extract p s.size)] 9))
      have hX : Hid ((wr.alloc (.cells #[.string (s.extract p s.size)] 9)).heap[wr.heap.size]? = some (.cells #[.string (s.extract p s.size)] 9 (0, 0))) := heap_alloc_new wr _
      have hzA : w.heap.size ≤ (wr.alloc (.cells #[.string (s.extract p s.size)] 9)).heap.size := by simp only [World.size_alloc]; omega
      have hex : Hid ((s.extract p s.size).size ≤ s.size) := by show _ ≤ _; rw [ByteArray.size_extract]; omega
      have HBA := Lib.hid (HB.out.alloc hwz (.cells #[.string (s.extract p s.size)] 9))
      have hst : Hid (splitB b (s.data.toList.drop p) = [(s.extract p s.size).data.toList]) := by
        show _ = _
        have := HN.out.out
        rw [← hl.out] at this
        rw [cut_last this, Lib.extract_data, List.take_of_length_le (by simp)]
      have j1 : (p : Int) ≤ (s.size : Int) := by omega
      go_wp2_with (at_builtin; refine wpList_append_lies _ rfl _ _ 45 rfl w.heap.size 9 i0 (.string ⟨#[]⟩) 1 16 Tryz.underlying45 hi hz0 hz1 hz2 rfl (by decide) (.slice a ws.length cap) ws.length (ws.map Value.string) rfl HA.out ⟨wr.heap.size, 0, none⟩ 1 1 [.string (s.extract p s.size)] rfl rfl (World.news_of_block hX.out) (by intro u hu; simp at hu; subst hu; rfl) (by decide) (by unfold maxLen; omega) (by omega) hzA _ rfl ?_; intro g5 cap5 w5 hown5 hg5 hgg5 hlt5)
      have hV := HA.out.lt
      have hbs : Below w.heap.size (wr.alloc (.cells #[.string (s.extract p s.size)] 9)) w5 := (Below.refl _ _).grown hg5 hzA (fun y e => (hV y e).1)
      go_ret
      refine ⟨ws ++ [s.extract p s.size], g5, cap5, Lib.hid ?_, by simp, by simp; omega, Lib.hid ?_, by simp, by simpa using hown5, HBA.out.trans hbs⟩
      · rw [List.map_append, ← HS.out.out, hst.out]; rfl
      · intro x hx
        rcases List.mem_append.1 hx with hx | hx
        · exact HZ.out.out x hx
        · simp at hx; subst hx; exact hex.out
end Go.Proofs.YtjhgmmcglonokaaGreatDoor
