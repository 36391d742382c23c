/-
  The sum of a text, by the model.
-/
import Derived.Test.YtiganhkmnklhlaaDoorShaHexM
import Derived.Test.YtiganhkmnklhlaaDoorShaWords
import Derived.Deep.RegionLaw
import Derived.Deep.DeepMust
import Derived.Test.YtiganhkmnklhlaaDoorShaBlkM
namespace Go.Proofs.YtiganhkmnklhlaaDoor
open Go.RowKit
set_option linter.unusedVariables false
set_option linter.unusedSimpArgs false

def sumL (s : S8) : List UInt8 := (list8 s).flatMap fun x => [UInt8.ofNat (x / 16777216 % 256).toNat, UInt8.ofNat (x / 65536 % 256).toNat, UInt8.ofNat (x / 256 % 256).toNat, UInt8.ofNat (x % 256).toNat]

theorem sumL_len (s : S8) : (sumL s).length = 32 := rfl
theorem b8 (y : Int) : ((UInt8.ofNat (y % 256).toNat).toNat : Int) = IntKind.u8.wrap y := by
  show _ = y % 256
  simp [UInt8.toNat_ofNat']; omega
theorem sumL_next (s : S8) (m : Nat) (h : m < 8) : u8s ((sumL s).take (4 * (m + 1))) = u8s ((sumL s).take (4 * m)) ++ [.int .u8 (IntKind.u8.wrap (s.at m / 16777216)), .int .u8 (IntKind.u8.wrap (s.at m / 65536)), .int .u8 (IntKind.u8.wrap (s.at m / 256)), .int .u8 (IntKind.u8.wrap (s.at m))] := by
  rw [← b8, ← b8, ← b8, ← b8]
  have : m = 0 ∨ m = 1 ∨ m = 2 ∨ m = 3 ∨ m = 4 ∨ m = 5 ∨ m = 6 ∨ m = 7 := by omega
  rcases this with rfl | rfl | rfl | rfl | rfl | rfl | rfl | rfl <;> rfl
theorem padded_len (t : ByteArray) : (padded t.data.toList).length = t.size + (1 + padZ t.size) + 8 := by
  rw [padded, List.length_append, tailL_len]; simp; omega
theorem OwnV.formB {B n : Nat} {w : World} {a : Option Addr} {c : Nat} {l : List UInt8} (h : OwnV B w (.slice a n c) (u8s l)) (h0 : 0 < (u8s l).length) :
    ∃ g o, a = some ⟨g, o, none⟩ ∧ g < w.heap.size ∧ l.length ≤ c ∧ ∀ j, j < l.length → w.cell? ⟨g, o + j, none⟩ = some (.int .u8 (byteAt l j)) := by
  rcases h with ⟨-, h⟩ | ⟨g, o, cap, h1, h2, h3, h4, h5, h6⟩
  · rw [h] at h0; simp at h0
  · cases h1
    refine ⟨g, o, rfl, h3, by rwa [u8s_len] at h4, fun j hj => (h5 j (by rwa [u8s_len])).trans ?_⟩
    simp [u8s, byteAt, hj]

set_option maxRecDepth 100000 in
set_option maxHeartbeats 100000000 in
theorem sumMS (t : ByteArray) (w : World) (ht : t.size ≤ 1048600) :
    Calls Tryd.prog 50 #[.string t] w fun e w' => e = .returned (.string ⟨(sumL (sumS t.data.toList)).toArray⟩) ∧ Below w.heap.size w w' := by
  obtain ⟨i0, hi, hz0, hz1, hz2⟩ := info_parts info_u8
  go_enter Tryd.func50, Tryd.ntmps50
  go_wp2_with fail
  refine (paddedS t _ ht).mono ?_
  rintro e w1 ⟨ab, cb, rfl, hob, hb1⟩
  go_wp2_with fail
  have hnB := nBlocks_is t.size
  generalize hL : t.size + (1 + padZ t.size) + 8 = L at *
  have hLB : L = 64 * nBlocks t.size := by omega
  have hL2 : L ≤ 1048800 := by have := padZ_lt t.size; omega
  obtain ⟨gb, ob, rfl, hgb, hcap, hcb⟩ := hob.formB (by rw [u8s_len]; have hp := padded_len t; omega)
  have hpl : (padded t.data.toList).length = L := by rw [padded_len, hL]
  have hA0 : At8 (w.alloc (.cells st0.arr 76)) w.heap.size 0 st0 := fun i hi => by rw [Nat.zero_add]; exact cell_blk (heap_alloc_last w _) (arr_at st0 i hi)
  have hg0 : w.heap.size < (w.alloc (.cells st0.arr 76)).heap.size := by simp
  have hA1 : At8 w1 w.heap.size 0 st0 := hA0.kept hb1 hg0
  have hg1 : w.heap.size < w1.heap.size := Nat.lt_of_lt_of_le hg0 hb1.size
  have hW : Below w.heap.size w w1 := ((Below.refl _ _).alloc (Nat.le_refl _) (.cells st0.arr 76)).trans (hb1.mono (by simp))
  have HCB := Lib.hid hcb
  have HL := Lib.hid hL
  have HLB := Lib.hid hLB
  clear hcb hob hA0 hb1 hL hnB hg0 hLB
  go_loopw [3, 5] (fun v i wr => ∃ (m I : Nat) (gh oh ch : Nat), v = .slice (some ⟨gh, oh, none⟩) 8 ch ∧ i = .int .i64 I ∧ I = 64 * m ∧ m ≤ nBlocks t.size ∧ At8 wr gh oh (blocksTo st0 (padded t.data.toList) m) ∧ gh < wr.heap.size ∧ Below w1.heap.size w1 wr) (fun _ i _ => 2000000 - (intOf i).toNat)
  case atStart => exact ⟨0, 0, _, _, _, rfl, rfl, rfl, by omega, hA1, hg1, Below.refl _ _⟩
  case round =>
    clear hA1 hg1
    obtain ⟨m, I, gh, oh, ch, rfl, rfl, hI, hm, hat, hgh, hb⟩ := hrel
    have hLm := HLB.out
    rcases Nat.lt_or_ge I L with hlt | hge
    · have hmi : (I : Int) < L := by omega
      have q64 : IntKind.i64.wrap ((I : Int) + 64) = ((I + 64 : Nat) : Int) := by rw [IntWalk.i64_in _ (by omega)]; omega
      have hr64 : I + 64 ≤ L := by omega
      have hc64 : I + 64 ≤ cb := by omega
      have hcne : ¬ cb = I := by omega
      have hc64' : (I : Int) + 64 ≤ cb := by omega
      have hm1 : m + 1 ≤ nBlocks t.size := by omega
      have hgw : gb < wr.heap.size := Nat.lt_of_lt_of_le hgb hb.size
      have hby : BytesOf wr gb (ob + I) (((padded t.data.toList).drop (64 * m)).take 64) := fun j hj => by
        rw [Nat.add_assoc]
        refine ((hb.cell (p := ⟨gb, ob + (I + j), none⟩) hgb).trans (HCB.out (I + j) (by omega))).trans (congrArg (fun x => some (Value.int .u8 x)) ?_)
        rw [byteAt, byteAt, hI]
        simp [List.getD_eq_getElem?_getD, List.getElem?_take, hj]
      have HI := Lib.hid hI
      have HA := Lib.hid hat
      have HB := Lib.hid hby
      clear hI hat hby hLm hm
      go_wp2_with fail
      refine (blkS gh oh ch gb (ob + I) _ _ _ _ hgh hgw HA.out HB.out).mono ?_
      rintro e w2 ⟨a2, c2, rfl, ho2, hb2⟩
      obtain ⟨g2, o2, rfl, hg2, hg3, hat2, -⟩ := ho2.form8
      go_wp2_with fail
      go_roundw
      case rel => exact ⟨m + 1, I + 64, g2, o2, c2, rfl, by first | rfl | go_num, by rw [HI.out]; omega, hm1, hat2, hg3, hb.trans (hb2.mono hb.size)⟩
      case measure => simp [intOf]; omega
    · have hmn : m = nBlocks t.size := by omega
      have hatF : At8 wr gh oh (sumS t.data.toList) := by
        have h : sumS t.data.toList = blocksTo st0 (padded t.data.toList) m := by rw [hmn, sumS]; simp
        rw [h]; exact hat
      have hIL : I = L := by omega
      subst hIL
      clear hI hLm hmn hat hm
      go_wp2_with fail
      have hhr : ∀ i, i < 8 → wr.cell? ⟨gh, oh + i, none⟩ = some (.int .u32 ((sumS t.data.toList).at i)) := hatF
      have hws0 : Below w.heap.size w wr := hW.trans (hb.mono hW.size)
      generalize hfin : sumS t.data.toList = fin at hhr
      have HFIN := Lib.hid hfin
      have HHR := Lib.hid hhr
      generalize hws : wr = ws at hgh HHR hws0
      have hmd : OwnV ws.heap.size (ws.alloc (.cells #[] 5)) (.slice (some ⟨ws.heap.size, 0, none⟩) 0 0) (u8s ((sumL fin).take (4 * 0))) := OwnV.made ws (Nat.le_refl _)
      have hmb : Below ws.heap.size ws (ws.alloc (.cells #[] 5)) := (Below.refl _ _).alloc (Nat.le_refl _) _
      clear hb hatF hfin hhr
      go_loopw [6, 7] (fun v i wr => ∃ (m : Nat) (a : Option Addr) (c : Nat), v = .slice a (4 * m) c ∧ i = .int .i64 m ∧ m ≤ 8 ∧ OwnV ws.heap.size wr (.slice a (4 * m) c) (u8s ((sumL fin).take (4 * m))) ∧ Below ws.heap.size ws wr) (fun _ i _ => 8 - (intOf i).toNat)
      case atStart => exact ⟨0, _, _, rfl, rfl, by omega, hmd, hmb⟩
      case round =>
        clear hmd hmb hws
        obtain ⟨m, a, c, rfl, rfl, hm, ho, hb⟩ := hrel
        have HO := Lib.hid ho
        have hle : (u8s ((sumL fin).take (4 * m))).length = 4 * m := by rw [u8s_len, List.length_take, sumL_len]; omega
        clear ho
        rcases Nat.lt_or_ge m 8 with hlt | hge
        · have hmi : (m : Int) < 8 := by omega
          have e1 := (hb.cell (p := ⟨gh, oh + m, none⟩) hgh).trans (HHR.out m hlt)
          have hnx := sumL_next fin m hlt
          generalize fin.at m = x at *
          have HN := Lib.hid hnx
          have hbx : Below ws.heap.size ws wr := hb
          clear hnx
          go_wp2_with fail
          go_region_law (refine step_append_ownV (B := ws.heap.size) (w := ?gw) (v := ?gv) (xs := (u8s ((sumL fin).take (4 * m)))) ?ga ?gs ?gx 22 ?gb 5 i0 (.int .u8 0) 1 ?gc ?gd ?gf ?gg ?gh ?gi ?gj ?g0 ?g1 ⟨wr.heap.size, 0, none⟩ 4 4 [Value.int .u8 (IntKind.u8.wrap (x / 16777216)), Value.int .u8 (IntKind.u8.wrap (x / 65536)), Value.int .u8 (IntKind.u8.wrap (x / 256)), Value.int .u8 (IntKind.u8.wrap (x))] ?gk ?gl ?g2 ?g3 ?g4 ?g5 ?g6 (4 * (m + 1)) ?g7 ?_; (case ga => rfl); (case gb => rfl); (case gj => rfl); (case g0 => go_must (exact HO.out.grown (Below.drew ((Below.refl _ _).alloc (Nat.le_refl _) _)))); (case gk => rfl); (case gc => exact Tryd.underlying22); (case gd => exact hi); (case gf => exact hz0); (case gg => exact hz1); (case gh => exact hz2); (case gi => rfl); (case gl => rfl); (case g1 => go_must (have := hbx.size; simp; omega)); (case g2 => go_must (exact World.news_of_block (heap_alloc_last _ _))); (case g3 => go_must (intro u hu; simp at hu; first | (subst hu; rfl) | (rcases hu with rfl | rfl <;> rfl) | (rcases hu with rfl | rfl | rfl | rfl <;> rfl))); (case g4 => go_must (omega)); (case g5 => go_must (unfold maxLen; omega)); (case g6 => go_must (omega)); (case g7 => go_must (omega)); intro a2 c2 w3 ho2 hb3)
          all_goals
            go_wp2
            go_roundw
            case rel => exact ⟨m + 1, a2, c2, rfl, by go_num, by omega, by rw [HN.out]; exact ho2, ((hb.alloc hb.size _).drew).trans hb3⟩
            case measure => simp [intOf]; omega
        · have h8 : m = 8 := by omega
          have hcv := convB HO.out (by rw [List.length_take, sumL_len]; omega)
          have htk : (sumL fin).take (4 * m) = sumL (sumS t.data.toList) := by rw [HFIN.out, h8]; exact List.take_of_length_le (by rw [sumL_len]; omega)
          have HT := Lib.hid htk
          clear HO h8 hle htk
          go_wp2_with fail
          go_ret
          exact ⟨retL HT.out, hws0.trans (hb.mono hws0.size)⟩
end Go.Proofs.YtiganhkmnklhlaaDoor
