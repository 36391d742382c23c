/-
  A word put into words, in order, once: the model's answer.
-/
import Derived.Test.YtgoaajnppadmjaaGreatDoorNamesI
import Derived.Test.YtgoaajnppadmjaaGreatDoorTE
import Derived.Test.YtgoaajnppadmjaaGreatDoorStrs
import Derived.OwnWalk
namespace Go.Proofs.YtgoaajnppadmjaaGreatDoor
open Go.RowKit
set_option linter.unusedVariables false
set_option linter.unusedSimpArgs false

section
variable {E : Nat → Nat} {m k : Nat} {I : Nat → World → Prop} {S : Nat → World → Value → Prop} {v0 : Value} {M : Value → World → Prop} {L : Nat → Bool} {f : Nat → Value} {W W' : World}
theorem TE.pre_op2 (h : TE E m I S v0 M k L f W) {i : Nat} {v : Value} (hi : i < m) (hm : L m = false) (hm1 : L (m + 1) = false) (hI : I (k + 1) W') (hS : ∀ j v, L j = true → L (E j) = false → E j ≠ i → S j W v → S j W' v) (hv : S i W' v) : TE E m I S v0 M (k + 1) (upd L i true) (upd f i v) W' := by
  have u : ∀ {α : Type} (g : Nat → α) (x : α) (j : Nat), m ≤ j → upd g i x j = g j := fun g x j hj => upd_ne g x (by omega)
  refine ⟨fun _ => hI, fun j hj hL hE _ => ?_, ?_, ?_, ?_⟩
  · by_cases e : j = i
    · subst e; rw [upd_self]; exact hv
    · rw [upd_ne _ _ e] at hL ⊢
      by_cases e2 : E j = i
      · rw [e2, upd_self] at hE; cases hE
      · rw [upd_ne _ _ e2] at hE
        exact hS _ _ hL hE e2 (h.pre j hj hL hE hm)
  · rw [u _ _ _ (by omega), u _ _ _ (by omega)]; exact h.zero
  · rw [u _ _ _ (Nat.le_refl _), hm]; exact fun a => by cases a
  · rw [u _ _ _ (by omega), hm1]; exact fun a => by cases a
end
def bsU (u : List UInt8) : ByteArray := ⟨u.toArray⟩
def PutP (l : List (List UInt8)) (w : World) (e : Ending) (w' : World) : Prop := ∃ (g n c : Nat), e = .returned (.slice (some ⟨g, 0, none⟩) n c) ∧ n = l.length ∧ n ≤ c ∧ g < w'.heap.size ∧ Strs w' (some ⟨g, 0, none⟩) n (l.map bsU) ∧ Below w.heap.size w w'
def SPT (g n c k gw : Nat) (l : List (List UInt8)) (s : ByteArray) (ad : Option Addr) (cd : Nat) (i : Nat) (W : World) (v : Value) : Prop := match i with
  | 0 => ∃ ge : Nat, v = .slice (some ⟨ge, 0, none⟩) 0 0 ∧ RowU gw W v 0 []
  | 1 => v = .slice (some ⟨g, 0, none⟩) n c
  | 2 => v = .int .i64 (k : Int)
  | 3 => v = .slice (some ⟨g, 0, none⟩) k c
  | 4 => ∃ (a1 : Option Addr) (c1 : Nat), v = .slice a1 k c1 ∧ RowU gw W v k (l.take k)
  | 5 => v = .string s
  | 6 => ∃ gx : Nat, v = .slice (some ⟨gx, 0, none⟩) 1 1 ∧ W.heap[gx]? = some (.cells #[.string s] 9 (0, 0))
  | 7 => ∃ (a1 : Option Addr) (c1 : Nat), v = .slice a1 (k + 1) c1 ∧ RowU gw W v (k + 1) (l.take k ++ [s.data.toList])
  | 8 => v = .slice (some ⟨g, 0, none⟩) n c
  | 9 => v = .int .i64 (k : Int)
  | 10 => v = .slice ad (n - k) cd
  | _ => True
theorem SPT.kept {g n c k gw : Nat} {l : List (List UInt8)} {s : ByteArray} {ad : Option Addr} {cd i : Nat} {W W' : World} {v : Value} (h : SPT g n c k gw l s ad cd i W v) (hb : Below W.heap.size W W') : SPT g n c k gw l s ad cd i W' v := by
  match i, h with
  | 1, h | 2, h | 3, h | 5, h | 8, h | 9, h | 10, h => exact h
  | 0, ⟨ge, h1, h2⟩ => exact ⟨ge, h1, h2.below hb⟩
  | 4, ⟨a1, c1, h1, h2⟩ => exact ⟨a1, c1, h1, h2.below hb⟩
  | 6, ⟨gx, h1, h2⟩ => exact ⟨gx, h1, (hb.block gx (Array.getElem?_eq_some_iff.1 h2).1).trans h2⟩
  | 7, ⟨a1, c1, h1, h2⟩ => exact ⟨a1, c1, h1, h2.below hb⟩
  | n + 11, _ => exact True.intro
theorem empty_ne {B : Nat} {w : World} {ge gx : Nat} {s : ByteArray} (h : RowU B w (.slice (some ⟨ge, 0, none⟩) 0 0) 0 []) (h2 : w.heap[gx]? = some (.cells #[.string s] 9 (0, 0))) (e : ge = gx) : False := by
  rcases h.2 with ⟨k0, _⟩ | ⟨g', cap', cur, hv', hb', hb, h1, h3, h4, h5⟩
  · cases k0
  · injection hv' with e1 _ e3
    injection e1 with e1
    injection e1 with e1 _ _
    subst e1 e3 e
    rw [h2] at hb
    injection hb with hb
    injection hb with hb _ _
    rw [← hb] at h4
    simp at h4
theorem bsU_list (u : List UInt8) : (bsU u).toList = u := by rw [Lib.toList_data]; rfl
theorem strs_at {w : World} {g n : Nat} {l : List (List UInt8)} (h : Strs w (some ⟨g, 0, none⟩) n (l.map bsU)) {i : Nat} (hi : i < l.length) : w.cell? ⟨g, i, none⟩ = some (.string (bsU l[i])) := by
  obtain ⟨h1, h2⟩ := h
  have hn : l.length = n := by simpa using h1
  rcases h2 with h0 | ⟨b, off, e, hb, hc⟩
  · omega
  · injection e with e
    injection e with e1 e2 _
    subst e1 e2
    have := hc i (by omega)
    rw [Nat.zero_add] at this
    rw [this]
    simp [hi]
theorem row_cap {B : Nat} {w : World} {g n c : Nat} {l : List (List UInt8)} (h : RowU B w (.slice (some ⟨g, 0, none⟩) n c) n l) : n ≤ c := by
  rcases h.2 with ⟨k0, _⟩ | ⟨g', cap', cur, hv', hb', hb, h1, h3, h4, h5⟩
  · cases k0
  · injection hv' with e1 _ e3
    subst e3
    exact h1
theorem row_lies {B : Nat} {w : World} {a : Option Addr} {n c : Nat} {l : List (List UInt8)} (h : RowU B w (.slice a n c) n l) : Strs w a n (l.map bsU) := by
  have hl : l.length = n := by simpa using h.1
  refine ⟨by simpa using hl, ?_⟩
  by_cases h0 : n = 0
  · exact Or.inl h0
  · obtain ⟨g, cap, hv, hbase, hg⟩ := h.form (by omega)
    injection hv with ha _ hc
    subst ha
    refine Or.inr ⟨g, 0, rfl, hg, fun i hi => ?_⟩
    have hr : RowU B w (.slice (some ⟨g, 0, none⟩) n c) n l := h
    rw [Nat.zero_add, World.ownsRow.cellAt hr i (by omega)]
    simp [hl, hi, bsU]
/-- What stands up to a place, and from it. -/
theorem src_h {w : World} {g n c : Nat} {l : List (List UInt8)} (h : Strs w (some ⟨g, 0, none⟩) n (l.map bsU)) (hg : g < w.heap.size) {k : Nat} (hk : k ≤ l.length) : ∀ W, Below w.heap.size w W → Src W (some ⟨g, 0, none⟩) k 1 ((l.take k).map encStr) := by
  intro W hW
  refine ⟨by simp; omega, fun h0 => ⟨_, rfl, fun j u hj => ?_⟩⟩
  have hjl := (List.getElem?_eq_some_iff.1 hj).1
  simp at hjl
  rw [addA, Nat.zero_add, hW.cell (p := ⟨g, j, none⟩) hg, strs_at h (by omega)]
  rw [← hj]
  simp [bsU, show j < k by omega, show j < l.length by omega]
theorem src_l {w : World} {g n c : Nat} {l : List (List UInt8)} (h : Strs w (some ⟨g, 0, none⟩) n (l.map bsU)) (hg : g < w.heap.size) {k : Nat} (hk : k ≤ l.length) (hc : l.length ≤ c) : ∃ (ad : Option Addr) (cd : Nat), sliced (some ⟨g, 0, none⟩) k l.length c 1 = .slice ad (l.length - k) cd ∧ ∀ W, Below w.heap.size w W → Src W ad (l.length - k) 1 ((l.drop k).map encStr) := by
  by_cases h0 : c = k
  · refine ⟨some ⟨g, 0, none⟩, c - k, by simp [sliced, h0], fun W hW => ⟨by simp, fun h1 => by omega⟩⟩
  · refine ⟨some ⟨g, k, none⟩, c - k, by simp [sliced, h0, Addr.add]; try omega, fun W hW => ⟨by simp, fun h1 => ⟨_, rfl, fun j u hj => ?_⟩⟩⟩
    have hjl := (List.getElem?_eq_some_iff.1 hj).1
    simp at hjl
    rw [addA, hW.cell (p := ⟨g, k + j, none⟩) hg, strs_at h (by omega)]
    rw [← hj]
    simp [bsU, show k + j < l.length by omega]
set_option maxRecDepth 100000 in
set_option maxHeartbeats 32000000 in
theorem specPut (g c : Nat) (l : List (List UInt8)) (s : ByteArray) (w : World) (h : Strs w (some ⟨g, 0, none⟩) l.length (l.map bsU)) (hg : g < w.heap.size) (hn : l.length ≤ 1000) (hc : l.length ≤ c) :
    Calls Tryz.prog 82 #[.slice (some ⟨g, 0, none⟩) l.length c, .string s] w (PutP (putU l s.data.toList) w) := by
  obtain ⟨i0, hi, hz0, hz1, hz2⟩ := info_parts infoStr
  have SZ : ∀ {W : World}, (sizeOf (Tryz.prog.elem 27)).run Tryz.prog W = .ok 1 W := fun {W} => by
    have e : Tryz.prog.elem 27 = 9 := by kernel_rfl
    rw [e]; simp [sizeOf, typeInfo, hi, hz1]
  have H := Lib.hid h
  have HG := Lib.hid hg
  clear h
  go_enter Tryz.func82, Tryz.ntmps82
  go_wp2_with fail
  go_loopw [5] (fun vk wr => ∃ k : Nat, k ≤ l.length ∧ vk = .int .i64 k ∧ wr = w ∧ Hid (∀ i, (h : i < k) → (h2 : i < l.length) → l[i] < s.data.toList)) (fun vk _ => l.length - (intOf vk).toNat)
  case atStart => exact ⟨0, Nat.zero_le _, rfl, rfl, fun i hi => by omega⟩
  case round =>
    obtain ⟨k, hk, rfl, rfl, hlow⟩ := hrel
    by_cases hcase : ∃ h : k < l.length, l[k] < s.data.toList
    · obtain ⟨hlt, hls⟩ := hcase
      have c1 := strs_at H.out hlt
      have k1 : (k : Int) < l.length := by omega
      have k0 : (0 : Int) ≤ k := by omega
      have hb : Op.bytesLess (bsU l[k]).toList s.toList = true := by rw [bytesLess_eq, bsU_list, Lib.toList_data]; exact decide_eq_true hls
      have HLS := Lib.hid hls
      clear hls
      generalize bsU l[k] = x at *
      go_wp2
      go_roundw
      case rel => exact ⟨k + 1, by omega, by go_num, (by first | rfl | trivial), fun i hi h2 => by
        by_cases e : i = k
        · subst e; exact HLS.out
        · exact hlow.out i (by omega) h2⟩
      case measure => simp [intOf]; omega
    · have HAT := Lib.hid (putU_at l s.data.toList k hk (fun i a b => hlow.out i a b) (fun a b => hcase ⟨a, b⟩))
      by_cases hlt : k < l.length
      · have c1 := strs_at H.out hlt
        have k1 : (k : Int) < l.length := by omega
        have k0 : (0 : Int) ≤ k := by omega
        have hb : Op.bytesLess (bsU l[k]).toList s.toList = false := by rw [bytesLess_eq, bsU_list, Lib.toList_data]; exact decide_eq_false (fun b => hcase ⟨hlt, b⟩)
        by_cases heq : l[k] = s.data.toList
        · have hq : ((bsU l[k]).toList == s.toList) = true := by rw [bsU_list, Lib.toList_data, heq]; simp
          have HR : Hid (putU l s.data.toList = l) := by refine Lib.hid ?_; rw [HAT.out, if_pos ⟨hlt, heq⟩]
          clear hcase heq hlow
          generalize bsU l[k] = x at *
          go_wp2
          go_ret
          exact ⟨g, _, c, rfl, by rw [HR.out], hc, HG.out, by rw [HR.out]; exact H.out, Below.refl _ _⟩
        · have hq : ((bsU l[k]).toList == s.toList) = false := by rw [bsU_list, Lib.toList_data]; simpa using heq
          have HR : Hid (putU l s.data.toList = l.take k ++ s.data.toList :: l.drop k) := by refine Lib.hid ?_; rw [HAT.out, if_neg (by rintro ⟨_, h⟩; exact heq h)]
          clear hcase heq hlow
          generalize bsU l[k] = x at *
          obtain ⟨ad, cd, hsl, hsr2⟩ := src_l (c := c) H.out HG.out hk hc
          have HSL := Lib.hid hsl
          have SR2 := Lib.hid hsr2
          have SR1 := Lib.hid (src_h (c := c) H.out HG.out hk)
          have HSH : Hid (sliced (some ⟨g, 0, none⟩) 0 k c 1 = .slice (some ⟨g, 0, none⟩) k c) := by refine Lib.hid ?_; simp [sliced, Addr.add]
          clear hsl hsr2
          go_upto_region 6 with fail
          generalize wr = wy at *
          refine wp_region_invK (by kernel_rfl) (fun kk L f W => TE (fun i => if i = 0 then 4 else if i = 4 then 7 else if i = 6 then 7 else 11) 11 (fun _ W => Below wy.heap.size wy W) (SPT g l.length c k wy.heap.size l s ad cd) (.slice none 0 0) (fun v W => RowU wy.heap.size W v (l.length + 1) (l.take k ++ s.data.toList :: l.drop k) ∧ Below wy.heap.size wy W) kk L f W) (by kernel_rfl) (TE.start rfl ((Below.refl _ _).drew)) ?_
          apply Exists.intro
          apply And.intro
          · intro f
            simp only [over, List.set]
            exact rfl
          refine ⟨?hops, ?hend⟩
          case hops =>
            refine EachOp.cons ?_ (EachOp.cons ?_ (EachOp.cons ?_ (EachOp.cons ?_ (EachOp.cons ?_ (EachOp.cons ?_ (EachOp.cons ?_ (EachOp.cons ?_ (EachOp.cons ?_ (EachOp.cons ?_ (EachOp.cons ?_ (EachOp.cons ?_ (EachOp.cons ?_ EachOp.nil))))))))))))
            · intro L ff kk ww hkk hJ hcl hLi hwt QQ' hQ
              try dsimp only
              have nm : L 11 = false := by
                cases hx : L 11 with
                | false => rfl
                | true =>
                  have h11x := hx
                  have h7x : L 7 = true := hcl 11 _ rfl h11x 7 (by decide)
                  have h4x : L 4 = true := hcl 7 _ rfl h7x 4 (by decide)
                  have h0x : L 0 = true := hcl 4 _ rfl h4x 0 (by decide)
                  have h2 : L 0 = false := hLi
                  rw [h0x] at h2; cases h2
              have nm1 : L 12 = false := by
                cases hx : L 12 with
                | false => rfl
                | true =>
                  have h12x := hx
                  have h11x : L 11 = true := hcl 12 _ rfl h12x 11 (by decide)
                  have h7x : L 7 = true := hcl 11 _ rfl h11x 7 (by decide)
                  have h4x : L 4 = true := hcl 7 _ rfl h7x 4 (by decide)
                  have h0x : L 0 = true := hcl 4 _ rfl h4x 0 (by decide)
                  have h2 : L 0 = false := hLi
                  rw [h0x] at h2; cases h2
              have hI := hJ.inv nm
              go_big_wp2_with fail
              refine hQ _ _ (ww.alloc (.cells #[] 9)) ?_ (hJ.pre_op2 (i := 0) (by decide) nm nm1 (hI.alloc hI.size _) (fun j v _ _ _ h => h.kept ((Below.refl _ _).alloc (Nat.le_refl _) _)) ⟨ww.heap.size, rfl, World.ownsRow_made ww #[] 0 hI.size (by unfold maxLen; omega) rfl⟩)
              first | rfl | (simp [upd]; done)
            · intro L ff kk ww hkk hJ hcl hLi hwt QQ' hQ
              try dsimp only
              have nm : L 11 = false := by
                cases hx : L 11 with
                | false => rfl
                | true =>
                  have h11x := hx
                  have h7x : L 7 = true := hcl 11 _ rfl h11x 7 (by decide)
                  have h4x : L 4 = true := hcl 7 _ rfl h7x 4 (by decide)
                  have h3x : L 3 = true := hcl 4 _ rfl h4x 3 (by decide)
                  have h1x : L 1 = true := hcl 3 _ rfl h3x 1 (by decide)
                  have h2 : L 1 = false := hLi
                  rw [h1x] at h2; cases h2
              have nm1 : L 12 = false := by
                cases hx : L 12 with
                | false => rfl
                | true =>
                  have h12x := hx
                  have h11x : L 11 = true := hcl 12 _ rfl h12x 11 (by decide)
                  have h7x : L 7 = true := hcl 11 _ rfl h11x 7 (by decide)
                  have h4x : L 4 = true := hcl 7 _ rfl h7x 4 (by decide)
                  have h3x : L 3 = true := hcl 4 _ rfl h4x 3 (by decide)
                  have h1x : L 1 = true := hcl 3 _ rfl h3x 1 (by decide)
                  have h2 : L 1 = false := hLi
                  rw [h1x] at h2; cases h2
              have hI := hJ.inv nm
              go_big_wp2_with fail
              refine hQ _ _ _ ?_ (hJ.pre_op2 (i := 1) (by decide) nm nm1 hI (fun j v _ _ _ h => h.kept (Below.refl _ _)) (rfl))
              first | rfl | (simp [upd]; done)
            · intro L ff kk ww hkk hJ hcl hLi hwt QQ' hQ
              try dsimp only
              have nm : L 11 = false := by
                cases hx : L 11 with
                | false => rfl
                | true =>
                  have h11x := hx
                  have h7x : L 7 = true := hcl 11 _ rfl h11x 7 (by decide)
                  have h4x : L 4 = true := hcl 7 _ rfl h7x 4 (by decide)
                  have h3x : L 3 = true := hcl 4 _ rfl h4x 3 (by decide)
                  have h2x : L 2 = true := hcl 3 _ rfl h3x 2 (by decide)
                  have h2 : L 2 = false := hLi
                  rw [h2x] at h2; cases h2
              have nm1 : L 12 = false := by
                cases hx : L 12 with
                | false => rfl
                | true =>
                  have h12x := hx
                  have h11x : L 11 = true := hcl 12 _ rfl h12x 11 (by decide)
                  have h7x : L 7 = true := hcl 11 _ rfl h11x 7 (by decide)
                  have h4x : L 4 = true := hcl 7 _ rfl h7x 4 (by decide)
                  have h3x : L 3 = true := hcl 4 _ rfl h4x 3 (by decide)
                  have h2x : L 2 = true := hcl 3 _ rfl h3x 2 (by decide)
                  have h2 : L 2 = false := hLi
                  rw [h2x] at h2; cases h2
              have hI := hJ.inv nm
              go_big_wp2_with fail
              refine hQ _ _ _ ?_ (hJ.pre_op2 (i := 2) (by decide) nm nm1 hI (fun j v _ _ _ h => h.kept (Below.refl _ _)) (rfl))
              first | rfl | (simp [upd]; done)
            · intro L ff kk ww hkk hJ hcl hLi hwt QQ' hQ
              try dsimp only
              have nm : L 11 = false := by
                cases hx : L 11 with
                | false => rfl
                | true =>
                  have h11x := hx
                  have h7x : L 7 = true := hcl 11 _ rfl h11x 7 (by decide)
                  have h4x : L 4 = true := hcl 7 _ rfl h7x 4 (by decide)
                  have h3x : L 3 = true := hcl 4 _ rfl h4x 3 (by decide)
                  have h2 : L 3 = false := hLi
                  rw [h3x] at h2; cases h2
              have nm1 : L 12 = false := by
                cases hx : L 12 with
                | false => rfl
                | true =>
                  have h12x := hx
                  have h11x : L 11 = true := hcl 12 _ rfl h12x 11 (by decide)
                  have h7x : L 7 = true := hcl 11 _ rfl h11x 7 (by decide)
                  have h4x : L 4 = true := hcl 7 _ rfl h7x 4 (by decide)
                  have h3x : L 3 = true := hcl 4 _ rfl h4x 3 (by decide)
                  have h2 : L 3 = false := hLi
                  rw [h3x] at h2; cases h2
              have hI := hJ.inv nm
              have c1' : ff 1 = .slice (some ⟨g, 0, none⟩) l.length c := hJ.pre 1 (by decide) (hwt 1 (by decide)) nm nm
              have c2' : ff 2 = .int .i64 (k : Int) := hJ.pre 2 (by decide) (hwt 2 (by decide)) nm nm
              refine wpList_slice_h rfl 27 _ _ rfl (by kernel_rfl) _ _ _ k 1 c1' c2' (by omega) SZ _ HSH.out.symm ?_
              simp only [Act.put, List.setIfInBounds_toArray, List.set_cons_succ, List.set_cons_zero]
              exact hQ _ _ _ rfl (hJ.pre_op2 (i := 3) (by decide) nm nm1 hI (fun j v _ _ _ h => h.kept (Below.refl _ _)) rfl)
            · intro L ff kk ww hkk hJ hcl hLi hwt QQ' hQ
              try dsimp only
              have nm : L 11 = false := by
                cases hx : L 11 with
                | false => rfl
                | true =>
                  have h11x := hx
                  have h7x : L 7 = true := hcl 11 _ rfl h11x 7 (by decide)
                  have h4x : L 4 = true := hcl 7 _ rfl h7x 4 (by decide)
                  have h2 : L 4 = false := hLi
                  rw [h4x] at h2; cases h2
              have nm1 : L 12 = false := by
                cases hx : L 12 with
                | false => rfl
                | true =>
                  have h12x := hx
                  have h11x : L 11 = true := hcl 12 _ rfl h12x 11 (by decide)
                  have h7x : L 7 = true := hcl 11 _ rfl h11x 7 (by decide)
                  have h4x : L 4 = true := hcl 7 _ rfl h7x 4 (by decide)
                  have h2 : L 4 = false := hLi
                  rw [h4x] at h2; cases h2
              have hI := hJ.inv nm
              have n7 : L 7 = false := by
                cases hx : L 7 with
                | false => rfl
                | true =>
                  have h7x := hx
                  have h4x : L 4 = true := hcl 7 _ rfl h7x 4 (by decide)
                  have h2 : L 4 = false := hLi
                  rw [h4x] at h2; cases h2
              have n4 : L 4 = false := hLi
              have c3' : ff 3 = .slice (some ⟨g, 0, none⟩) k c := hJ.pre 3 (by decide) (hwt 3 (by decide)) nm nm
              obtain ⟨ge, cl, hO⟩ := hJ.pre 0 (by decide) (hwt 0 (by decide)) n4 nm
              have cl' : ff 0 = _ := cl
              rw [cl] at hO
              refine wpList_append_src rfl _ _ 27 rfl wy.heap.size 9 i0 (.string ⟨#[]⟩) 1 16 Tryz.underlying27 hi hz0 hz1 hz2 rfl (by decide) (.slice (some ⟨ge, 0, none⟩) 0 0) 0 [] cl' hO (some ⟨g, 0, none⟩) k c ((l.take k).map encStr) c3' (SR1.out _ hI) (one_map _) (by unfold maxLen; omega) (by omega) hI.size ?_
              intro v' wz ho hg hat
              rw [Nat.zero_add k, List.nil_append] at ho
              simp only [Act.put, List.setIfInBounds_toArray, List.set_cons_succ, List.set_cons_zero]
              have hbz : Below wy.heap.size wy wz := hI.grown hg hI.size (fun y e => (hO.lt y e).1)
              have hR : RowU wy.heap.size wz v' k (l.take k) := ho
              obtain ⟨a1, c1, rfl⟩ := hR.slice
              refine hQ _ _ wz rfl (hJ.pre_op2 (i := 4) (by decide) nm nm1 hbz (fun j v hL hE0 hE h => by
                    match j, h with
                    | 1, h | 2, h | 3, h | 5, h | 8, h | 9, h | 10, h => exact h
                    | 0, _ => exact absurd rfl hE
                    | 4, _ => exact absurd (hL.symm.trans n4) (by decide)
                    | 6, ⟨gx, e1, e2⟩ => exact ⟨gx, e1, (hg.block gx (Array.getElem?_eq_some_iff.1 e2).1 (fun e => empty_ne hO e2 (by have := e; simp [Value.ownBlock] at this; omega))).trans e2⟩
                    | 7, _ => exact absurd (hL.symm.trans n7) (by decide)
                    | n + 11, _ => exact True.intro) ⟨a1, c1, rfl, hR⟩)
            · intro L ff kk ww hkk hJ hcl hLi hwt QQ' hQ
              try dsimp only
              have nm : L 11 = false := by
                cases hx : L 11 with
                | false => rfl
                | true =>
                  have h11x := hx
                  have h7x : L 7 = true := hcl 11 _ rfl h11x 7 (by decide)
                  have h6x : L 6 = true := hcl 7 _ rfl h7x 6 (by decide)
                  have h5x : L 5 = true := hcl 6 _ rfl h6x 5 (by decide)
                  have h2 : L 5 = false := hLi
                  rw [h5x] at h2; cases h2
              have nm1 : L 12 = false := by
                cases hx : L 12 with
                | false => rfl
                | true =>
                  have h12x := hx
                  have h11x : L 11 = true := hcl 12 _ rfl h12x 11 (by decide)
                  have h7x : L 7 = true := hcl 11 _ rfl h11x 7 (by decide)
                  have h6x : L 6 = true := hcl 7 _ rfl h7x 6 (by decide)
                  have h5x : L 5 = true := hcl 6 _ rfl h6x 5 (by decide)
                  have h2 : L 5 = false := hLi
                  rw [h5x] at h2; cases h2
              have hI := hJ.inv nm
              go_big_wp2_with fail
              refine hQ _ _ _ ?_ (hJ.pre_op2 (i := 5) (by decide) nm nm1 hI (fun j v _ _ _ h => h.kept (Below.refl _ _)) (rfl))
              first | rfl | (simp [upd]; done)
            · intro L ff kk ww hkk hJ hcl hLi hwt QQ' hQ
              try dsimp only
              have nm : L 11 = false := by
                cases hx : L 11 with
                | false => rfl
                | true =>
                  have h11x := hx
                  have h7x : L 7 = true := hcl 11 _ rfl h11x 7 (by decide)
                  have h6x : L 6 = true := hcl 7 _ rfl h7x 6 (by decide)
                  have h2 : L 6 = false := hLi
                  rw [h6x] at h2; cases h2
              have nm1 : L 12 = false := by
                cases hx : L 12 with
                | false => rfl
                | true =>
                  have h12x := hx
                  have h11x : L 11 = true := hcl 12 _ rfl h12x 11 (by decide)
                  have h7x : L 7 = true := hcl 11 _ rfl h11x 7 (by decide)
                  have h6x : L 6 = true := hcl 7 _ rfl h7x 6 (by decide)
                  have h2 : L 6 = false := hLi
                  rw [h6x] at h2; cases h2
              have hI := hJ.inv nm
              have c5' : ff 5 = .string s := hJ.pre 5 (by decide) (hwt 5 (by decide)) nm nm
              rw [c5']
              go_big_wp2_with fail
              refine hQ _ _ (ww.alloc (.cells #[.string s] 9)) ?_ (hJ.pre_op2 (i := 6) (by decide) nm nm1 (hI.alloc hI.size _) (fun j v _ _ _ h => h.kept ((Below.refl _ _).alloc (Nat.le_refl _) _)) ⟨ww.heap.size, rfl, heap_alloc_new ww _⟩)
              first | rfl | (simp [upd, c5']; done)
            · intro L ff kk ww hkk hJ hcl hLi hwt QQ' hQ
              try dsimp only
              have nm : L 11 = false := by
                cases hx : L 11 with
                | false => rfl
                | true =>
                  have h11x := hx
                  have h7x : L 7 = true := hcl 11 _ rfl h11x 7 (by decide)
                  have h2 : L 7 = false := hLi
                  rw [h7x] at h2; cases h2
              have nm1 : L 12 = false := by
                cases hx : L 12 with
                | false => rfl
                | true =>
                  have h12x := hx
                  have h11x : L 11 = true := hcl 12 _ rfl h12x 11 (by decide)
                  have h7x : L 7 = true := hcl 11 _ rfl h11x 7 (by decide)
                  have h2 : L 7 = false := hLi
                  rw [h7x] at h2; cases h2
              have hI := hJ.inv nm
              have n7 : L 7 = false := hLi
              have y4 : L 4 = true := hwt 4 (by decide)
              have y6 : L 6 = true := hwt 6 (by decide)
              obtain ⟨a1, c1, cl, hO⟩ := hJ.pre 4 (by decide) y4 n7 nm
              obtain ⟨gx, e1, e2⟩ := hJ.pre 6 (by decide) y6 n7 nm
              have cl' : ff 4 = _ := cl
              have e1' : ff 6 = _ := e1
              rw [cl] at hO
              refine wpList_append_src rfl _ _ 27 rfl wy.heap.size 9 i0 (.string ⟨#[]⟩) 1 16 Tryz.underlying27 hi hz0 hz1 hz2 rfl (by decide) (.slice a1 k c1) k ((l.take k).map encStr) cl' hO (some ⟨gx, 0, none⟩) 1 1 [.string s] e1' (src_one e2) (by intro u hu; simp at hu; subst hu; rfl) (by unfold maxLen; omega) (by omega) hI.size ?_
              intro v' wz ho hg hat
              simp only [Act.put, List.setIfInBounds_toArray, List.set_cons_succ, List.set_cons_zero]
              have hbz : Below wy.heap.size wy wz := hI.grown hg hI.size (fun y e => (World.ownsRow.lt hO y e).1)
              have hR : RowU wy.heap.size wz v' (k + 1) (l.take k ++ [s.data.toList]) := by unfold RowU; rw [List.map_append]; exact ho
              obtain ⟨a2, c2, rfl⟩ := hR.slice
              refine hQ _ _ wz rfl (hJ.pre_op2 (i := 7) (by decide) nm nm1 hbz (fun j v hL hE0 hE h => by
                    match j, h with
                    | 1, h | 2, h | 3, h | 5, h | 8, h | 9, h | 10, h => exact h
                    | 0, _ => exact absurd (y4.symm.trans hE0) (by decide)
                    | 4, _ => exact absurd rfl hE
                    | 6, _ => exact absurd rfl hE
                    | 7, _ => exact absurd (hL.symm.trans n7) (by decide)
                    | n + 11, _ => exact True.intro) ⟨a2, c2, rfl, hR⟩)
            · intro L ff kk ww hkk hJ hcl hLi hwt QQ' hQ
              try dsimp only
              have nm : L 11 = false := by
                cases hx : L 11 with
                | false => rfl
                | true =>
                  have h11x := hx
                  have h10x : L 10 = true := hcl 11 _ rfl h11x 10 (by decide)
                  have h8x : L 8 = true := hcl 10 _ rfl h10x 8 (by decide)
                  have h2 : L 8 = false := hLi
                  rw [h8x] at h2; cases h2
              have nm1 : L 12 = false := by
                cases hx : L 12 with
                | false => rfl
                | true =>
                  have h12x := hx
                  have h11x : L 11 = true := hcl 12 _ rfl h12x 11 (by decide)
                  have h10x : L 10 = true := hcl 11 _ rfl h11x 10 (by decide)
                  have h8x : L 8 = true := hcl 10 _ rfl h10x 8 (by decide)
                  have h2 : L 8 = false := hLi
                  rw [h8x] at h2; cases h2
              have hI := hJ.inv nm
              go_big_wp2_with fail
              refine hQ _ _ _ ?_ (hJ.pre_op2 (i := 8) (by decide) nm nm1 hI (fun j v _ _ _ h => h.kept (Below.refl _ _)) (rfl))
              first | rfl | (simp [upd]; done)
            · intro L ff kk ww hkk hJ hcl hLi hwt QQ' hQ
              try dsimp only
              have nm : L 11 = false := by
                cases hx : L 11 with
                | false => rfl
                | true =>
                  have h11x := hx
                  have h10x : L 10 = true := hcl 11 _ rfl h11x 10 (by decide)
                  have h9x : L 9 = true := hcl 10 _ rfl h10x 9 (by decide)
                  have h2 : L 9 = false := hLi
                  rw [h9x] at h2; cases h2
              have nm1 : L 12 = false := by
                cases hx : L 12 with
                | false => rfl
                | true =>
                  have h12x := hx
                  have h11x : L 11 = true := hcl 12 _ rfl h12x 11 (by decide)
                  have h10x : L 10 = true := hcl 11 _ rfl h11x 10 (by decide)
                  have h9x : L 9 = true := hcl 10 _ rfl h10x 9 (by decide)
                  have h2 : L 9 = false := hLi
                  rw [h9x] at h2; cases h2
              have hI := hJ.inv nm
              go_big_wp2_with fail
              refine hQ _ _ _ ?_ (hJ.pre_op2 (i := 9) (by decide) nm nm1 hI (fun j v _ _ _ h => h.kept (Below.refl _ _)) (rfl))
              first | rfl | (simp [upd]; done)
            · intro L ff kk ww hkk hJ hcl hLi hwt QQ' hQ
              try dsimp only
              have nm : L 11 = false := by
                cases hx : L 11 with
                | false => rfl
                | true =>
                  have h11x := hx
                  have h10x : L 10 = true := hcl 11 _ rfl h11x 10 (by decide)
                  have h2 : L 10 = false := hLi
                  rw [h10x] at h2; cases h2
              have nm1 : L 12 = false := by
                cases hx : L 12 with
                | false => rfl
                | true =>
                  have h12x := hx
                  have h11x : L 11 = true := hcl 12 _ rfl h12x 11 (by decide)
                  have h10x : L 10 = true := hcl 11 _ rfl h11x 10 (by decide)
                  have h2 : L 10 = false := hLi
                  rw [h10x] at h2; cases h2
              have hI := hJ.inv nm
              have c8' : ff 8 = .slice (some ⟨g, 0, none⟩) l.length c := hJ.pre 8 (by decide) (hwt 8 (by decide)) nm nm
              have c9' : ff 9 = .int .i64 (k : Int) := hJ.pre 9 (by decide) (hwt 9 (by decide)) nm nm
              refine wpList_slice_l rfl 27 _ _ rfl (by kernel_rfl) _ _ _ k 1 c8' c9' (by omega) SZ _ HSL.out.symm ?_
              simp only [Act.put, List.setIfInBounds_toArray, List.set_cons_succ, List.set_cons_zero]
              exact hQ _ _ _ rfl (hJ.pre_op2 (i := 10) (by decide) nm nm1 hI (fun j v _ _ _ h => h.kept (Below.refl _ _)) rfl)
            · intro L ff kk ww hkk hJ hcl hLi hwt QQ' hQ
              try dsimp only
              have nm : L 11 = false := hLi
              have nm1 : L 12 = false := by
                cases hx : L 12 with
                | false => rfl
                | true =>
                  have h12x := hx
                  have h11x : L 11 = true := hcl 12 _ rfl h12x 11 (by decide)
                  have h2 : L 11 = false := hLi
                  rw [h11x] at h2; cases h2
              have hI := hJ.inv nm
              have y7 : L 7 = true := hwt 7 (by decide)
              obtain ⟨a1, c1, cl, hO⟩ := hJ.pre 7 (by decide) y7 nm nm
              have cl' : ff 7 = _ := cl
              have c10' : ff 10 = .slice ad (l.length - k) cd := hJ.pre 10 (by decide) (hwt 10 (by decide)) nm nm
              rw [cl] at hO
              refine wpList_append_src rfl _ _ 27 rfl wy.heap.size 9 i0 (.string ⟨#[]⟩) 1 16 Tryz.underlying27 hi hz0 hz1 hz2 rfl (by decide) (.slice a1 (k + 1) c1) (k + 1) ((l.take k ++ [s.data.toList]).map encStr) cl' hO ad (l.length - k) cd ((l.drop k).map encStr) c10' (SR2.out _ hI) (one_map _) (by unfold maxLen; omega) (by omega) hI.size ?_
              intro v' wz ho hg hat
              simp only [Act.put, List.setIfInBounds_toArray, List.set_cons_succ, List.set_cons_zero]
              have hbz : Below wy.heap.size wy wz := hI.grown hg hI.size (fun y e => (World.ownsRow.lt hO y e).1)
              have hR : RowU wy.heap.size wz v' (l.length + 1) (l.take k ++ s.data.toList :: l.drop k) := by
                unfold RowU
                rw [show l.length + 1 = k + 1 + (l.length - k) by omega, show l.take k ++ s.data.toList :: l.drop k = l.take k ++ [s.data.toList] ++ l.drop k by simp, List.map_append]
                exact ho
              refine hQ _ _ wz rfl (hJ.app_op nm1 ⟨hR, hbz⟩)
            · intro L ff kk ww hkk hJ hcl hLi hwt QQ' hQ
              try dsimp only
              have hm : L 11 = true := hwt 11 (by decide)
              go_big_wp2_with fail
              refine hQ _ _ _ ?_ (hJ.fin_op hm rfl)
              first | rfl | (simp [upd]; done)
          case hend =>
            intro L ff kk w9 hkb hL hJ
            try dsimp only
            obtain ⟨hR9, hb9⟩ := hJ.fin (hL 12 (by decide))
            clear hJ hL
            obtain ⟨g9, c9, e9, hb, hgs⟩ := hR9.form (by simp)
            have H9 := Lib.hid hR9
            have B9 := Lib.hid hb9
            clear hR9 hb9
            rw [e9] at H9 ⊢
            clear e9
            go_wp2
            go_ret
            exact ⟨g9, _, c9, rfl, by rw [HR.out]; simp; omega, row_cap H9.out, hgs, by rw [HR.out]; exact row_lies H9.out, B9.out⟩
      · have k1 : decide ((k : Int) < l.length) = false := decide_eq_false (by omega)
        have k0 : (0 : Int) ≤ k := by omega
        have HR : Hid (putU l s.data.toList = l.take k ++ s.data.toList :: l.drop k) := by refine Lib.hid ?_; rw [HAT.out, if_neg (by rintro ⟨h, _⟩; exact hlt h)]
        clear hcase hlow
        obtain ⟨ad, cd, hsl, hsr2⟩ := src_l (c := c) H.out HG.out hk hc
        have HSL := Lib.hid hsl
        have SR2 := Lib.hid hsr2
        have SR1 := Lib.hid (src_h (c := c) H.out HG.out hk)
        have HSH : Hid (sliced (some ⟨g, 0, none⟩) 0 k c 1 = .slice (some ⟨g, 0, none⟩) k c) := by refine Lib.hid ?_; simp [sliced, Addr.add]
        clear hsl hsr2
        go_upto_region 6 with fail
        generalize wr = wy at *
        refine wp_region_invK (by kernel_rfl) (fun kk L f W => TE (fun i => if i = 0 then 4 else if i = 4 then 7 else if i = 6 then 7 else 11) 11 (fun _ W => Below wy.heap.size wy W) (SPT g l.length c k wy.heap.size l s ad cd) (.slice none 0 0) (fun v W => RowU wy.heap.size W v (l.length + 1) (l.take k ++ s.data.toList :: l.drop k) ∧ Below wy.heap.size wy W) kk L f W) (by kernel_rfl) (TE.start rfl ((Below.refl _ _).drew)) ?_
        apply Exists.intro
        apply And.intro
        · intro f
          simp only [over, List.set]
          exact rfl
        refine ⟨?hops, ?hend⟩
        case hops =>
          refine EachOp.cons ?_ (EachOp.cons ?_ (EachOp.cons ?_ (EachOp.cons ?_ (EachOp.cons ?_ (EachOp.cons ?_ (EachOp.cons ?_ (EachOp.cons ?_ (EachOp.cons ?_ (EachOp.cons ?_ (EachOp.cons ?_ (EachOp.cons ?_ (EachOp.cons ?_ EachOp.nil))))))))))))
          · intro L ff kk ww hkk hJ hcl hLi hwt QQ' hQ
            try dsimp only
            have nm : L 11 = false := by
              cases hx : L 11 with
              | false => rfl
              | true =>
                have h11x := hx
                have h7x : L 7 = true := hcl 11 _ rfl h11x 7 (by decide)
                have h4x : L 4 = true := hcl 7 _ rfl h7x 4 (by decide)
                have h0x : L 0 = true := hcl 4 _ rfl h4x 0 (by decide)
                have h2 : L 0 = false := hLi
                rw [h0x] at h2; cases h2
            have nm1 : L 12 = false := by
              cases hx : L 12 with
              | false => rfl
              | true =>
                have h12x := hx
                have h11x : L 11 = true := hcl 12 _ rfl h12x 11 (by decide)
                have h7x : L 7 = true := hcl 11 _ rfl h11x 7 (by decide)
                have h4x : L 4 = true := hcl 7 _ rfl h7x 4 (by decide)
                have h0x : L 0 = true := hcl 4 _ rfl h4x 0 (by decide)
                have h2 : L 0 = false := hLi
                rw [h0x] at h2; cases h2
            have hI := hJ.inv nm
            go_big_wp2_with fail
            refine hQ _ _ (ww.alloc (.cells #[] 9)) ?_ (hJ.pre_op2 (i := 0) (by decide) nm nm1 (hI.alloc hI.size _) (fun j v _ _ _ h => h.kept ((Below.refl _ _).alloc (Nat.le_refl _) _)) ⟨ww.heap.size, rfl, World.ownsRow_made ww #[] 0 hI.size (by unfold maxLen; omega) rfl⟩)
            first | rfl | (simp [upd]; done)
          · intro L ff kk ww hkk hJ hcl hLi hwt QQ' hQ
            try dsimp only
            have nm : L 11 = false := by
              cases hx : L 11 with
              | false => rfl
              | true =>
                have h11x := hx
                have h7x : L 7 = true := hcl 11 _ rfl h11x 7 (by decide)
                have h4x : L 4 = true := hcl 7 _ rfl h7x 4 (by decide)
                have h3x : L 3 = true := hcl 4 _ rfl h4x 3 (by decide)
                have h1x : L 1 = true := hcl 3 _ rfl h3x 1 (by decide)
                have h2 : L 1 = false := hLi
                rw [h1x] at h2; cases h2
            have nm1 : L 12 = false := by
              cases hx : L 12 with
              | false => rfl
              | true =>
                have h12x := hx
                have h11x : L 11 = true := hcl 12 _ rfl h12x 11 (by decide)
                have h7x : L 7 = true := hcl 11 _ rfl h11x 7 (by decide)
                have h4x : L 4 = true := hcl 7 _ rfl h7x 4 (by decide)
                have h3x : L 3 = true := hcl 4 _ rfl h4x 3 (by decide)
                have h1x : L 1 = true := hcl 3 _ rfl h3x 1 (by decide)
                have h2 : L 1 = false := hLi
                rw [h1x] at h2; cases h2
            have hI := hJ.inv nm
            go_big_wp2_with fail
            refine hQ _ _ _ ?_ (hJ.pre_op2 (i := 1) (by decide) nm nm1 hI (fun j v _ _ _ h => h.kept (Below.refl _ _)) (rfl))
            first | rfl | (simp [upd]; done)
          · intro L ff kk ww hkk hJ hcl hLi hwt QQ' hQ
            try dsimp only
            have nm : L 11 = false := by
              cases hx : L 11 with
              | false => rfl
              | true =>
                have h11x := hx
                have h7x : L 7 = true := hcl 11 _ rfl h11x 7 (by decide)
                have h4x : L 4 = true := hcl 7 _ rfl h7x 4 (by decide)
                have h3x : L 3 = true := hcl 4 _ rfl h4x 3 (by decide)
                have h2x : L 2 = true := hcl 3 _ rfl h3x 2 (by decide)
                have h2 : L 2 = false := hLi
                rw [h2x] at h2; cases h2
            have nm1 : L 12 = false := by
              cases hx : L 12 with
              | false => rfl
              | true =>
                have h12x := hx
                have h11x : L 11 = true := hcl 12 _ rfl h12x 11 (by decide)
                have h7x : L 7 = true := hcl 11 _ rfl h11x 7 (by decide)
                have h4x : L 4 = true := hcl 7 _ rfl h7x 4 (by decide)
                have h3x : L 3 = true := hcl 4 _ rfl h4x 3 (by decide)
                have h2x : L 2 = true := hcl 3 _ rfl h3x 2 (by decide)
                have h2 : L 2 = false := hLi
                rw [h2x] at h2; cases h2
            have hI := hJ.inv nm
            go_big_wp2_with fail
            refine hQ _ _ _ ?_ (hJ.pre_op2 (i := 2) (by decide) nm nm1 hI (fun j v _ _ _ h => h.kept (Below.refl _ _)) (rfl))
            first | rfl | (simp [upd]; done)
          · intro L ff kk ww hkk hJ hcl hLi hwt QQ' hQ
            try dsimp only
            have nm : L 11 = false := by
              cases hx : L 11 with
              | false => rfl
              | true =>
                have h11x := hx
                have h7x : L 7 = true := hcl 11 _ rfl h11x 7 (by decide)
                have h4x : L 4 = true := hcl 7 _ rfl h7x 4 (by decide)
                have h3x : L 3 = true := hcl 4 _ rfl h4x 3 (by decide)
                have h2 : L 3 = false := hLi
                rw [h3x] at h2; cases h2
            have nm1 : L 12 = false := by
              cases hx : L 12 with
              | false => rfl
              | true =>
                have h12x := hx
                have h11x : L 11 = true := hcl 12 _ rfl h12x 11 (by decide)
                have h7x : L 7 = true := hcl 11 _ rfl h11x 7 (by decide)
                have h4x : L 4 = true := hcl 7 _ rfl h7x 4 (by decide)
                have h3x : L 3 = true := hcl 4 _ rfl h4x 3 (by decide)
                have h2 : L 3 = false := hLi
                rw [h3x] at h2; cases h2
            have hI := hJ.inv nm
            have c1' : ff 1 = .slice (some ⟨g, 0, none⟩) l.length c := hJ.pre 1 (by decide) (hwt 1 (by decide)) nm nm
            have c2' : ff 2 = .int .i64 (k : Int) := hJ.pre 2 (by decide) (hwt 2 (by decide)) nm nm
            refine wpList_slice_h rfl 27 _ _ rfl (by kernel_rfl) _ _ _ k 1 c1' c2' (by omega) SZ _ HSH.out.symm ?_
            simp only [Act.put, List.setIfInBounds_toArray, List.set_cons_succ, List.set_cons_zero]
            exact hQ _ _ _ rfl (hJ.pre_op2 (i := 3) (by decide) nm nm1 hI (fun j v _ _ _ h => h.kept (Below.refl _ _)) rfl)
          · intro L ff kk ww hkk hJ hcl hLi hwt QQ' hQ
            try dsimp only
            have nm : L 11 = false := by
              cases hx : L 11 with
              | false => rfl
              | true =>
                have h11x := hx
                have h7x : L 7 = true := hcl 11 _ rfl h11x 7 (by decide)
                have h4x : L 4 = true := hcl 7 _ rfl h7x 4 (by decide)
                have h2 : L 4 = false := hLi
                rw [h4x] at h2; cases h2
            have nm1 : L 12 = false := by
              cases hx : L 12 with
              | false => rfl
              | true =>
                have h12x := hx
                have h11x : L 11 = true := hcl 12 _ rfl h12x 11 (by decide)
                have h7x : L 7 = true := hcl 11 _ rfl h11x 7 (by decide)
                have h4x : L 4 = true := hcl 7 _ rfl h7x 4 (by decide)
                have h2 : L 4 = false := hLi
                rw [h4x] at h2; cases h2
            have hI := hJ.inv nm
            have n7 : L 7 = false := by
              cases hx : L 7 with
              | false => rfl
              | true =>
                have h7x := hx
                have h4x : L 4 = true := hcl 7 _ rfl h7x 4 (by decide)
                have h2 : L 4 = false := hLi
                rw [h4x] at h2; cases h2
            have n4 : L 4 = false := hLi
            have c3' : ff 3 = .slice (some ⟨g, 0, none⟩) k c := hJ.pre 3 (by decide) (hwt 3 (by decide)) nm nm
            obtain ⟨ge, cl, hO⟩ := hJ.pre 0 (by decide) (hwt 0 (by decide)) n4 nm
            have cl' : ff 0 = _ := cl
            rw [cl] at hO
            refine wpList_append_src rfl _ _ 27 rfl wy.heap.size 9 i0 (.string ⟨#[]⟩) 1 16 Tryz.underlying27 hi hz0 hz1 hz2 rfl (by decide) (.slice (some ⟨ge, 0, none⟩) 0 0) 0 [] cl' hO (some ⟨g, 0, none⟩) k c ((l.take k).map encStr) c3' (SR1.out _ hI) (one_map _) (by unfold maxLen; omega) (by omega) hI.size ?_
            intro v' wz ho hg hat
            rw [Nat.zero_add k, List.nil_append] at ho
            simp only [Act.put, List.setIfInBounds_toArray, List.set_cons_succ, List.set_cons_zero]
            have hbz : Below wy.heap.size wy wz := hI.grown hg hI.size (fun y e => (hO.lt y e).1)
            have hR : RowU wy.heap.size wz v' k (l.take k) := ho
            obtain ⟨a1, c1, rfl⟩ := hR.slice
            refine hQ _ _ wz rfl (hJ.pre_op2 (i := 4) (by decide) nm nm1 hbz (fun j v hL hE0 hE h => by
                  match j, h with
                  | 1, h | 2, h | 3, h | 5, h | 8, h | 9, h | 10, h => exact h
                  | 0, _ => exact absurd rfl hE
                  | 4, _ => exact absurd (hL.symm.trans n4) (by decide)
                  | 6, ⟨gx, e1, e2⟩ => exact ⟨gx, e1, (hg.block gx (Array.getElem?_eq_some_iff.1 e2).1 (fun e => empty_ne hO e2 (by have := e; simp [Value.ownBlock] at this; omega))).trans e2⟩
                  | 7, _ => exact absurd (hL.symm.trans n7) (by decide)
                  | n + 11, _ => exact True.intro) ⟨a1, c1, rfl, hR⟩)
          · intro L ff kk ww hkk hJ hcl hLi hwt QQ' hQ
            try dsimp only
            have nm : L 11 = false := by
              cases hx : L 11 with
              | false => rfl
              | true =>
                have h11x := hx
                have h7x : L 7 = true := hcl 11 _ rfl h11x 7 (by decide)
                have h6x : L 6 = true := hcl 7 _ rfl h7x 6 (by decide)
                have h5x : L 5 = true := hcl 6 _ rfl h6x 5 (by decide)
                have h2 : L 5 = false := hLi
                rw [h5x] at h2; cases h2
            have nm1 : L 12 = false := by
              cases hx : L 12 with
              | false => rfl
              | true =>
                have h12x := hx
                have h11x : L 11 = true := hcl 12 _ rfl h12x 11 (by decide)
                have h7x : L 7 = true := hcl 11 _ rfl h11x 7 (by decide)
                have h6x : L 6 = true := hcl 7 _ rfl h7x 6 (by decide)
                have h5x : L 5 = true := hcl 6 _ rfl h6x 5 (by decide)
                have h2 : L 5 = false := hLi
                rw [h5x] at h2; cases h2
            have hI := hJ.inv nm
            go_big_wp2_with fail
            refine hQ _ _ _ ?_ (hJ.pre_op2 (i := 5) (by decide) nm nm1 hI (fun j v _ _ _ h => h.kept (Below.refl _ _)) (rfl))
            first | rfl | (simp [upd]; done)
          · intro L ff kk ww hkk hJ hcl hLi hwt QQ' hQ
            try dsimp only
            have nm : L 11 = false := by
              cases hx : L 11 with
              | false => rfl
              | true =>
                have h11x := hx
                have h7x : L 7 = true := hcl 11 _ rfl h11x 7 (by decide)
                have h6x : L 6 = true := hcl 7 _ rfl h7x 6 (by decide)
                have h2 : L 6 = false := hLi
                rw [h6x] at h2; cases h2
            have nm1 : L 12 = false := by
              cases hx : L 12 with
              | false => rfl
              | true =>
                have h12x := hx
                have h11x : L 11 = true := hcl 12 _ rfl h12x 11 (by decide)
                have h7x : L 7 = true := hcl 11 _ rfl h11x 7 (by decide)
                have h6x : L 6 = true := hcl 7 _ rfl h7x 6 (by decide)
                have h2 : L 6 = false := hLi
                rw [h6x] at h2; cases h2
            have hI := hJ.inv nm
            have c5' : ff 5 = .string s := hJ.pre 5 (by decide) (hwt 5 (by decide)) nm nm
            rw [c5']
            go_big_wp2_with fail
            refine hQ _ _ (ww.alloc (.cells #[.string s] 9)) ?_ (hJ.pre_op2 (i := 6) (by decide) nm nm1 (hI.alloc hI.size _) (fun j v _ _ _ h => h.kept ((Below.refl _ _).alloc (Nat.le_refl _) _)) ⟨ww.heap.size, rfl, heap_alloc_new ww _⟩)
            first | rfl | (simp [upd, c5']; done)
          · intro L ff kk ww hkk hJ hcl hLi hwt QQ' hQ
            try dsimp only
            have nm : L 11 = false := by
              cases hx : L 11 with
              | false => rfl
              | true =>
                have h11x := hx
                have h7x : L 7 = true := hcl 11 _ rfl h11x 7 (by decide)
                have h2 : L 7 = false := hLi
                rw [h7x] at h2; cases h2
            have nm1 : L 12 = false := by
              cases hx : L 12 with
              | false => rfl
              | true =>
                have h12x := hx
                have h11x : L 11 = true := hcl 12 _ rfl h12x 11 (by decide)
                have h7x : L 7 = true := hcl 11 _ rfl h11x 7 (by decide)
                have h2 : L 7 = false := hLi
                rw [h7x] at h2; cases h2
            have hI := hJ.inv nm
            have n7 : L 7 = false := hLi
            have y4 : L 4 = true := hwt 4 (by decide)
            have y6 : L 6 = true := hwt 6 (by decide)
            obtain ⟨a1, c1, cl, hO⟩ := hJ.pre 4 (by decide) y4 n7 nm
            obtain ⟨gx, e1, e2⟩ := hJ.pre 6 (by decide) y6 n7 nm
            have cl' : ff 4 = _ := cl
            have e1' : ff 6 = _ := e1
            rw [cl] at hO
            refine wpList_append_src rfl _ _ 27 rfl wy.heap.size 9 i0 (.string ⟨#[]⟩) 1 16 Tryz.underlying27 hi hz0 hz1 hz2 rfl (by decide) (.slice a1 k c1) k ((l.take k).map encStr) cl' hO (some ⟨gx, 0, none⟩) 1 1 [.string s] e1' (src_one e2) (by intro u hu; simp at hu; subst hu; rfl) (by unfold maxLen; omega) (by omega) hI.size ?_
            intro v' wz ho hg hat
            simp only [Act.put, List.setIfInBounds_toArray, List.set_cons_succ, List.set_cons_zero]
            have hbz : Below wy.heap.size wy wz := hI.grown hg hI.size (fun y e => (World.ownsRow.lt hO y e).1)
            have hR : RowU wy.heap.size wz v' (k + 1) (l.take k ++ [s.data.toList]) := by unfold RowU; rw [List.map_append]; exact ho
            obtain ⟨a2, c2, rfl⟩ := hR.slice
            refine hQ _ _ wz rfl (hJ.pre_op2 (i := 7) (by decide) nm nm1 hbz (fun j v hL hE0 hE h => by
                  match j, h with
                  | 1, h | 2, h | 3, h | 5, h | 8, h | 9, h | 10, h => exact h
                  | 0, _ => exact absurd (y4.symm.trans hE0) (by decide)
                  | 4, _ => exact absurd rfl hE
                  | 6, _ => exact absurd rfl hE
                  | 7, _ => exact absurd (hL.symm.trans n7) (by decide)
                  | n + 11, _ => exact True.intro) ⟨a2, c2, rfl, hR⟩)
          · intro L ff kk ww hkk hJ hcl hLi hwt QQ' hQ
            try dsimp only
            have nm : L 11 = false := by
              cases hx : L 11 with
              | false => rfl
              | true =>
                have h11x := hx
                have h10x : L 10 = true := hcl 11 _ rfl h11x 10 (by decide)
                have h8x : L 8 = true := hcl 10 _ rfl h10x 8 (by decide)
                have h2 : L 8 = false := hLi
                rw [h8x] at h2; cases h2
            have nm1 : L 12 = false := by
              cases hx : L 12 with
              | false => rfl
              | true =>
                have h12x := hx
                have h11x : L 11 = true := hcl 12 _ rfl h12x 11 (by decide)
                have h10x : L 10 = true := hcl 11 _ rfl h11x 10 (by decide)
                have h8x : L 8 = true := hcl 10 _ rfl h10x 8 (by decide)
                have h2 : L 8 = false := hLi
                rw [h8x] at h2; cases h2
            have hI := hJ.inv nm
            go_big_wp2_with fail
            refine hQ _ _ _ ?_ (hJ.pre_op2 (i := 8) (by decide) nm nm1 hI (fun j v _ _ _ h => h.kept (Below.refl _ _)) (rfl))
            first | rfl | (simp [upd]; done)
          · intro L ff kk ww hkk hJ hcl hLi hwt QQ' hQ
            try dsimp only
            have nm : L 11 = false := by
              cases hx : L 11 with
              | false => rfl
              | true =>
                have h11x := hx
                have h10x : L 10 = true := hcl 11 _ rfl h11x 10 (by decide)
                have h9x : L 9 = true := hcl 10 _ rfl h10x 9 (by decide)
                have h2 : L 9 = false := hLi
                rw [h9x] at h2; cases h2
            have nm1 : L 12 = false := by
              cases hx : L 12 with
              | false => rfl
              | true =>
                have h12x := hx
                have h11x : L 11 = true := hcl 12 _ rfl h12x 11 (by decide)
                have h10x : L 10 = true := hcl 11 _ rfl h11x 10 (by decide)
                have h9x : L 9 = true := hcl 10 _ rfl h10x 9 (by decide)
                have h2 : L 9 = false := hLi
                rw [h9x] at h2; cases h2
            have hI := hJ.inv nm
            go_big_wp2_with fail
            refine hQ _ _ _ ?_ (hJ.pre_op2 (i := 9) (by decide) nm nm1 hI (fun j v _ _ _ h => h.kept (Below.refl _ _)) (rfl))
            first | rfl | (simp [upd]; done)
          · intro L ff kk ww hkk hJ hcl hLi hwt QQ' hQ
            try dsimp only
            have nm : L 11 = false := by
              cases hx : L 11 with
              | false => rfl
              | true =>
                have h11x := hx
                have h10x : L 10 = true := hcl 11 _ rfl h11x 10 (by decide)
                have h2 : L 10 = false := hLi
                rw [h10x] at h2; cases h2
            have nm1 : L 12 = false := by
              cases hx : L 12 with
              | false => rfl
              | true =>
                have h12x := hx
                have h11x : L 11 = true := hcl 12 _ rfl h12x 11 (by decide)
                have h10x : L 10 = true := hcl 11 _ rfl h11x 10 (by decide)
                have h2 : L 10 = false := hLi
                rw [h10x] at h2; cases h2
            have hI := hJ.inv nm
            have c8' : ff 8 = .slice (some ⟨g, 0, none⟩) l.length c := hJ.pre 8 (by decide) (hwt 8 (by decide)) nm nm
            have c9' : ff 9 = .int .i64 (k : Int) := hJ.pre 9 (by decide) (hwt 9 (by decide)) nm nm
            refine wpList_slice_l rfl 27 _ _ rfl (by kernel_rfl) _ _ _ k 1 c8' c9' (by omega) SZ _ HSL.out.symm ?_
            simp only [Act.put, List.setIfInBounds_toArray, List.set_cons_succ, List.set_cons_zero]
            exact hQ _ _ _ rfl (hJ.pre_op2 (i := 10) (by decide) nm nm1 hI (fun j v _ _ _ h => h.kept (Below.refl _ _)) rfl)
          · intro L ff kk ww hkk hJ hcl hLi hwt QQ' hQ
            try dsimp only
            have nm : L 11 = false := hLi
            have nm1 : L 12 = false := by
              cases hx : L 12 with
              | false => rfl
              | true =>
                have h12x := hx
                have h11x : L 11 = true := hcl 12 _ rfl h12x 11 (by decide)
                have h2 : L 11 = false := hLi
                rw [h11x] at h2; cases h2
            have hI := hJ.inv nm
            have y7 : L 7 = true := hwt 7 (by decide)
            obtain ⟨a1, c1, cl, hO⟩ := hJ.pre 7 (by decide) y7 nm nm
            have cl' : ff 7 = _ := cl
            have c10' : ff 10 = .slice ad (l.length - k) cd := hJ.pre 10 (by decide) (hwt 10 (by decide)) nm nm
            rw [cl] at hO
            refine wpList_append_src rfl _ _ 27 rfl wy.heap.size 9 i0 (.string ⟨#[]⟩) 1 16 Tryz.underlying27 hi hz0 hz1 hz2 rfl (by decide) (.slice a1 (k + 1) c1) (k + 1) ((l.take k ++ [s.data.toList]).map encStr) cl' hO ad (l.length - k) cd ((l.drop k).map encStr) c10' (SR2.out _ hI) (one_map _) (by unfold maxLen; omega) (by omega) hI.size ?_
            intro v' wz ho hg hat
            simp only [Act.put, List.setIfInBounds_toArray, List.set_cons_succ, List.set_cons_zero]
            have hbz : Below wy.heap.size wy wz := hI.grown hg hI.size (fun y e => (World.ownsRow.lt hO y e).1)
            have hR : RowU wy.heap.size wz v' (l.length + 1) (l.take k ++ s.data.toList :: l.drop k) := by
              unfold RowU
              rw [show l.length + 1 = k + 1 + (l.length - k) by omega, show l.take k ++ s.data.toList :: l.drop k = l.take k ++ [s.data.toList] ++ l.drop k by simp, List.map_append]
              exact ho
            refine hQ _ _ wz rfl (hJ.app_op nm1 ⟨hR, hbz⟩)
          · intro L ff kk ww hkk hJ hcl hLi hwt QQ' hQ
            try dsimp only
            have hm : L 11 = true := hwt 11 (by decide)
            go_big_wp2_with fail
            refine hQ _ _ _ ?_ (hJ.fin_op hm rfl)
            first | rfl | (simp [upd]; done)
        case hend =>
          intro L ff kk w9 hkb hL hJ
          try dsimp only
          obtain ⟨hR9, hb9⟩ := hJ.fin (hL 12 (by decide))
          clear hJ hL
          obtain ⟨g9, c9, e9, hb, hgs⟩ := hR9.form (by simp)
          have H9 := Lib.hid hR9
          have B9 := Lib.hid hb9
          clear hR9 hb9
          rw [e9] at H9 ⊢
          clear e9
          go_wp2
          go_ret
          exact ⟨g9, _, c9, rfl, by rw [HR.out]; simp; omega, row_cap H9.out, hgs, by rw [HR.out]; exact row_lies H9.out, B9.out⟩
end Go.Proofs.YtgoaajnppadmjaaGreatDoor
