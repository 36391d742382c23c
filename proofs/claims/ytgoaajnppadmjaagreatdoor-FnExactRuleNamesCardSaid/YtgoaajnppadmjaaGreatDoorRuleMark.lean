/-
  Rules in memory that is one's own are marked: what stays as it was.
-/
import Derived.Test.YtgoaajnppadmjaaGreatDoorRuleCopyU
import Derived.Test.YtgoaajnppadmjaaGreatDoorMarkTx
namespace Go.Proofs.YtgoaajnppadmjaaGreatDoor
open Go.RowKit
set_option linter.unusedVariables false
set_option linter.unusedSimpArgs false

def KindV (v : Value) (v' : Option Value) : Prop := match v with
  | .int k _ => ∃ y, v' = some (.int k y)
  | .string _ => ∃ s, v' = some (.string s)
  | .slice a n c => v' = some (.slice a n c)
  | _ => True
/-- Only blocks that N tells of may change, and their cells keep their kind. -/
structure KindS (N : Nat → Prop) (w w' : World) : Prop where
  os : w'.os = w.os
  tape : w'.tape = w.tape
  output : w'.output = w.output
  size : w.heap.size ≤ w'.heap.size
  far : ∀ b, b < w.heap.size → ¬ N b → w'.heap[b]? = w.heap[b]?
  kind : ∀ b o v, w.cell? ⟨b, o, none⟩ = some v → KindV v (w'.cell? ⟨b, o, none⟩)
  frz : ∀ b o, b < w.heap.size → w'.frozen? ⟨b, o, none⟩ = w.frozen? ⟨b, o, none⟩
theorem KindV.trans {v : Value} {v' v'' : Option Value} (h : KindV v v') (k : ∀ x, v' = some x → KindV x v'') : KindV v v'' := by
  cases v <;> first
    | trivial
    | (obtain ⟨y, hy⟩ := h; have h2 := k _ hy; exact h2)
    | exact k _ h
theorem KindV.refl (v : Value) : KindV v (some v) := by
  unfold KindV
  split <;> first | exact ⟨_, rfl⟩ | rfl | trivial
theorem KindS.below {N : Nat → Prop} {w w' : World} (h : Below w.heap.size w w') : KindS N w w' :=
  ⟨h.os, h.tape, h.output, h.size, fun b hb _ => h.block b hb, fun b o v hv => by rw [h.cell (p := ⟨b, o, none⟩) (World.block_lt_of_cell? w _ hv), hv]; exact KindV.refl v, fun b o hb => h.frozen (p := ⟨b, o, none⟩) hb⟩
theorem KindS.refl (N : Nat → Prop) (w : World) : KindS N w w := KindS.below (Below.refl _ _)
theorem KindS.trans {N : Nat → Prop} {a b c : World} (h : KindS N a b) (k : KindS N b c) : KindS N a c :=
  ⟨k.os.trans h.os, k.tape.trans h.tape, k.output.trans h.output, Nat.le_trans h.size k.size, fun x hx hn => (k.far x (Nat.lt_of_lt_of_le hx h.size) hn).trans (h.far x hx hn), fun x o v hv => (h.kind x o v hv).trans fun y hy => k.kind x o y hy, fun x o hx => (k.frz x o (Nat.lt_of_lt_of_le hx h.size)).trans (h.frz x o hx)⟩
theorem KindS.set {N : Nat → Prop} {w : World} {b o : Nat} {v u : Value} (hN : N b) (hv : w.cell? ⟨b, o, none⟩ = some v) (hk : KindV v (some u)) : KindS N w (w.setCell ⟨b, o, none⟩ u) := by
  refine ⟨rfl, rfl, rfl, by simp [World.setCell], fun x hx hn => ?_, fun x y v' hv' => ?_, fun x y hx => World.frozen?_setCell ..⟩
  · exact Below.heap_setCell _ _ _ _ (fun e => hn (by have e' : x = b := e; rw [e']; exact hN))
  · by_cases e : (⟨x, y, none⟩ : Addr) = ⟨b, o, none⟩
    · rw [e] at hv' ⊢
      rw [hv] at hv'
      rw [World.cell?_setCell_same (h := hv)]
      rw [← Option.some.inj hv']; exact hk
    · rw [World.cell?_setCell_other (h := fun h => e h.symm), hv']; exact KindV.refl _
def IntW (w : World) (b o : Nat) : Prop := (∃ x, w.cell? ⟨b, o, none⟩ = some (.int .i64 x)) ∧ w.frozen? ⟨b, o, none⟩ = false
def StrW (w : World) (b o : Nat) : Prop := (∃ x, w.cell? ⟨b, o, none⟩ = some (.string x)) ∧ w.frozen? ⟨b, o, none⟩ = false
theorem IntW.kept {N : Nat → Prop} {w w' : World} {b o : Nat} (h : IntW w b o) (k : KindS N w w') : IntW w' b o := by
  obtain ⟨⟨x, hx⟩, hf⟩ := h
  have := k.kind b o _ hx
  exact ⟨this, (k.frz b o (World.block_lt_of_cell? w _ hx)).trans hf⟩
theorem StrW.kept {N : Nat → Prop} {w w' : World} {b o : Nat} (h : StrW w b o) (k : KindS N w w') : StrW w' b o := by
  obtain ⟨⟨x, hx⟩, hf⟩ := h
  have := k.kind b o _ hx
  exact ⟨this, (k.frz b o (World.block_lt_of_cell? w _ hx)).trans hf⟩
def MkK (N : Nat → Prop) (w : World) (a : Option Addr) (n : Nat) : Prop := n = 0 ∨ ∃ b off, a = some ⟨b, off, none⟩ ∧ N b ∧ ∀ i, i < n → IntW w b (off + i * 2) ∧ IntW w b (off + i * 2 + 1)
theorem MkK.kept {N : Nat → Prop} {w w' : World} {a : Option Addr} {n : Nat} (h : MkK N w a n) (k : KindS N w w') : MkK N w' a n := by
  rcases h with h | ⟨b, off, h1, h2, h3⟩
  · exact Or.inl h
  · exact Or.inr ⟨b, off, h1, h2, fun i hi => ⟨(h3 i hi).1.kept k, (h3 i hi).2.kept k⟩⟩
mutual
def ShK (N : Nat → Prop) (w : World) : Tr → Fld → Prop
  | .node o n s ks ms, f => f.kl = ks.length ∧ f.ml = ms.length ∧ MkK N w f.ma ms.length ∧ (ks.length = 0 ∨ ∃ b off, f.ka = some ⟨b, off, none⟩ ∧ N b ∧ RowK N w b off ks 0)
def RowK (N : Nat → Prop) (w : World) (b off : Nat) : List Tr → Nat → Prop
  | [], _ => True
  | t :: r, i => (∃ f : Fld, IntW w b (off + i * 5) ∧ IntW w b (off + i * 5 + 1) ∧ StrW w b (off + i * 5 + 2) ∧ w.cell? ⟨b, off + i * 5 + 3, none⟩ = some (.slice f.ka f.kl f.kc) ∧ w.cell? ⟨b, off + i * 5 + 4, none⟩ = some (.slice f.ma f.ml f.mc) ∧ ShK N w t f) ∧ RowK N w b off r (i + 1)
end
mutual
theorem ShK.kept {N : Nat → Prop} {w w' : World} (k : KindS N w w') : ∀ (t : Tr) (f : Fld), ShK N w t f → ShK N w' t f
  | .node o n s ks ms, f, h => by
    rw [ShK] at h ⊢
    obtain ⟨h1, h2, h3, h4⟩ := h
    refine ⟨h1, h2, h3.kept k, ?_⟩
    rcases h4 with h | ⟨b, off, e, hN, hr⟩
    · exact Or.inl h
    · exact Or.inr ⟨b, off, e, hN, RowK.kept k b off ks 0 hr⟩
theorem RowK.kept {N : Nat → Prop} {w w' : World} (k : KindS N w w') (b off : Nat) : ∀ (ks : List Tr) (i : Nat), RowK N w b off ks i → RowK N w' b off ks i
  | [], i, h => by rw [RowK]; trivial
  | t :: r, i, h => by
    rw [RowK] at h ⊢
    obtain ⟨⟨f, h1, h2, h3, h4, h5, h6⟩, h7⟩ := h
    exact ⟨⟨f, h1.kept k, h2.kept k, h3.kept k, k.kind _ _ _ h4, k.kind _ _ _ h5, ShK.kept k t f h6⟩, RowK.kept k b off r (i + 1) h7⟩
end
theorem rowK_get {N : Nat → Prop} {w : World} {b off : Nat} : ∀ (ks : List Tr) (i j : Nat), RowK N w b off ks i → (h : j < ks.length) → ∃ f : Fld, IntW w b (off + (i + j) * 5) ∧ IntW w b (off + (i + j) * 5 + 1) ∧ StrW w b (off + (i + j) * 5 + 2) ∧ w.cell? ⟨b, off + (i + j) * 5 + 3, none⟩ = some (.slice f.ka f.kl f.kc) ∧ w.cell? ⟨b, off + (i + j) * 5 + 4, none⟩ = some (.slice f.ma f.ml f.mc) ∧ ShK N w (ks[j]) f
  | [], i, j, _, h => by simp at h
  | t :: r, i, 0, hr, h => by
    rw [RowK] at hr
    simpa using hr.1
  | t :: r, i, j + 1, hr, h => by
    rw [RowK] at hr
    have := rowK_get r (i + 1) j hr.2 (by simpa using h)
    simpa [Nat.add_assoc, Nat.add_comm 1 j] using this
theorem nz_frz {lo : Nat} {w : World} {b : Nat} (h : Nz lo w b) (o : Nat) : w.frozen? ⟨b, o, none⟩ = false := by
  obtain ⟨-, cs, T, h⟩ := h
  exact Lib.frozen_of_heap h o
mutual
/-- Rules that are one's own, not frozen, can be marked. -/
theorem shK_of {lo : Nat} {w : World} : ∀ (t : Tr) (f : Fld), TrF (Nz lo w) w t f → ShK (fun b => lo ≤ b ∧ b < w.heap.size) w t f
  | .node o n s ks ms, f, h => by
    rw [TrF] at h
    rw [ShK]
    obtain ⟨h1, h2, h3, h4, h7, h5, h6⟩ := h
    refine ⟨h4, h5.1, ?_, ?_⟩
    · obtain ⟨g1, g2⟩ := h5
      rcases g2 with g | ⟨b, off, k1, k2, k3, k4⟩
      · exact Or.inl (by omega)
      · exact Or.inr ⟨b, off, k1, ⟨k2.1, k3⟩, fun i hi => ⟨⟨⟨_, (k4 i (by omega)).1⟩, nz_frz k2 _⟩, ⟨⟨_, (k4 i (by omega)).2⟩, nz_frz k2 _⟩⟩⟩
    · rcases h6 with h | ⟨b, off, k1, k2, k3, k4⟩
      · exact Or.inl h
      · exact Or.inr ⟨b, off, k1, ⟨k2.1, k3⟩, rowK_of b off k2 ks 0 k4⟩
theorem rowK_of {lo : Nat} {w : World} (b off : Nat) (hb : Nz lo w b) : ∀ (ks : List Tr) (i : Nat), RowF (Nz lo w) w b off ks i → RowK (fun b => lo ≤ b ∧ b < w.heap.size) w b off ks i
  | [], i, h => by rw [RowK]; trivial
  | t :: r, i, h => by
    rw [RowF] at h
    rw [RowK]
    obtain ⟨⟨f, ⟨c0, c1, c2, c3, c4⟩, h2⟩, h3⟩ := h
    exact ⟨⟨f, ⟨⟨_, c0⟩, nz_frz hb _⟩, ⟨⟨_, c1⟩, nz_frz hb _⟩, ⟨⟨_, c2⟩, nz_frz hb _⟩, c3, c4, shK_of t f h2⟩, rowK_of b off hb r (i + 1) h3⟩
end
mutual
def cT : Tr → Nat
  | .node _ _ _ ks ms => 3 + cR ks + 2 * ms.length
def cR : List Tr → Nat
  | [] => 0
  | t :: r => cT t + cR r
end
theorem cR_take (ks : List Tr) (k : Nat) (h : k < ks.length) : cR (ks.take (k + 1)) = cR (ks.take k) + cT ks[k] := by
  induction ks generalizing k with
  | nil => simp at h
  | cons x r ih =>
    cases k with
    | zero => simp [cR]
    | succ k => simp only [List.take_succ_cons, cR, List.getElem_cons_succ]; rw [ih k (by simpa using h)]; omega
theorem cR_take_le (ks : List Tr) (k : Nat) : cR (ks.take k) ≤ cR ks := by
  induction ks generalizing k with
  | nil => simp
  | cons x r ih =>
    cases k with
    | zero => simp [cR]
    | succ k => simp only [List.take_succ_cons, cR]; have := ih k; omega
def MarkKP (N : Nat → Prop) (k : Nat) (w : World) (e : Ending) (w' : World) : Prop := e = .returned (.int .i64 (k : Int)) ∧ KindS N w w'
set_option maxHeartbeats 8000000 in
theorem markMk (N : Nat → Prop) (a : Option Addr) (n c k : Nat) (w : World) (h : MkK N w a n) (hl : n ≤ 1048576) (hk : k ≤ 100000000) :
    Calls Tryz.prog 54 #[.slice a n c, .int .i64 (k : Int)] w (MarkKP N (k + 2 * n) w) := by
  have H := Lib.hid h
  clear h
  go_enter Tryz.func54, Tryz.ntmps54
  go_wp2_with fail
  go_loopw [5, 1] (fun vi vk wr => ∃ i x : Nat, i ≤ n ∧ vi = .int .i64 i ∧ vk = .int .i64 (x : Int) ∧ Hid (x = k + 2 * i) ∧ Hid (KindS N w wr)) (fun vi _ _ => n - (intOf vi).toNat)
  case atStart => exact ⟨0, k, Nat.zero_le _, rfl, rfl, rfl, KindS.refl _ _⟩
  case round =>
    obtain ⟨i, x, hi, rfl, rfl, hx, hK⟩ := hrel
    rcases Nat.lt_or_ge i n with hlt | hge
    · have k1 : (i : Int) < n := by omega
      have k0 : (0 : Int) ≤ i := by omega
      have hxb : (x : Int) ≤ 200000000 := by have := hx.out; omega
      have hx0 : (0 : Int) ≤ (x : Int) := by omega
      rcases H.out.kept hK.out with h0 | ⟨b, off, rfl, hNb, hc⟩
      · omega
      obtain ⟨⟨⟨u0, q0⟩, f0⟩, hq1⟩ := hc i hlt
      have K1 : KindS N wr (wr.setCell ⟨b, off + i * 2, none⟩ (.int .i64 (x : Int))) := KindS.set hNb q0 ⟨_, rfl⟩
      obtain ⟨⟨u1, q1⟩, f1⟩ := hq1.kept K1
      have K2 : KindS N (wr.setCell ⟨b, off + i * 2, none⟩ (.int .i64 (x : Int))) ((wr.setCell ⟨b, off + i * 2, none⟩ (.int .i64 (x : Int))).setCell ⟨b, off + i * 2 + 1, none⟩ (.int .i64 ((x : Int) + 1))) := KindS.set hNb q1 ⟨_, rfl⟩
      have HK := Lib.hid (hK.out.trans (K1.trans K2))
      have HX : Hid (x + 1 + 1 = k + 2 * (i + 1)) := by refine Lib.hid ?_; have := hx.out; omega
      clear hc hq1 K1 K2
      go_wp2_with fail
      go_roundw
      case rel => exact ⟨i + 1, x + 1 + 1, by omega, by go_num, by go_num, HX, HK⟩
      case measure => simp [intOf]; omega
    · obtain rfl : i = n := by omega
      have HX := hx.out
      subst HX
      go_wp2
      go_ret
      exact ⟨rfl, hK.out⟩
def MarkRowAt (ks : List Tr) : Prop := ∀ (N : Nat → Prop) (a : Option Addr) (n c k : Nat) (w : World), n = ks.length → (n = 0 ∨ ∃ b off, a = some ⟨b, off, none⟩ ∧ N b ∧ RowK N w b off ks 0) → n ≤ 1048576 → 1 ≤ k → k + cR ks ≤ 100000000 →
  Calls Tryz.prog 53 #[.slice a n c, .int .i64 (k : Int)] w (MarkKP N (k + cR ks) w)
set_option maxRecDepth 20000 in
set_option maxHeartbeats 16000000 in
theorem markRowN (ks : List Tr) (ih : ∀ t ∈ ks, MarkRowAt t.kids) (hsz : ∀ t ∈ ks, szT t ≤ 1048576) : MarkRowAt ks := by
  intro N a n c k w hn h hl hk hb
  have H := Lib.hid h
  have HN := Lib.hid hn
  have IH := Lib.hid ih
  have HSZ := Lib.hid hsz
  clear h hn ih hsz
  go_enter Tryz.func53, Tryz.ntmps53
  go_wp2_with fail
  go_loopw [5, 1] (fun vi vk wr => ∃ i x : Nat, i ≤ n ∧ vi = .int .i64 i ∧ vk = .int .i64 (x : Int) ∧ Hid (x = k + cR (ks.take i)) ∧ Hid (KindS N w wr)) (fun vi _ _ => n - (intOf vi).toNat)
  case atStart => exact ⟨0, k, Nat.zero_le _, rfl, rfl, by simp [Hid, cR], KindS.refl _ _⟩
  case round =>
    obtain ⟨i, x, hi, rfl, rfl, hx, hK⟩ := hrel
    rcases Nat.lt_or_ge i n with hlt | hge
    · have hil : i < ks.length := by have := HN.out; omega
      have k1 : (i : Int) < n := by omega
      have k0 : (0 : Int) ≤ i := by omega
      have HTK := Lib.hid (cR_take ks i hil)
      have hle := cR_take_le ks (i + 1)
      have hszk := HSZ.out ks[i] (List.getElem_mem _)
      have IHk := IH.out ks[i] (List.getElem_mem _)
      rcases H.out with h0 | ⟨b, off, rfl, hNb, hrow⟩
      · omega
      have hr := rowK_get ks 0 i (RowK.kept hK.out b off ks 0 hrow) hil
      rw [Nat.zero_add] at hr
      obtain ⟨f, ⟨⟨u0, q0⟩, f0⟩, I1, S2, c3, c4, hsh⟩ := hr
      generalize ks[i] = t at *
      obtain ⟨o, nn, s, kk, ms⟩ := t
      rw [ShK] at hsh
      obtain ⟨s1, s2, s3, s4⟩ := hsh
      have ecT : cT (.node o nn s kk ms) = 3 + cR kk + 2 * ms.length := by rw [cT]
      rw [szT] at hszk
      have IHK : MarkRowAt kk := IHk
      have hxe := hx.out
      have hte := HTK.out
      have hxb : x + 3 + cR kk + 2 * ms.length ≤ 100000000 := by omega
      have hxp : 1 ≤ x := by omega
      have HXN : Hid (x + 3 + cR kk + 2 * ms.length = k + cR (ks.take (i + 1))) := by refine Lib.hid ?_; omega
      clear hxe hte hle ecT hrow IHk
      have K1 : KindS N wr (wr.setCell ⟨b, off + i * 5, none⟩ (.int .i64 (x : Int))) := KindS.set hNb q0 ⟨_, rfl⟩
      obtain ⟨⟨u1, q1⟩, f1⟩ := I1.kept K1
      have K2 : KindS N (wr.setCell ⟨b, off + i * 5, none⟩ (.int .i64 (x : Int))) ((wr.setCell ⟨b, off + i * 5, none⟩ (.int .i64 (x : Int))).setCell ⟨b, off + i * 5 + 1, none⟩ (.int .i64 ((x : Int) + 1))) := KindS.set hNb q1 ⟨_, rfl⟩
      have K12 := Lib.hid (K1.trans K2)
      clear K1 K2 I1
      have hx0 : (0 : Int) ≤ (x : Int) := by omega
      have hxub : (x : Int) ≤ 100000000 := by omega
      have hT := Lib.hid (fun W => markTextS (x + 2) W (by omega) (by omega))
      rw [show (((x + 2 : Nat)) : Int) = (x : Int) + 1 + 1 by omega] at hT
      have SS2 := Lib.hid S2
      have S3 := Lib.hid s3
      have S4 := Lib.hid s4
      have C3 := Lib.hid c3
      have C4 := Lib.hid c4
      have HS1 := Lib.hid s1
      have HS2 := Lib.hid s2
      have hk29 : kk.length ≤ 1048576 := by omega
      have hm29 : ms.length ≤ 1048576 := by omega
      clear s3 s4 c3 c4 S2 s1 s2 hszk
      go_wp2_with fail
      refine (hT.out _).mono ?_
      rintro e W3 ⟨rfl, d3⟩
      have K3 := Lib.hid (K12.out.trans (KindS.below d3))
      clear d3 q0 q1 f0 f1 K12
      obtain ⟨⟨u2, q2⟩, f2⟩ := SS2.out.kept K3.out
      have K4 : KindS N W3 (W3.setCell ⟨b, off + i * 5 + 2, none⟩ (.string (mkS (x + 2)))) := KindS.set hNb q2 ⟨_, rfl⟩
      have K5 := Lib.hid (K3.out.trans K4)
      have q3 : (W3.setCell ⟨b, off + i * 5 + 2, none⟩ (.string (mkS (x + 2)))).cell? ⟨b, off + i * 5 + 3, none⟩ = some (.slice f.ka f.kl f.kc) := K5.out.kind _ _ _ C3.out
      have hR := Lib.hid (IHK N f.ka f.kl f.kc (x + 3) (W3.setCell ⟨b, off + i * 5 + 2, none⟩ (.string (mkS (x + 2)))) HS1.out (by
        rcases S4.out with h | ⟨b', off', e, hN', hr'⟩
        · exact Or.inl (by rw [HS1.out]; exact h)
        · exact Or.inr ⟨b', off', e, hN', RowK.kept K5.out b' off' kk 0 hr'⟩) (by rw [HS1.out]; exact hk29) (by omega) (by omega))
      rw [show (((x + 3 : Nat)) : Int) = (x : Int) + 1 + 1 + 1 by omega] at hR
      clear K4
      generalize mkS (x + 2) = mt at *
      go_wp2_with fail
      refine hR.out.mono ?_
      rintro e W6 ⟨rfl, k6⟩
      clear q2 f2 q3 hR
      have K6 := Lib.hid (K5.out.trans k6)
      have q4 : W6.cell? ⟨b, off + i * 5 + 4, none⟩ = some (.slice f.ma f.ml f.mc) := K6.out.kind _ _ _ C4.out
      have hMM := Lib.hid (markMk N f.ma f.ml f.mc (x + 3 + cR kk) W6 (by rw [HS2.out]; exact S3.out.kept K6.out) (by rw [HS2.out]; exact hm29) (by omega))
      rw [← HS2.out] at HXN
      clear K5
      have hml9 : f.ml ≤ 1048576 := by rw [HS2.out]; exact hm29
      generalize f.ml = ml at *
      generalize x + 3 + cR kk = x9 at *
      go_wp2_with fail
      refine hMM.out.mono ?_
      rintro e W7 ⟨rfl, k7⟩
      have K7 := Lib.hid (hK.out.trans (K6.out.trans k7))
      clear q4 k7 hMM
      generalize x9 + 2 * ml = xN at *
      go_wp2_with fail
      go_roundw
      case rel => exact ⟨i + 1, xN, by omega, by go_num, rfl, HXN, K7⟩
      case measure => simp [intOf]; omega
    · obtain rfl : i = n := by omega
      have HX : Hid (x = k + cR ks) := by
        have := hx.out
        rw [List.take_of_length_le (by have := HN.out; omega)] at this
        exact this
      clear hx
      go_wp2
      go_ret
      exact ⟨by have h := HX.out; subst h; rfl, hK.out⟩
theorem markRowC : ∀ (m : Nat) (ks : List Tr), wL ks ≤ m → (∀ t ∈ ks, szT t ≤ 1048576) → MarkRowAt ks
  | 0, ks, hw, hs => markRowN ks (fun t ht => by
      have := wL_mem ht
      obtain ⟨o, n, s, kk, ms⟩ := t
      rw [wT] at this; omega) hs
  | m + 1, ks, hw, hs => markRowN ks (fun t ht => by
      have h1 := wL_mem ht
      have h2 := hs t ht
      obtain ⟨o, n, s, kk, ms⟩ := t
      rw [wT] at h1
      rw [szT] at h2
      exact markRowC m kk (by omega) (fun x hx => by have := szL_mem hx; omega)) hs
mutual
theorem cT_le : ∀ t : Tr, cT t ≤ 3 + 3 * szT t
  | .node o n s ks ms => by
    rw [cT, szT]
    have := cR_le ks
    omega
theorem cR_le : ∀ ks : List Tr, cR ks ≤ 3 * (ks.length + szL ks)
  | [] => by simp [cR]
  | t :: r => by
    rw [cR, szL]
    have a := cT_le t
    have b := cR_le r
    simp only [List.length_cons]
    omega
end
set_option maxHeartbeats 8000000 in
theorem markRuleK (N : Nat → Prop) (t : Tr) (f : Fld) (w : World) (h : ShK N w t f) (hs : szT t ≤ 1048576) :
    Calls Tryz.prog 18 #[f.val, .int .i64 1] w fun e w' => ∃ k : Nat, e = .returned (.int .i64 (k : Int)) ∧ KindS N w w' := by
  obtain ⟨o, n, s, ks, ms⟩ := t
  rw [ShK] at h
  rw [szT] at hs
  obtain ⟨s1, s2, s3, s4⟩ := h
  have hc := cR_le ks
  have hA : KindS N w (w.alloc (.cells #[.int .i64 f.op, .int .i64 f.num, .string f.name, .slice f.ka f.kl f.kc, .slice f.ma f.ml f.mc] 32)) := KindS.below ((Below.refl _ _).alloc (Nat.le_refl _) _)
  have hR := Lib.hid (markRowC _ ks (Nat.le_refl _) (fun x hx => by have := szL_mem hx; omega) N f.ka f.kl f.kc 1 (w.alloc (.cells #[.int .i64 f.op, .int .i64 f.num, .string f.name, .slice f.ka f.kl f.kc, .slice f.ma f.ml f.mc] 32)) s1 (by
    rcases s4 with h | ⟨b', off', e, hN', hr'⟩
    · exact Or.inl (by omega)
    · exact Or.inr ⟨b', off', e, hN', RowK.kept hA b' off' ks 0 hr'⟩) (by omega) (by omega) (by omega))
  have hX : Hid ((w.alloc (.cells #[.int .i64 f.op, .int .i64 f.num, .string f.name, .slice f.ka f.kl f.kc, .slice f.ma f.ml f.mc] 32)).heap[w.heap.size]? = some (.cells #[.int .i64 f.op, .int .i64 f.num, .string f.name, .slice f.ka f.kl f.kc, .slice f.ma f.ml f.mc] 32 (0, 0))) := heap_alloc_new w _
  have HA := Lib.hid hA
  have S2 := Lib.hid s2
  have S3 := Lib.hid s3
  have hm : ms.length ≤ 1048576 := by omega
  have hcb : 1 + cR ks ≤ 100000000 := by omega
  have hk0 : 1 ≤ 1 + cR ks := by omega
  clear hA s1 s2 s3 s4 hs hc
  unfold Fld.val
  go_enter Tryz.func18, Tryz.ntmps18
  go_wp2_with fail
  generalize (w.alloc (.cells #[.int .i64 f.op, .int .i64 f.num, .string f.name, .slice f.ka f.kl f.kc, .slice f.ma f.ml f.mc] 32)) = W1 at *
  generalize w.heap.size = bx at *
  rw [show ((1 : Nat) : Int) = 1 from rfl] at hR
  have q4 : W1.cell? ⟨bx, 4, none⟩ = some (.slice f.ma f.ml f.mc) := by rw [Lib.cell_of_heap hX.out]; rfl
  refine hR.out.mono ?_
  rintro e W2 ⟨rfl, k2⟩
  have K2 := Lib.hid (HA.out.trans k2)
  have q5 : W2.cell? ⟨bx, 4, none⟩ = some (.slice f.ma f.ml f.mc) := k2.kind _ _ _ q4
  have hMM := Lib.hid (markMk N f.ma f.ml f.mc (1 + cR ks) W2 (by rw [S2.out]; exact S3.out.kept K2.out) (by rw [S2.out]; exact hm) hcb)
  clear q4 k2 hR
  generalize 1 + cR ks = x9 at *
  generalize f.ml = ml at *
  go_wp2_with fail
  refine hMM.out.mono ?_
  rintro e W3 ⟨rfl, k3⟩
  have K3 := Lib.hid (K2.out.trans k3)
  generalize x9 + 2 * ml = xN at *
  clear k3 hMM q5
  go_wp2
  go_ret
  exact ⟨xN, rfl, K3.out⟩
end Go.Proofs.YtgoaajnppadmjaaGreatDoor
