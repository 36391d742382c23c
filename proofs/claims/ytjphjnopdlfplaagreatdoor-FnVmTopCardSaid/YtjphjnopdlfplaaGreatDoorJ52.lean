/-
  The program's machine in memory: names and fuel, what is at hand, how many places are left out; its stack.
  What the machine does at a place: its table, what leaves places out, what reckons.
  The program reckons at a place: it takes, says, and puts there what comes of it.
  The program runs a program, place by place.
-/
import Derived.Test.YtjphjnopdlfplaaGreatDoorJ51
import Derived.Test.YtjphjnopdlfplaaGreatDoorJ33
import Derived.Test.YtjphjnopdlfplaaGreatDoorAppSrc
import Derived.Test.YtjphjnopdlfplaaGreatDoorJ21
import Derived.Test.YtjphjnopdlfplaaGreatDoorJ34
namespace Go.Proofs.YtjphjnopdlfplaaGreatDoor
open Go.RowKit
set_option linter.unusedVariables false
set_option linter.unusedSimpArgs false

/-- The machine's own cells. -/
structure Mach (w : World) (mb : Nat) (na : Option Addr) (nl nc : Nat) (fu : Int) (a : Option Addr) (n c : Nat) (out : Int) : Prop where
  ev : Ev w mb na nl nc fu
  hand : w.cell? ⟨mb, 2, none⟩ = some (.slice a n c)
  out : w.cell? ⟨mb, 3, none⟩ = some (.int .i64 out)
  f2 : w.frozen? ⟨mb, 2, none⟩ = false
  f3 : w.frozen? ⟨mb, 3, none⟩ = false
section
variable {w w' : World} {mb : Nat} {na : Option Addr} {nl nc : Nat} {fu : Int} {a : Option Addr} {n c : Nat} {out : Int}
theorem Mach.blk (h : Mach w mb na nl nc fu a n c out) (e : w'.heap[mb]? = w.heap[mb]?) (hs : w.heap.size ≤ w'.heap.size) : Mach w' mb na nl nc fu a n c out :=
  ⟨h.ev.blk e hs, (World.cell?_of_block (a := ⟨mb, 2, none⟩) e).trans h.hand, (World.cell?_of_block (a := ⟨mb, 3, none⟩) e).trans h.out, (World.frozen?_of_block (a := ⟨mb, 2, none⟩) e).trans h.f2, (World.frozen?_of_block (a := ⟨mb, 3, none⟩) e).trans h.f3⟩
theorem Mach.kept (h : Mach w mb na nl nc fu a n c out) (hb : Below w.heap.size w w') : Mach w' mb na nl nc fu a n c out := h.blk (hb.block mb h.ev.1) hb.size
theorem Mach.setHand (h : Mach w mb na nl nc fu a n c out) (a' : Option Addr) (n' c' : Nat) : Mach (w.setCell ⟨mb, 2, none⟩ (.slice a' n' c')) mb na nl nc fu a' n' c' out := by
  obtain ⟨⟨h1, h2, h3, h4⟩, h5, h6, h7, h8⟩ := h
  refine ⟨⟨by simpa [World.setCell] using h1, ?_, ?_, by rw [World.frozen?_setCell]; exact h4⟩, World.cell?_setCell_same (h := h5) .., ?_, by rw [World.frozen?_setCell]; exact h7, by rw [World.frozen?_setCell]; exact h8⟩
  · rw [World.cell?_setCell_other (h := by simp)]; exact h2
  · rw [World.cell?_setCell_other (h := by simp)]; exact h3
  · rw [World.cell?_setCell_other (h := by simp)]; exact h6
theorem Mach.setOut (h : Mach w mb na nl nc fu a n c out) (o' : Int) : Mach (w.setCell ⟨mb, 3, none⟩ (.int .i64 o')) mb na nl nc fu a n c o' := by
  obtain ⟨⟨h1, h2, h3, h4⟩, h5, h6, h7, h8⟩ := h
  refine ⟨⟨by simpa [World.setCell] using h1, ?_, ?_, by rw [World.frozen?_setCell]; exact h4⟩, ?_, World.cell?_setCell_same (h := h6) .., by rw [World.frozen?_setCell]; exact h7, by rw [World.frozen?_setCell]; exact h8⟩
  · rw [World.cell?_setCell_other (h := by simp)]; exact h2
  · rw [World.cell?_setCell_other (h := by simp)]; exact h3
  · rw [World.cell?_setCell_other (h := by simp)]; exact h5
theorem Mach.setFuel (h : Mach w mb na nl nc fu a n c out) (f' : Int) : Mach (w.setCell ⟨mb, 1, none⟩ (.int .i64 f')) mb na nl nc f' a n c out := by
  obtain ⟨⟨h1, h2, h3, h4⟩, h5, h6, h7, h8⟩ := h
  refine ⟨⟨by simpa [World.setCell] using h1, ?_, World.cell?_setCell_same (h := h3) .., by rw [World.frozen?_setCell]; exact h4⟩, ?_, ?_, by rw [World.frozen?_setCell]; exact h7, by rw [World.frozen?_setCell]; exact h8⟩
  · rw [World.cell?_setCell_other (h := by simp)]; exact h2
  · rw [World.cell?_setCell_other (h := by simp)]; exact h5
  · rw [World.cell?_setCell_other (h := by simp)]; exact h6
end
/-- Nothing that was there is changed but the machine's block and the row at hand. -/
structure Grow2 (w w' : World) (mb : Nat) (row : Option Nat) : Prop where
  os : w'.os = w.os
  tape : w'.tape = w.tape
  output : w'.output = w.output
  size : w.heap.size ≤ w'.heap.size
  block : ∀ i, i < w.heap.size → i ≠ mb → some i ≠ row → w'.heap[i]? = w.heap[i]?
section
variable {w w' w'' : World} {mb : Nat} {row : Option Nat}
theorem Grow2.trans (h : Grow2 w w' mb row) (k : Grow2 w' w'' mb row) : Grow2 w w'' mb row :=
  ⟨k.os.trans h.os, k.tape.trans h.tape, k.output.trans h.output, Nat.le_trans h.size k.size, fun i hi h1 h2 => (k.block i (Nat.lt_of_lt_of_le hi h.size) h1 h2).trans (h.block i hi h1 h2)⟩
theorem Grow2.of_mb (h : w.grownBy w' (some mb)) : Grow2 w w' mb row := ⟨h.os, h.tape, h.output, h.size, fun i hi h1 _ => h.block i hi (fun e => h1 (Option.some.inj e))⟩
theorem Grow2.of_row (h : w.grownBy w' row) : Grow2 w w' mb row := ⟨h.os, h.tape, h.output, h.size, fun i hi _ h2 => h.block i hi h2⟩
theorem Grow2.of_below (h : Below w.heap.size w w') : Grow2 w w' mb row := ⟨h.os, h.tape, h.output, h.size, fun i hi _ _ => h.block i hi⟩
theorem Grow2.to_grown {w0 : World} (h0 : w0.grownBy w (some mb)) (h : Grow2 w w' mb row) (hr : ∀ b, row = some b → w0.heap.size ≤ b) : w0.grownBy w' (some mb) :=
  ⟨h.os.trans h0.os, h.tape.trans h0.tape, h.output.trans h0.output, Nat.le_trans h0.size h.size, fun i hi hne => (h.block i (Nat.lt_of_lt_of_le hi h0.size) (fun e => hne (by rw [e])) (fun e => by have := hr i e.symm; omega)).trans (h0.block i hi hne)⟩
end
theorem ownB_len (a : Option Addr) (n m c : Nat) : (Value.slice a n c).ownBlock = (Value.slice a m c).ownBlock := by cases a <;> rfl
theorem owns_mb {w : World} {base n mb p : Nat} {v u : Value} {l : List Value} (h : w.ownsRow base 3 1 v n l) (hb : mb < base) : (w.setCell ⟨mb, p, none⟩ u).ownsRow base 3 1 v n l :=
  h.kept (grown_set w ⟨mb, p, none⟩ u) (Or.inr (fun e => by have := (h.lt mb e).1; omega))
theorem owns_cut' {w : World} {base : Nat} {e : TypeId} {a : Option Addr} {n c r : Nat} {l : List Value} (h : w.ownsRow base e 1 (.slice a n c) n l) (hr : r ≤ n) : w.ownsRow base e 1 (.slice a r c) r (l.take r) := by
  cases a with
  | some x => exact owns_cut h hr (by simp)
  | none =>
    obtain ⟨h1, h2 | ⟨g, cap, cur, hv, -⟩⟩ := h
    · obtain ⟨hv, h0⟩ := h2
      obtain ⟨rfl, rfl⟩ : n = 0 ∧ c = 0 := by simpa using hv
      obtain rfl : r = 0 := by omega
      exact ⟨by simp, .inl ⟨rfl, rfl⟩⟩
    · simp at hv
def TakeP (mb : Nat) (a : Option Addr) (r c k : Nat) (vs : List Int) (w : World) (e : Ending) (w' : World) : Prop := ∃ (A : Option Addr) (C : Nat), e = .returned (.slice A k C) ∧ Hid (IntsN (fun b => b ≠ mb) w A k vs) ∧ w' = w.setCell ⟨mb, 2, none⟩ (.slice a r c)
set_option maxHeartbeats 8000000 in
theorem stackTake (mb k r : Nat) (a : Option Addr) (n c base : Nat) (st : List Int) (w : World) (h2 : w.cell? ⟨mb, 2, none⟩ = some (.slice a n c)) (hf : w.frozen? ⟨mb, 2, none⟩ = false) (hr : w.ownsRow base 3 1 (.slice a n c) n (st.map (Value.int .i64))) (hb : mb < base) (hn : n = r + k) (h12 : n ≤ 12) :
    Calls Tryz.prog 70 #[.pointer (some ⟨mb, 2, none⟩), .int .i64 (k : Int)] w (TakeP mb a r c k (st.drop r) w) := by
  have e1 : IntKind.i64.wrap ((n : Int) - (k : Int)) = (r : Int) := (IntWalk.i64_in _ (by omega)).trans (by omega)
  unfold TakeP
  rcases hr.2 with ⟨hv, h0⟩ | ⟨g, cap, cur, hv, k1, k2, k3, k4, k5, k6⟩
  · obtain ⟨rfl, rfl, rfl⟩ : a = none ∧ n = 0 ∧ c = 0 := by simpa using hv
    obtain ⟨rfl, rfl⟩ : r = 0 ∧ k = 0 := by omega
    have hst : st = [] := List.eq_nil_of_length_eq_zero (by have := hr.1; simpa using this)
    subst hst
    clear hr hv h0 hn
    go_enter Tryz.func70, Tryz.ntmps70
    go_wp2
    go_ret
    exact ⟨none, 0, rfl, ⟨rfl, .inl rfl⟩, rfl⟩
  · obtain ⟨rfl, -, rfl⟩ : a = some ⟨g, 0, none⟩ ∧ n = n ∧ c = cap := by simpa using hv
    have hnr : n - r = k := by omega
    have rn : (r : Int) ≤ (n : Int) := by omega
    have rc : (r : Int) ≤ (c : Int) := by omega
    have rcn : r ≤ c := by omega
    have r0 : (0 : Int) ≤ (r : Int) := by omega
    have HT : Hid (∀ ad, k = 0 ∨ ad = some ⟨g, r, none⟩ → IntsN (fun b => b ≠ mb) w ad k (st.drop r)) := fun ad had => ints_tail hr hn (by show g ≠ mb; omega) had
    have HN := Lib.hid hn
    clear hr hv hn k2 k5 k6
    by_cases hcr : c = r
    · subst hcr
      have HK : Hid (k = 0) := Lib.hid (by have := HN.out; omega)
      go_enter Tryz.func70, Tryz.ntmps70
      go_wp2
      go_ret
      exact ⟨_, _, rfl, HT.out _ (.inl HK.out), rfl⟩
    · go_enter Tryz.func70, Tryz.ntmps70
      go_wp2
      go_ret
      exact ⟨_, _, rfl, HT.out _ (.inr rfl), rfl⟩
def PushP (mb : Nat) (x : Int) (a : Option Addr) (n c base : Nat) (st : List Int) (w : World) (e : Ending) (w' : World) : Prop := ∃ (a' : Option Addr) (c' : Nat) (w1 : World), e = .returned (.tuple #[]) ∧ Hid (w1.ownsRow base 3 1 (.slice a' (n + 1) c') (n + 1) ((st ++ [x]).map (Value.int .i64))) ∧ Hid (w.grownBy w1 (Value.slice a n c).ownBlock) ∧ w' = w1.setCell ⟨mb, 2, none⟩ (.slice a' (n + 1) c')
set_option maxHeartbeats 8000000 in
theorem stackPush (mb : Nat) (x : Int) (a : Option Addr) (n c base : Nat) (st : List Int) (w : World) (hm : mb < w.heap.size) (h2 : w.cell? ⟨mb, 2, none⟩ = some (.slice a n c)) (hf : w.frozen? ⟨mb, 2, none⟩ = false) (hr : w.ownsRow base 3 1 (.slice a n c) n (st.map (Value.int .i64))) (hb : mb < base) (hbw : base ≤ w.heap.size) (h12 : n ≤ 12) :
    Calls Tryz.prog 117 #[.pointer (some ⟨mb, 2, none⟩), .int .i64 x] w (PushP mb x a n c base st w) := by
  obtain ⟨it0, hi, hz0, hz1, hz2⟩ := info_parts infoIntV
  have HR := Lib.hid hr
  clear hr
  unfold PushP
  go_enter Tryz.func117, Tryz.ntmps117
  go_wp2_with (at_builtin; refine wpList_append_lies ?pw ?p1 ?ps ?px 71 ?p2 base 3 it0 (.int .i64 0) 1 8 ?p3 ?p4 ?p5 ?p6 ?p7 ?p8 ?p9 (.slice a n c) n (st.map (Value.int .i64)) ?p10 ?ph1 ⟨w.heap.size, 0, none⟩ 1 1 [.int .i64 x] ?p11 ?p12 ?ph2 ?ph3 ?pc1 ?pc2 ?pc3 ?pc4 (w.heap.size + 1) ?pc5 ?_; (case p1 => rfl); (case p2 => rfl); (case p10 => rfl); (case p11 => rfl); (case ph1 => exact HR.out.alloc _); (case p3 => exact Tryz.underlying71); (case p4 => exact hi); (case p5 => exact hz0); (case p6 => exact hz1); (case p7 => exact hz2); (case p8 => rfl); (case p9 => decide); (case p12 => rfl); (case ph2 => exact World.news_of_block (heap_alloc_new w _)); (case ph3 => intro u hu; simp at hu; subst hu; rfl); (case pc1 => decide); (case pc2 => unfold maxLen; omega); (case pc3 => omega); (case pc4 => simp only [World.size_alloc]; omega); (case pc5 => simp only [World.size_alloc]); intro g2 cp2 wz hownZ hgrowZ hatZ hltZ; have hbx : Below w.heap.size w (w.alloc (.cells #[.int .i64 x] 3)) := (Below.refl _ _).alloc (Nat.le_refl _) _; have hnm : some mb ≠ (Value.slice a n c).ownBlock := (fun e => by have := (HR.out.lt mb e.symm).1; omega); have emb : wz.heap[mb]? = w.heap[mb]? := (hgrowZ.block mb (by have := hbx.size; omega) hnm).trans (hbx.block mb hm); have cz : wz.cell? ⟨mb, 2, none⟩ = some (.slice a n c) := (World.cell?_of_block (a := ⟨mb, 2, none⟩) emb).trans h2; have fz : wz.frozen? ⟨mb, 2, none⟩ = false := (World.frozen?_of_block (a := ⟨mb, 2, none⟩) emb).trans hf; have HGZ : Hid (w.grownBy wz (Value.slice a n c).ownBlock) := grown_trans (grown_any hbx) hgrowZ; have hownV : Hid (wz.ownsRow base 3 1 (.slice (some ⟨g2, 0, none⟩) (n + 1) cp2) (n + 1) ((st ++ [x]).map (Value.int .i64))) := (by show World.ownsRow _ _ _ _ _ _ _; rw [List.map_append]; exact hownZ))
  go_end0
  exact ⟨_, _, wz, rfl, hownV, HGZ, rfl⟩
set_option maxHeartbeats 4000000 in
theorem fuelYes (k fu : Int) (eb : Nat) (na : Option Addr) (nl nc : Nat) (w : World) (h : k ≤ fu) (k0 : 0 ≤ k) (f1 : fu ≤ 1000) (hev : Ev w eb na nl nc fu) :
    Calls Tryz.prog 68 #[.pointer (some ⟨eb, 0, none⟩), .int .i64 k] w fun e w' => e = .returned (.bool true) ∧ w' = w.setCell ⟨eb, 1, none⟩ (.int .i64 (fu - k)) := by
  have z : decide (fu < k) = false := decide_eq_false (by omega)
  have e1 : IntKind.i64.wrap (fu - k) = fu - k := IntWalk.i64_in _ (by omega)
  obtain ⟨h1, h2, h3, h4⟩ := hev
  go_enter Tryz.func68, Tryz.ntmps68
  go_wp2
  go_ret
  exact ⟨rfl, rfl⟩
set_option maxHeartbeats 4000000 in
theorem vmCostI (o n : Int) (s : ByteArray) (ma : Option Addr) (mc : Nat) (ms : List (Int × Int)) (w : World) (hm : ms.length ≤ 1048576) :
    Calls Tryz.prog 69 #[.agg #[.int .i64 o, .int .i64 n, .string s, .slice ma ms.length mc]] w fun e w' => e = .returned (.int .i64 (costP ⟨o, n, s, ms⟩)) ∧ Below w.heap.size w w' := by
  have em : IntKind.i64.wrap (1 + (ms.length : Int)) = 1 + (ms.length : Int) := IntWalk.i64_in _ (by omega)
  by_cases h : o = 11
  · subst h
    go_enter Tryz.func69, Tryz.ntmps69
    go_wp2
    go_ret
    exact ⟨rfl, (Below.refl _ _).alloc (Nat.le_refl _) _⟩
  · have z : (o == 11) = false := by simpa using h
    have hc : costP ⟨o, n, s, ms⟩ = 1 + ms.length := by unfold costP; rw [if_neg h]
    rw [hc]
    clear h hc
    go_enter Tryz.func69, Tryz.ntmps69
    go_wp2
    go_ret
    exact ⟨rfl, (Below.refl _ _).alloc (Nat.le_refl _) _⟩
/-- A drawn region in which one call alone writes: what holds between its operations. -/
structure TM (p : Nat) (M : Bool → World → Prop) (S : Nat → World → Value → Prop) (L : Nat → Bool) (f : Nat → Value) (W : World) : Prop where
  mid : M (L p) W
  pre : ∀ i, L i = true → S i W (f i)
section
variable {p : Nat} {M : Bool → World → Prop} {S : Nat → World → Value → Prop} {L : Nat → Bool} {f : Nat → Value} {W W' : World}
theorem TM.op (h : TM p M S L f W) {i : Nat} {v : Value} (hi : i ≠ p) (hM : ∀ b, M b W → M b W') (hS : ∀ j v, S j W v → S j W' v) (hv : S i W' v) : TM p M S (upd L i true) (upd f i v) W' := by
  refine ⟨by rw [upd_ne _ _ (Ne.symm hi)]; exact hM _ h.mid, fun j hL => ?_⟩
  by_cases e : j = i
  · subst e; rw [upd_self]; exact hv
  · rw [upd_ne _ _ e] at hL ⊢; exact hS _ _ (h.pre j hL)
theorem TM.call (h : TM p M S L f W) {v : Value} (hM : M true W') (hS : ∀ j v, S j W v → S j W' v) (hv : S p W' v) : TM p M S (upd L p true) (upd f p v) W' := by
  refine ⟨by rw [upd_self]; exact hM, fun j hL => ?_⟩
  by_cases e : j = p
  · subst e; rw [upd_self]; exact hv
  · rw [upd_ne _ _ e] at hL ⊢; exact hS _ _ (h.pre j hL)
end
end Go.Proofs.YtjphjnopdlfplaaGreatDoor

namespace Go.Proofs.YtjphjnopdlfplaaGreatDoor
open Go.RowKit
set_option linter.unusedVariables false
set_option linter.unusedSimpArgs false

def fnsA (mb : Nat) : Array Value := #[.nilFunc, .func (.func 95) #[.pointer (some ⟨mb, 0, none⟩)] #[], .func (.func 95) #[.pointer (some ⟨mb, 0, none⟩)] #[], .func (.func 95) #[.pointer (some ⟨mb, 0, none⟩)] #[], .func (.func 95) #[.pointer (some ⟨mb, 0, none⟩)] #[], .func (.func 95) #[.pointer (some ⟨mb, 0, none⟩)] #[], .func (.func 95) #[.pointer (some ⟨mb, 0, none⟩)] #[], .func (.func 95) #[.pointer (some ⟨mb, 0, none⟩)] #[], .func (.func 95) #[.pointer (some ⟨mb, 0, none⟩)] #[], .func (.func 96) #[.pointer (some ⟨mb, 0, none⟩)] #[], .func (.func 95) #[.pointer (some ⟨mb, 0, none⟩)] #[], .func (.func 97) #[.pointer (some ⟨mb, 0, none⟩)] #[]]
theorem fnsSize : (Tryz.prog.info? 106).map (·.size) = some 12 := by kernel_rfl
theorem fns_one (mb : Nat) : (fnsA mb).all (·.oneCell') = true := by simp [fnsA, Value.oneCell']
set_option maxRecDepth 20000 in
set_option maxHeartbeats 8000000 in
theorem opsI (mb : Nat) (w : World) :
    Calls Tryz.prog 67 #[.pointer (some ⟨mb, 0, none⟩)] w fun e w' => e = .returned (.agg (fnsA mb)) ∧ Below w.heap.size w w' := by
  have hA : Below w.heap.size w ((w.alloc (.cells #[.nilFunc, .nilFunc, .nilFunc, .nilFunc, .nilFunc, .nilFunc, .nilFunc, .nilFunc, .nilFunc, .nilFunc, .nilFunc, .nilFunc] 106)).setRow w.heap.size (fnsA mb)) := by
    refine ((Below.refl _ _).alloc (Nat.le_refl _) _).grown (grown_setRowT _ _ _) (by simp only [World.size_alloc]; omega) (fun k e => by cases e; omega)
  have hX : ((w.alloc (.cells #[.nilFunc, .nilFunc, .nilFunc, .nilFunc, .nilFunc, .nilFunc, .nilFunc, .nilFunc, .nilFunc, .nilFunc, .nilFunc, .nilFunc] 106)).setRow w.heap.size (fnsA mb)).heap[w.heap.size]? = some (.cells (fnsA mb) 106 (0, 0)) := setRow_heap _ _ _ _ _ _ (heap_alloc_new w _)
  have HA := Lib.hid hA
  have HX := Lib.hid hX
  clear hA hX
  go_enter Tryz.func67, Tryz.ntmps67
  go_wp2_with (refine wpList_store_row rfl 106 _ _ rfl w.heap.size (fnsA mb) rfl rfl 106 #[.nilFunc, .nilFunc, .nilFunc, .nilFunc, .nilFunc, .nilFunc, .nilFunc, .nilFunc, .nilFunc, .nilFunc, .nilFunc, .nilFunc] (heap_alloc_new w _) fnsSize rfl (fns_one mb) ?_)
  generalize ((w.alloc (.cells #[.nilFunc, .nilFunc, .nilFunc, .nilFunc, .nilFunc, .nilFunc, .nilFunc, .nilFunc, .nilFunc, .nilFunc, .nilFunc, .nilFunc] 106)).setRow w.heap.size (fnsA mb)) = W1 at *
  have c0 : W1.cell? ⟨w.heap.size, 0, none⟩ = some (.nilFunc) := by rw [Lib.cell_of_heap HX.out]; rfl
  have c1 : W1.cell? ⟨w.heap.size, 1, none⟩ = some (.func (.func 95) #[.pointer (some ⟨mb, 0, none⟩)] #[]) := by rw [Lib.cell_of_heap HX.out]; rfl
  have c2 : W1.cell? ⟨w.heap.size, 2, none⟩ = some (.func (.func 95) #[.pointer (some ⟨mb, 0, none⟩)] #[]) := by rw [Lib.cell_of_heap HX.out]; rfl
  have c3 : W1.cell? ⟨w.heap.size, 3, none⟩ = some (.func (.func 95) #[.pointer (some ⟨mb, 0, none⟩)] #[]) := by rw [Lib.cell_of_heap HX.out]; rfl
  have c4 : W1.cell? ⟨w.heap.size, 4, none⟩ = some (.func (.func 95) #[.pointer (some ⟨mb, 0, none⟩)] #[]) := by rw [Lib.cell_of_heap HX.out]; rfl
  have c5 : W1.cell? ⟨w.heap.size, 5, none⟩ = some (.func (.func 95) #[.pointer (some ⟨mb, 0, none⟩)] #[]) := by rw [Lib.cell_of_heap HX.out]; rfl
  have c6 : W1.cell? ⟨w.heap.size, 6, none⟩ = some (.func (.func 95) #[.pointer (some ⟨mb, 0, none⟩)] #[]) := by rw [Lib.cell_of_heap HX.out]; rfl
  have c7 : W1.cell? ⟨w.heap.size, 7, none⟩ = some (.func (.func 95) #[.pointer (some ⟨mb, 0, none⟩)] #[]) := by rw [Lib.cell_of_heap HX.out]; rfl
  have c8 : W1.cell? ⟨w.heap.size, 8, none⟩ = some (.func (.func 95) #[.pointer (some ⟨mb, 0, none⟩)] #[]) := by rw [Lib.cell_of_heap HX.out]; rfl
  have c9 : W1.cell? ⟨w.heap.size, 9, none⟩ = some (.func (.func 96) #[.pointer (some ⟨mb, 0, none⟩)] #[]) := by rw [Lib.cell_of_heap HX.out]; rfl
  have c10 : W1.cell? ⟨w.heap.size, 10, none⟩ = some (.func (.func 95) #[.pointer (some ⟨mb, 0, none⟩)] #[]) := by rw [Lib.cell_of_heap HX.out]; rfl
  have c11 : W1.cell? ⟨w.heap.size, 11, none⟩ = some (.func (.func 97) #[.pointer (some ⟨mb, 0, none⟩)] #[]) := by rw [Lib.cell_of_heap HX.out]; rfl
  (try simp only [Exit.inBlock, Exit.then])
  refine bodyPost_ret (v := .agg (fnsA mb)) ?_ rfl ⟨rfl, HA.out⟩
  rw [results_cellM rfl]
  go_simp
  rfl
set_option maxRecDepth 20000 in
set_option maxHeartbeats 8000000 in
theorem skipI (o : Int) (q : Nat) (s : ByteArray) (ma : Option Addr) (m mc : Nat) (mb : Nat) (out : Int) (w : World) (hmb : mb < w.heap.size) (h3 : w.cell? ⟨mb, 3, none⟩ = some (.int .i64 out)) (hf : w.frozen? ⟨mb, 3, none⟩ = false) :
    Calls Tryz.prog 97 #[.pointer (some ⟨mb, 0, none⟩), .agg #[.int .i64 o, .int .i64 (q : Int), .string s, .slice ma m mc]] w fun e w' => e = .returned (.int .i64 0) ∧ ∃ w1, Below w.heap.size w w1 ∧ w' = w1.setCell ⟨mb, 3, none⟩ (.int .i64 (q : Int)) := by
  have hA : Below w.heap.size w (w.alloc (.cells #[.int .i64 o, .int .i64 (q : Int), .string s, .slice ma m mc] 55)) := (Below.refl _ _).alloc (Nat.le_refl _) _
  have hArg : (w.alloc (.cells #[.int .i64 o, .int .i64 (q : Int), .string s, .slice ma m mc] 55)).heap[w.heap.size]? = some (.cells #[.int .i64 o, .int .i64 (q : Int), .string s, .slice ma m mc] 55 (0, 0)) := heap_alloc_new w _
  have HA := Lib.hid hA
  have HArg := Lib.hid hArg
  have x3 := (hA.cell (p := ⟨mb, 3, none⟩) hmb).trans h3
  have f3 := (hA.frozen (p := ⟨mb, 3, none⟩) hmb).trans hf
  clear hA hArg h3 hf
  go_enter Tryz.func97, Tryz.ntmps97
  go_upto_region 1 with fail
  generalize hW0 : (w.alloc (.cells #[.int .i64 o, .int .i64 (q : Int), .string s, .slice ma m mc] 55)) = W0 at *
  clear hW0
  have ca1 : W0.cell? ⟨w.heap.size, 1, none⟩ = some (Value.int .i64 (q : Int)) := by rw [Lib.cell_of_heap HArg.out]; rfl
  go_wp2
  go_ret
  exact ⟨rfl, W0, HA.out, rfl⟩
set_option maxRecDepth 20000 in
set_option maxHeartbeats 8000000 in
theorem testI (o : Int) (q : Nat) (s : ByteArray) (ma : Option Addr) (ml mc : Nat) (mb : Nat) (na : Option Addr) (nl nc : Nat) (fu : Int) (a : Option Addr) (n c r : Nat) (base : Nat) (st : List Int) (w : World) (hM : Mach w mb na nl nc fu a n c 0) (hr : w.ownsRow base 3 1 (.slice a n c) n (st.map (Value.int .i64))) (hb : mb < base) (hn : n = r + 2) (h12 : n ≤ 12) (x y out' : Int) (hx : (st.drop r).getD 0 0 = x) (hy : (st.drop r).getD 1 0 = y) (ho1 : x < y → out' = 0) (ho2 : y ≤ x → out' = (q : Int)) :
    Calls Tryz.prog 96 #[.pointer (some ⟨mb, 0, none⟩), .agg #[.int .i64 o, .int .i64 (q : Int), .string s, .slice ma ml mc]] w fun e w' => e = .returned (.int .i64 0) ∧ Mach w' mb na nl nc fu a r c out' ∧ w.grownBy w' (some mb) := by
  have hA : Below w.heap.size w (w.alloc (.cells #[.int .i64 o, .int .i64 (q : Int), .string s, .slice ma ml mc] 55)) := (Below.refl _ _).alloc (Nat.le_refl _) _
  have hArg : (w.alloc (.cells #[.int .i64 o, .int .i64 (q : Int), .string s, .slice ma ml mc] 55)).heap[w.heap.size]? = some (.cells #[.int .i64 o, .int .i64 (q : Int), .string s, .slice ma ml mc] 55 (0, 0)) := heap_alloc_new w _
  have HA := Lib.hid hA
  have HArg := Lib.hid hArg
  have HM := Lib.hid (hM.kept hA)
  have HO := Lib.hid (hr.kept (row := none) (grown_any hA) (by cases a <;> simp [Value.ownBlock]))
  have hmb := hM.ev.1
  have HX := Lib.hid hx
  have HY := Lib.hid hy
  have HO1 := Lib.hid ho1
  have HO2 := Lib.hid ho2
  clear hA hArg hM hr hx hy ho1 ho2
  go_enter Tryz.func96, Tryz.ntmps96
  go_upto_region 1 with fail
  generalize hW0 : (w.alloc (.cells #[.int .i64 o, .int .i64 (q : Int), .string s, .slice ma ml mc] 55)) = W0 at *
  clear hW0
  have hT := Lib.hid (stackTake mb 2 r a n c base st W0 HM.out.hand HM.out.f2 HO.out hb hn h12)
  have HN := Lib.hid hn
  clear hn
  go_wp2_with fail
  refine hT.out.mono ?_
  rintro e w1 ⟨A, C, rfl, hI, hw1⟩
  have HM1 : Hid (Mach w1 mb na nl nc fu a r c 0) := Lib.hid (by rw [hw1]; exact HM.out.setHand a r c)
  have HG1 : Hid (W0.grownBy w1 (some mb)) := Lib.hid (by rw [hw1]; exact grown_set _ _ _)
  have hI1 := hI.out.kept (same_ne HG1.out)
  obtain ⟨b3, o3, rfl, hbl3, hcs⟩ := hI1.cells (by omega)
  have v0 := hcs 0 (by omega)
  have v1 := hcs 1 (by omega)
  rw [Nat.add_zero] at v0
  rw [HX.out] at v0
  rw [HY.out] at v1
  have m3 := HM1.out.out
  have f3 := HM1.out.f3
  have hsz : W0.heap.size ≤ w1.heap.size := HG1.out.size
  have hx0 : w.heap.size < W0.heap.size := (Array.getElem?_eq_some_iff.1 HArg.out).1
  have ca1 : w1.cell? ⟨w.heap.size, 1, none⟩ = some (Value.int .i64 (q : Int)) := by rw [Lib.cell_of_heap ((HG1.out.block _ hx0 (fun e => by simp only [Option.some.injEq] at e; omega)).trans HArg.out)]; rfl
  clear hw1 hI hI1 hcs hT
  rcases Int.lt_or_le x y with c0 | c0
  · have z : decide (y ≤ x) = false := decide_eq_false (by omega)
    have HZ := Lib.hid (HO1.out c0)
    clear c0
    go_wp2_with fail
    go_quiet (fail)
    go_wp2
    go_ret
    exact ⟨rfl, by rw [HZ.out]; exact HM1.out.kept (belowN (Below.refl _ _) nq), grown_trans (grown_any HA.out) (grown_trans HG1.out (grown_any (belowN (Below.refl _ _) nq)))⟩
  · have z : decide (y ≤ x) = true := decide_eq_true c0
    have HZ := Lib.hid (HO2.out c0)
    clear c0
    go_wp2_with fail
    go_quiet (fail)
    go_wp2
    go_ret
    exact ⟨rfl, by rw [HZ.out]; exact (HM1.out.kept (belowN (Below.refl _ _) nq)).setOut _, grown_trans (grown_any HA.out) (grown_trans HG1.out (grown_trans (grown_any (belowN (Below.refl _ _) nq)) (grown_set _ _ _)))⟩
end Go.Proofs.YtjphjnopdlfplaaGreatDoor

namespace Go.Proofs.YtjphjnopdlfplaaGreatDoor
open Go.RowKit
set_option linter.unusedVariables false
set_option linter.unusedSimpArgs false

def SQ (mb k : Nat) (vs : List Int) (M : List Value) (i : Nat) (W : World) (v : Value) : Prop := (i = 11 → ∃ (A : Option Addr) (C : Nat), v = .slice A k C ∧ IntsN (fun b => b ≠ mb) W A k vs) ∧ (i ≠ 11 → v = M.getD i (.bool false))
theorem SQ.kept {mb k : Nat} {vs : List Int} {M : List Value} {i : Nat} {W W' : World} {v : Value} (h : SQ mb k vs M i W v) (hg : W.grownBy W' (some mb)) : SQ mb k vs M i W' v :=
  ⟨fun e => let ⟨A, C, h1, h2⟩ := h.1 e; ⟨A, C, h1, h2.kept (same_ne hg)⟩, h.2⟩
def ReckP (mb : Nat) (na : Option Addr) (nl nc : Nat) (fu : Int) (base : Nat) (out : Int) (st : List Int) (rv rc : Int) (row : Option Nat) (w : World) (e : Ending) (w' : World) : Prop :=
  e = .returned (.int .i64 rc) ∧ Hid (Ev w' mb na nl nc fu) ∧ Hid (rc = 0 → ∃ (a : Option Addr) (n c : Nat), Mach w' mb na nl nc fu a n c out ∧ w'.ownsRow base 3 1 (.slice a n c) n ((st ++ [rv]).map (Value.int .i64))) ∧ Hid (Grow2 w w' mb row)
set_option maxRecDepth 20000 in
set_option maxHeartbeats 16000000 in
theorem reckonI (o n : Int) (s : ByteArray) (ma : Option Addr) (mc : Nat) (ms : List (Int × Int)) (mb : Nat) (na : Option Addr) (nl nc : Nat) (fu : Int) (a : Option Addr) (n0 c r k base : Nat) (st : List Int) (ns : List (ByteArray × Int)) (out rv rc : Int) (w : World)
    (hM : Mach w mb na nl nc fu a n0 c out) (hr : w.ownsRow base 3 1 (.slice a n0 c) n0 (st.map (Value.int .i64))) (hb : mb < base) (hbw : base ≤ w.heap.size) (hn : n0 = r + k) (h12 : n0 ≤ 12) (h9 : o ≠ 9) (hin : 1 ≤ o ∧ o ≤ 10) (hk : kidsN o = (k : Int)) (hH : HoldsN o n s ms) (hall : ∀ x ∈ st.drop r, okB x = true)
    (hm : MarksN (fun b => b ≠ mb) w ma ms.length ms) (hp : PairsN (fun b => b ≠ mb) w na nl ns) (hl : nl ≤ 1048576) (hd : doR ns o n s ms (st.drop r) = (rv, rc)) :
    Calls Tryz.prog 95 #[.pointer (some ⟨mb, 0, none⟩), .agg #[.int .i64 o, .int .i64 n, .string s, .slice ma ms.length mc]] w (ReckP mb na nl nc fu base out (st.take r) rv rc (Value.slice a n0 c).ownBlock w) := by
  have hm5 : ms.length ≤ 5 := ms_len (o := o) (n := n) (s := s) (k := k) ⟨hk.symm, hH⟩
  have hl0 : n0 = st.length := by have := hr.1; simpa using this.symm
  have hA : Below w.heap.size w (w.alloc (.cells #[.int .i64 o, .int .i64 n, .string s, .slice ma ms.length mc] 55)) := (Below.refl _ _).alloc (Nat.le_refl _) _
  have hArg : (w.alloc (.cells #[.int .i64 o, .int .i64 n, .string s, .slice ma ms.length mc] 55)).heap[w.heap.size]? = some (.cells #[.int .i64 o, .int .i64 n, .string s, .slice ma ms.length mc] 55 (0, 0)) := heap_alloc_new w _
  have SA0 : Hid (∀ W A C, w.grownBy W (some mb) → Ev W mb na nl nc fu → IntsN (fun b => b ≠ mb) W A k (st.drop r) → Calls Tryz.prog (saysF o) #[.agg #[], .pointer (some ⟨mb, 0, none⟩), .agg #[.int .i64 o, .int .i64 n, .string s, .slice none 0 0, .slice ma ms.length mc], .slice A k C] W (SaysP (rv, rc) W)) := Lib.hid (fun W A C hg he hi => by
    rw [← hd]
    exact saysAll o n s none 0 0 ma mc ms ns mb fu na nl nc A k C (st.drop r) W h9 hin hH (by rw [hk, List.length_drop]; omega) hall (hi.monoN) ((hm.kept (same_ne hg)).mono (fun _ _ => trivial)) hm5 ((hp.kept (same_ne hg)).mono (fun _ _ => trivial)) hl he)
  have HIN := Lib.hid hin
  have HK := Lib.hid hk
  have HN := Lib.hid hn
  have H12 := Lib.hid h12
  have HB := Lib.hid hb
  have HM := Lib.hid (hM.kept hA)
  have HOW0 := Lib.hid hr
  have HA := Lib.hid hA
  have HArg := Lib.hid hArg
  have mk := fun W => meth_kids o hin W
  have nk := fun W => nil_kids o hin W
  have fk := fun a W => call_kids o hin a W
  have ms' := fun W => meth_says o hin W
  have nks := fun W => nil_says o hin W
  have fks := fun a W => call_says o hin a W
  have hmb := hM.ev.1
  clear hM hr hm hp hH hall hd hA hArg hk hn h9 hm5 hl0
  go_enter Tryz.func95, Tryz.ntmps95
  go_upto_region 1 with fail
  generalize hW0 : (w.alloc (.cells #[.int .i64 o, .int .i64 n, .string s, .slice ma ms.length mc] 55)) = W0 at *
  clear hW0
  have hx0 : w.heap.size < W0.heap.size := (Array.getElem?_eq_some_iff.1 HArg.out).1
  have ca0 : W0.cell? ⟨w.heap.size, 0, none⟩ = some (Value.int .i64 o) := by rw [Lib.cell_of_heap HArg.out]; rfl
  go_wp2_with fail
  refine (opOf o W0 HIN.out).mono ?_
  rintro e w1 ⟨rfl, d1⟩
  clear ca0
  have HB1 : Hid (Below w.heap.size w w1) := Lib.hid (HA.out.trans (d1.mono HA.out.size))
  have hX1 := (d1.block _ hx0).trans HArg.out
  have HX1 := Lib.hid hX1
  have hbx1 : w.heap.size < w1.heap.size := (Array.getElem?_eq_some_iff.1 hX1).1
  have hmbx : mb ≠ w.heap.size := by omega
  have BXC : Hid (∀ W, w1.grownBy W (some mb) → W.cell? ⟨w.heap.size, 0, none⟩ = some (.int .i64 o) ∧ W.cell? ⟨w.heap.size, 1, none⟩ = some (.int .i64 n) ∧ W.cell? ⟨w.heap.size, 2, none⟩ = some (.string s) ∧ W.cell? ⟨w.heap.size, 3, none⟩ = some (.slice ma ms.length mc)) := Lib.hid (fun W hW => by
    have e := (hW.block _ hbx1 (fun e => hmbx (Option.some.inj e).symm)).trans HX1.out
    refine ⟨?_, ?_, ?_, ?_⟩ <;> (rw [Lib.cell_of_heap e]; rfl))
  have HM1 : Hid (Mach w1 mb na nl nc fu a n0 c out) := Lib.hid (HM.out.kept d1)
  have HOW : Hid (∀ W, w1.grownBy W (some mb) → W.ownsRow base 3 1 (.slice a n0 c) n0 (st.map (Value.int .i64))) := Lib.hid (fun W hW => (HOW0.out.kept (row := some mb) (grown_trans (grown_any HB1.out) hW) (Or.inr (fun e => by have := (HOW0.out.lt mb e).1; have := HB.out; omega))))
  have SA : Hid (∀ W A C, w1.grownBy W (some mb) → Ev W mb na nl nc fu → IntsN (fun b => b ≠ mb) W A k (st.drop r) → Calls Tryz.prog (saysF o) #[.agg #[], .pointer (some ⟨mb, 0, none⟩), .agg #[.int .i64 o, .int .i64 n, .string s, .slice none 0 0, .slice ma ms.length mc], .slice A k C] W (SaysP (rv, rc) W)) := Lib.hid (fun W A C hg he hi => SA0.out W A C (grown_trans (grown_any HB1.out) hg) he hi)
  clear d1 hX1 SA0 HM HA HArg hx0
  go_wp2_with fail
  refine wp_region_invK (by kernel_rfl) (fun _ L fL W => TM 11 (fun b W => w1.grownBy W (some mb) ∧ Mach W mb na nl nc fu a (if b then r else n0) c out) (SQ mb k (st.drop r) [(Value.iface (opT o) (.agg #[])), (.pointer (some ⟨mb, 0, none⟩)), (.pointer (some ⟨mb, 0, none⟩)), (.pointer (some ⟨mb, 0, none⟩)), (.agg #[.int .i64 o, .int .i64 n, .string s, .slice ma ms.length mc]), (.agg #[.int .i64 o, .int .i64 n, .string s, .slice none 0 0, .slice ma ms.length mc]), (.pointer (some ⟨mb, 0, none⟩)), (.pointer (some ⟨mb, 0, none⟩)), (.pointer (some ⟨mb, 2, none⟩)), (.iface (opT o) (.agg #[])), (.int .i64 (k : Int)), (Value.bool false), (.func (.method "loop.example/stopover/impl.says") #[.iface (opT o) (.agg #[])] #[]), (.func (.method "loop.example/stopover/impl.says") #[.iface (opT o) (.agg #[])] #[]), (.iface (opT o) (.agg #[])), (.tuple #[.int .i64 rv, .int .i64 rc]), (.tuple #[.int .i64 rv, .int .i64 rc]), (.int .i64 rv), (.int .i64 rc), (.int .i64 rv), (.int .i64 rc)]) L fL W) (by kernel_rfl) ⟨⟨grown_any (Below.drew (Below.refl _ _)), HM1.out.kept (Below.drew (Below.refl _ _))⟩, fun _ a => by cases a⟩ ?_
  apply Exists.intro
  apply And.intro
  · intro f
    simp only [over, List.set]
    exact rfl
  refine ⟨?hops, ?hend⟩
  case hops =>
    refine EachOp.cons ?_ (EachOp.cons ?_ (EachOp.cons ?_ (EachOp.cons ?_ (EachOp.cons ?_ (EachOp.cons ?_ (EachOp.cons ?_ (EachOp.cons ?_ (EachOp.cons ?_ (EachOp.cons ?_ (EachOp.cons ?_ (EachOp.cons ?_ (EachOp.cons ?_ (EachOp.cons ?_ (EachOp.cons ?_ (EachOp.cons ?_ (EachOp.cons ?_ (EachOp.cons ?_ (EachOp.cons ?_ (EachOp.cons ?_ (EachOp.cons ?_ (EachOp.nil)))))))))))))))))))))
    · intro L ff kk ww hkk hJ hcl hLi hwt QQ' hQ
      try dsimp only
      go_big_wp2_with fail
      refine hQ _ (.iface (opT o) (.agg #[])) _ ?_ (hJ.op (by decide) (fun _ h => h) (fun _ _ h => h) ⟨fun e => absurd e (by decide), fun _ => rfl⟩)
      first | rfl | (simp [upd]; done)
    · intro L ff kk ww hkk hJ hcl hLi hwt QQ' hQ
      try dsimp only
      go_big_wp2_with fail
      refine hQ _ (.pointer (some ⟨mb, 0, none⟩)) _ ?_ (hJ.op (by decide) (fun _ h => h) (fun _ _ h => h) ⟨fun e => absurd e (by decide), fun _ => rfl⟩)
      first | rfl | (simp [upd]; done)
    · intro L ff kk ww hkk hJ hcl hLi hwt QQ' hQ
      try dsimp only
      have c1' : ff 1 = .pointer (some ⟨mb, 0, none⟩) := (hJ.pre 1 (hwt 1 (by decide))).2 (by decide)
      go_big_wp2_with fail
      refine hQ _ (.pointer (some ⟨mb, 0, none⟩)) _ ?_ (hJ.op (by decide) (fun _ h => h) (fun _ _ h => h) ⟨fun e => absurd e (by decide), fun _ => rfl⟩)
      first | rfl | (simp [upd, c1']; done)
    · intro L ff kk ww hkk hJ hcl hLi hwt QQ' hQ
      try dsimp only
      have c2' : ff 2 = .pointer (some ⟨mb, 0, none⟩) := (hJ.pre 2 (hwt 2 (by decide))).2 (by decide)
      go_big_wp2_with fail
      refine hQ _ (.pointer (some ⟨mb, 0, none⟩)) _ ?_ (hJ.op (by decide) (fun _ h => h) (fun _ _ h => h) ⟨fun e => absurd e (by decide), fun _ => rfl⟩)
      first | rfl | (simp [upd, c2']; done)
    · intro L ff kk ww hkk hJ hcl hLi hwt QQ' hQ
      try dsimp only
      obtain ⟨z0, z1, z2, z3⟩ := BXC.out _ hJ.mid.1
      go_big_wp2_with fail
      refine hQ _ (.agg #[.int .i64 o, .int .i64 n, .string s, .slice ma ms.length mc]) _ ?_ (hJ.op (by decide) (fun _ h => h) (fun _ _ h => h) ⟨fun e => absurd e (by decide), fun _ => rfl⟩)
      first | rfl | (simp [upd]; done)
    · intro L ff kk ww hkk hJ hcl hLi hwt QQ' hQ
      try dsimp only
      have c4' : ff 4 = .agg #[.int .i64 o, .int .i64 n, .string s, .slice ma ms.length mc] := (hJ.pre 4 (hwt 4 (by decide))).2 (by decide)
      go_big_wp2_with fail
      refine (vmRuleI o n s ma ms.length mc ww).mono ?_
      rintro e wa ⟨rfl, d9⟩
      go_big_wp2_with fail
      refine hQ _ (.agg #[.int .i64 o, .int .i64 n, .string s, .slice none 0 0, .slice ma ms.length mc]) wa ?_ (hJ.op (by decide) (fun _ h => ⟨grown_trans h.1 (grown_any d9), h.2.kept d9⟩) (fun _ _ h => h.kept (grown_any d9)) ⟨fun e => absurd e (by decide), fun _ => rfl⟩)
      first | rfl | (simp [upd, c4']; done)
    · intro L ff kk ww hkk hJ hcl hLi hwt QQ' hQ
      try dsimp only
      go_big_wp2_with fail
      refine hQ _ (.pointer (some ⟨mb, 0, none⟩)) _ ?_ (hJ.op (by decide) (fun _ h => h) (fun _ _ h => h) ⟨fun e => absurd e (by decide), fun _ => rfl⟩)
      first | rfl | (simp [upd]; done)
    · intro L ff kk ww hkk hJ hcl hLi hwt QQ' hQ
      try dsimp only
      have c6' : ff 6 = .pointer (some ⟨mb, 0, none⟩) := (hJ.pre 6 (hwt 6 (by decide))).2 (by decide)
      go_big_wp2_with fail
      refine hQ _ (.pointer (some ⟨mb, 0, none⟩)) _ ?_ (hJ.op (by decide) (fun _ h => h) (fun _ _ h => h) ⟨fun e => absurd e (by decide), fun _ => rfl⟩)
      first | rfl | (simp [upd, c6']; done)
    · intro L ff kk ww hkk hJ hcl hLi hwt QQ' hQ
      try dsimp only
      have c7' : ff 7 = .pointer (some ⟨mb, 0, none⟩) := (hJ.pre 7 (hwt 7 (by decide))).2 (by decide)
      go_big_wp2_with fail
      refine hQ _ (.pointer (some ⟨mb, 2, none⟩)) _ ?_ (hJ.op (by decide) (fun _ h => h) (fun _ _ h => h) ⟨fun e => absurd e (by decide), fun _ => rfl⟩)
      first | rfl | (simp [upd, c7']; done)
    · intro L ff kk ww hkk hJ hcl hLi hwt QQ' hQ
      try dsimp only
      go_big_wp2_with fail
      refine hQ _ (.iface (opT o) (.agg #[])) _ ?_ (hJ.op (by decide) (fun _ h => h) (fun _ _ h => h) ⟨fun e => absurd e (by decide), fun _ => rfl⟩)
      first | rfl | (simp [upd]; done)
    · intro L ff kk ww hkk hJ hcl hLi hwt QQ' hQ
      try dsimp only
      have c9' : ff 9 = .iface (opT o) (.agg #[]) := (hJ.pre 9 (hwt 9 (by decide))).2 (by decide)
      go_big_wp2_with fail
      refine (kidsI o HIN.out ww).mono ?_
      rintro e wa ⟨rfl, d9⟩
      rw [HK.out]
      go_big_wp2_with fail
      refine hQ _ (.int .i64 (k : Int)) wa ?_ (hJ.op (by decide) (fun _ h => ⟨grown_trans h.1 (grown_any d9), h.2.kept d9⟩) (fun _ _ h => h.kept (grown_any d9)) ⟨fun e => absurd e (by decide), fun _ => rfl⟩)
      first | rfl | (simp [upd, c9']; done)
    · intro L ff kk ww hkk hJ hcl hLi hwt QQ' hQ
      try dsimp only
      have c8' : ff 8 = .pointer (some ⟨mb, 2, none⟩) := (hJ.pre 8 (hwt 8 (by decide))).2 (by decide)
      have c10' : ff 10 = .int .i64 (k : Int) := (hJ.pre 10 (hwt 10 (by decide))).2 (by decide)
      have hmid := hJ.mid
      rw [hLi] at hmid
      obtain ⟨hg9, hm9⟩ := hmid
      have hT := stackTake mb k r a n0 c base st ww hm9.hand hm9.f2 (HOW.out _ hg9) HB.out HN.out H12.out
      go_big_wp2_with fail
      refine hT.mono ?_
      rintro e wa ⟨A, C, rfl, hI, hwa⟩
      have hgs : ww.grownBy wa (some mb) := by rw [hwa]; exact grown_set _ _ _
      have hma : Mach wa mb na nl nc fu a r c out := by rw [hwa]; exact hm9.setHand a r c
      clear hwa
      go_big_wp2_with fail
      refine hQ _ (.slice A k C) wa ?_ (hJ.call ⟨grown_trans hg9 hgs, hma⟩ (fun _ _ h => h.kept hgs) ⟨fun _ => ⟨A, C, rfl, hI.out.kept (same_ne hgs)⟩, fun e => absurd rfl e⟩)
      first | rfl | (simp [upd, c8', c10']; done)
    · intro L ff kk ww hkk hJ hcl hLi hwt QQ' hQ
      try dsimp only
      have c0' : ff 0 = .iface (opT o) (.agg #[]) := (hJ.pre 0 (hwt 0 (by decide))).2 (by decide)
      go_big_wp2_with fail
      refine hQ _ (.func (.method "loop.example/stopover/impl.says") #[.iface (opT o) (.agg #[])] #[]) _ ?_ (hJ.op (by decide) (fun _ h => h) (fun _ _ h => h) ⟨fun e => absurd e (by decide), fun _ => rfl⟩)
      first | rfl | (simp [upd, c0']; done)
    · intro L ff kk ww hkk hJ hcl hLi hwt QQ' hQ
      try dsimp only
      have c12' : ff 12 = .func (.method "loop.example/stopover/impl.says") #[.iface (opT o) (.agg #[])] #[] := (hJ.pre 12 (hwt 12 (by decide))).2 (by decide)
      go_big_wp2_with fail
      refine hQ _ (.func (.method "loop.example/stopover/impl.says") #[.iface (opT o) (.agg #[])] #[]) _ ?_ (hJ.op (by decide) (fun _ h => h) (fun _ _ h => h) ⟨fun e => absurd e (by decide), fun _ => rfl⟩)
      first | rfl | (simp [upd, c12']; done)
    · intro L ff kk ww hkk hJ hcl hLi hwt QQ' hQ
      try dsimp only
      have c0' : ff 0 = .iface (opT o) (.agg #[]) := (hJ.pre 0 (hwt 0 (by decide))).2 (by decide)
      go_big_wp2_with fail
      refine hQ _ (.iface (opT o) (.agg #[])) _ ?_ (hJ.op (by decide) (fun _ h => h) (fun _ _ h => h) ⟨fun e => absurd e (by decide), fun _ => rfl⟩)
      first | rfl | (simp [upd, c0']; done)
    · intro L ff kk ww hkk hJ hcl hLi hwt QQ' hQ
      try dsimp only
      have c3' : ff 3 = .pointer (some ⟨mb, 0, none⟩) := (hJ.pre 3 (hwt 3 (by decide))).2 (by decide)
      have c5' : ff 5 = .agg #[.int .i64 o, .int .i64 n, .string s, .slice none 0 0, .slice ma ms.length mc] := (hJ.pre 5 (hwt 5 (by decide))).2 (by decide)
      have c14' : ff 14 = .iface (opT o) (.agg #[]) := (hJ.pre 14 (hwt 14 (by decide))).2 (by decide)
      obtain ⟨A, C, c11, hI⟩ := (hJ.pre 11 (hwt 11 (by decide))).1 rfl
      have hSA := SA.out ww A C hJ.mid.1 hJ.mid.2.ev hI
      go_big_wp2_with fail
      refine hSA.mono ?_
      rintro e wa ⟨rfl, d9⟩
      go_big_wp2_with fail
      refine hQ _ (.tuple #[.int .i64 rv, .int .i64 rc]) wa ?_ (hJ.op (by decide) (fun _ h => ⟨grown_trans h.1 (grown_any d9), h.2.kept d9⟩) (fun _ _ h => h.kept (grown_any d9)) ⟨fun e => absurd e (by decide), fun _ => rfl⟩)
      first | rfl | (simp [upd, c3', c5', c14', c11]; done)
    · intro L ff kk ww hkk hJ hcl hLi hwt QQ' hQ
      try dsimp only
      have c15' : ff 15 = .tuple #[.int .i64 rv, .int .i64 rc] := (hJ.pre 15 (hwt 15 (by decide))).2 (by decide)
      go_big_wp2_with fail
      refine hQ _ (.tuple #[.int .i64 rv, .int .i64 rc]) _ ?_ (hJ.op (by decide) (fun _ h => h) (fun _ _ h => h) ⟨fun e => absurd e (by decide), fun _ => rfl⟩)
      first | rfl | (simp [upd, c15']; done)
    · intro L ff kk ww hkk hJ hcl hLi hwt QQ' hQ
      try dsimp only
      have c16' : ff 16 = .tuple #[.int .i64 rv, .int .i64 rc] := (hJ.pre 16 (hwt 16 (by decide))).2 (by decide)
      go_big_wp2_with fail
      refine hQ _ (.int .i64 rv) _ ?_ (hJ.op (by decide) (fun _ h => h) (fun _ _ h => h) ⟨fun e => absurd e (by decide), fun _ => rfl⟩)
      first | rfl | (simp [upd, c16']; done)
    · intro L ff kk ww hkk hJ hcl hLi hwt QQ' hQ
      try dsimp only
      have c16' : ff 16 = .tuple #[.int .i64 rv, .int .i64 rc] := (hJ.pre 16 (hwt 16 (by decide))).2 (by decide)
      go_big_wp2_with fail
      refine hQ _ (.int .i64 rc) _ ?_ (hJ.op (by decide) (fun _ h => h) (fun _ _ h => h) ⟨fun e => absurd e (by decide), fun _ => rfl⟩)
      first | rfl | (simp [upd, c16']; done)
    · intro L ff kk ww hkk hJ hcl hLi hwt QQ' hQ
      try dsimp only
      have c17' : ff 17 = .int .i64 rv := (hJ.pre 17 (hwt 17 (by decide))).2 (by decide)
      go_big_wp2_with fail
      refine hQ _ (.int .i64 rv) _ ?_ (hJ.op (by decide) (fun _ h => h) (fun _ _ h => h) ⟨fun e => absurd e (by decide), fun _ => rfl⟩)
      first | rfl | (simp [upd, c17']; done)
    · intro L ff kk ww hkk hJ hcl hLi hwt QQ' hQ
      try dsimp only
      have c18' : ff 18 = .int .i64 rc := (hJ.pre 18 (hwt 18 (by decide))).2 (by decide)
      go_big_wp2_with fail
      refine hQ _ (.int .i64 rc) _ ?_ (hJ.op (by decide) (fun _ h => h) (fun _ _ h => h) ⟨fun e => absurd e (by decide), fun _ => rfl⟩)
      first | rfl | (simp [upd, c18']; done)
  case hend =>
    intro L ff kk w6 hkb hL hJ
    try dsimp only
    have c19 : ff 19 = .int .i64 rv := (hJ.pre 19 (hL 19 (by decide))).2 (by decide)
    have c20 : ff 20 = .int .i64 rc := (hJ.pre 20 (hL 20 (by decide))).2 (by decide)
    rw [c19, c20]
    have hmid := hJ.mid
    rw [hL 11 (by decide)] at hmid
    obtain ⟨hg6, hm6⟩ := hmid
    have HM6 : Hid (Mach w6 mb na nl nc fu a r c out) := Lib.hid hm6
    have HG6 : Hid (w.grownBy w6 (some mb)) := Lib.hid (grown_trans (grown_any HB1.out) hg6)
    have HO6 : Hid (w6.ownsRow base 3 1 (.slice a r c) r ((st.take r).map (Value.int .i64))) := Lib.hid (by
      have h := owns_cut' (r := r) (HOW.out _ hg6) (by have := HN.out; omega)
      rw [← List.map_take] at h
      exact h)
    clear SA BXC HOW hJ hL c19 c20 mk nk fk ms' nks fks HX1 HM1 hm6 hg6
    by_cases hc : rc = 0
    · subst hc
      have hsz := HG6.out.size
      have hP := stackPush mb rv a r c base (st.take r) w6 HM6.out.ev.1 HM6.out.hand HM6.out.f2 HO6.out HB.out (by omega) (by have := HN.out; have := H12.out; omega)
      have hP := Lib.hid hP
      go_wp2_with fail
      refine hP.out.mono ?_
      rintro e w7 ⟨a7, c7, w8, rfl, hO8, hG8, hw7⟩
      have hmr : some mb ≠ (Value.slice a r c).ownBlock := fun e => by have := (HO6.out.lt mb e.symm).1; have := HB.out; omega
      have HM7 : Hid (Mach w7 mb na nl nc fu a7 (r + 1) c7 out) := Lib.hid (by rw [hw7]; exact (HM6.out.blk (hG8.out.block mb HM6.out.ev.1 hmr) hG8.out.size).setHand _ _ _)
      have HO7 : Hid (w7.ownsRow base 3 1 (.slice a7 (r + 1) c7) (r + 1) ((st.take r ++ [rv]).map (Value.int .i64))) := Lib.hid (by rw [hw7]; exact owns_mb hO8.out HB.out)
      have HG7 : Hid (Grow2 w w7 mb (Value.slice a n0 c).ownBlock) := Lib.hid ((Grow2.of_mb HG6.out).trans ((Grow2.of_row (by rw [ownB_len a n0 r c]; exact hG8.out)).trans (Grow2.of_mb (by rw [hw7]; exact grown_set _ _ _))))
      clear hw7 hO8 hG8 hP hmr
      go_wp2
      go_ret
      exact ⟨rfl, Lib.hid HM7.out.ev, Lib.hid (fun _ => ⟨a7, r + 1, c7, HM7.out, HO7.out⟩), HG7⟩
    · have z : (rc == 0) = false := by simpa using hc
      have HC := Lib.hid hc
      clear hc
      go_wp2
      go_ret
      exact ⟨rfl, Lib.hid HM6.out.ev, Lib.hid (fun h => absurd h HC.out), Lib.hid (Grow2.of_mb HG6.out)⟩
end Go.Proofs.YtjphjnopdlfplaaGreatDoor

namespace Go.Proofs.YtjphjnopdlfplaaGreatDoor
open Go.RowKit
set_option linter.unusedVariables false
set_option linter.unusedSimpArgs false

def StepP (mb : Nat) (na : Option Addr) (nl nc : Nat) (fu : Int) (base : Nat) (st : List Int) (out rc : Int) (row : Option Nat) (w : World) (e : Ending) (w' : World) : Prop :=
  e = .returned (.int .i64 rc) ∧ Hid (Ev w' mb na nl nc fu) ∧ Hid (rc = 0 → ∃ (a : Option Addr) (n c : Nat), Mach w' mb na nl nc fu a n c out ∧ w'.ownsRow base 3 1 (.slice a n c) n (st.map (Value.int .i64))) ∧ Hid (Grow2 w w' mb row)
theorem fn_reckon (args : Array Value) (w : World) : (callFunc 95 args).run Tryz.prog w = .ok (.enter 95 args) w := by kernel_rfl
theorem fn_test (args : Array Value) (w : World) : (callFunc 96 args).run Tryz.prog w = .ok (.enter 96 args) w := by kernel_rfl
theorem fn_skip (args : Array Value) (w : World) : (callFunc 97 args).run Tryz.prog w = .ok (.enter 97 args) w := by kernel_rfl
def StepOf (ds : List Pl) (hs : List Int) (ns : List (ByteArray × Int)) (fu : Int) (i : Nat) (f' : Int) (o nn : Int) (s : ByteArray) (ms : List (Int × Int)) (mb : Nat) (na : Option Addr) (nl nc base : Nat) (ma : Option Addr) (mc : Nat) (row : Option Nat) (w5 : World) : Prop :=
  ∃ (FN : FuncId) (st' : List Int) (out' rc : Int) (q' : Nat), ((∀ args W, (callFunc FN args).run Tryz.prog W = .ok (.enter FN args) W) ∧ 0 ≤ o ∧ o < 12 ∧ (fnsA mb)[o.toNat]? = some (.func (.func FN) #[.pointer (some ⟨mb, 0, none⟩)] #[])) ∧
    (∀ W, Below w5.heap.size w5 W → Calls Tryz.prog FN #[.pointer (some ⟨mb, 0, none⟩), .agg #[.int .i64 o, .int .i64 nn, .string s, .slice ma ms.length mc]] W (StepP mb na nl nc f' base st' out' rc row W)) ∧
    (rc ≠ 0 → machV ns ds [] fu = ⟨0, rc, f'⟩) ∧ (rc = 0 → out' = (q' : Int) ∧ i + 1 + q' ≤ ds.length ∧ RunAt ds hs ns fu (i + 1 + q') st' (fu - f'))
theorem ops9 {o : Int} (h : 1 ≤ o ∧ o ≤ 10) (h9 : o ≠ 9) : o = 1 ∨ o = 2 ∨ o = 3 ∨ o = 4 ∨ o = 5 ∨ o = 6 ∨ o = 7 ∨ o = 8 ∨ o = 10 := by omega
theorem owns_none {w w' : World} {base n : Nat} {e : TypeId} {a : Option Addr} {m c : Nat} {l : List Value} (h : w.ownsRow base e 1 (.slice a m c) n l) (hb : Below w.heap.size w w') : w'.ownsRow base e 1 (.slice a m c) n l :=
  h.kept (row := none) (grown_any hb) (by cases a <;> simp [Value.ownBlock])
theorem stepOf {ds : List Pl} {hs : List Int} {ns : List (ByteArray × Int)} {fu : Int} {i : Nat} {st : List Int} {f : Int} (hway : WayV ds hs) (hin : InV hs) (hrun : RunAt ds hs ns fu i st (fu - f)) (hil : i < ds.length) {o nn : Int} {s : ByteArray} {ms : List (Int × Int)} (hd : ds[i] = ⟨o, nn, s, ms⟩) (hf : costP ⟨o, nn, s, ms⟩ ≤ f)
    {mb : Nat} {na : Option Addr} {nl nc : Nat} {a : Option Addr} {n c base : Nat} {ma : Option Addr} {mc : Nat} {w5 : World} (hM : Mach w5 mb na nl nc (f - costP ⟨o, nn, s, ms⟩) a n c 0) (hr : w5.ownsRow base 3 1 (.slice a n c) n (st.map (Value.int .i64))) (hb : mb < base) (hbw : base ≤ w5.heap.size)
    (hm : MarksN (fun b => b ≠ mb) w5 ma ms.length ms) (hp : PairsN (fun b => b ≠ mb) w5 na nl ns) (hl : nl ≤ 1048576) :
    StepOf ds hs ns fu i (f - costP ⟨o, nn, s, ms⟩) o nn s ms mb na nl nc base ma mc (Value.slice a n c).ownBlock w5 := by
  have hml : n = st.length := by have := hr.1; simpa using this.symm
  have h12 := run_size hway hin hrun
  have hc : fu - f + costP ds[i] ≤ fu := by rw [hd]; omega
  have eu : fu - f + costP ⟨o, nn, s, ms⟩ = fu - (f - costP ⟨o, nn, s, ms⟩) := by omega
  by_cases h11 : o = 11
  · have ho : ds[i].op = 11 := by rw [hd]; exact h11
    obtain ⟨q0, q1, RN⟩ := run_skip hway hrun hil hc ho
    simp only [hd] at q0 q1 RN
    subst h11
    obtain ⟨q, rfl⟩ : ∃ q : Nat, nn = (q : Int) := ⟨nn.toNat, by omega⟩
    rw [Int.toNat_natCast] at q1 RN
    rw [eu] at RN
    refine ⟨97, st, (q : Int), 0, q, ⟨fn_skip, by omega, by omega, rfl⟩, fun W hW => ?_, fun h => absurd rfl h, fun _ => ⟨rfl, q1, RN⟩⟩
    have hM1 := hM.kept hW
    refine (skipI 11 q s ma ms.length mc mb 0 W hM1.ev.1 hM1.out hM1.f3).mono ?_
    rintro e w' ⟨rfl, w1, hB, rfl⟩
    have hM2 := (hM1.kept hB).setOut (q : Int)
    refine ⟨rfl, Lib.hid hM2.ev, Lib.hid (fun _ => ⟨a, n, c, hM2, owns_mb (owns_none (owns_none hr hW) hB) hb⟩), Lib.hid ((Grow2.of_below hB).trans (Grow2.of_mb (grown_set _ _ _)))⟩
  by_cases h9 : o = 9
  · have ho : ds[i].op = 9 := by rw [hd]; exact h9
    obtain ⟨q0, ⟨q1, q2⟩, RL, RM⟩ := run_test hway hrun hil hc ho
    simp only [hd] at q1 q2 RL RM
    subst h9
    obtain ⟨q, rfl⟩ : ∃ q : Nat, nn = (q : Int) := ⟨nn.toNat, by omega⟩
    rw [Int.toNat_natCast] at q2 RM
    rw [eu] at RL RM
    obtain ⟨r, hr2⟩ : ∃ r, st.length - 2 = r := ⟨_, rfl⟩
    rw [hr2] at RL RM
    have hn : n = r + 2 := by omega
    refine ⟨96, st.take r, if (st.drop r).getD 0 0 < (st.drop r).getD 1 0 then 0 else (q : Int), 0, if (st.drop r).getD 0 0 < (st.drop r).getD 1 0 then 0 else q, ⟨fn_test, by omega, by omega, rfl⟩, fun W hW => ?_, fun h => absurd rfl h, fun _ => ?_⟩
    · have hM1 := hM.kept hW
      have hr1 := owns_none hr hW
      refine (testI 9 q s ma ms.length mc mb na nl nc _ a n c r base st W hM1 hr1 hb hn (by omega) _ _ (if (st.drop r).getD 0 0 < (st.drop r).getD 1 0 then 0 else (q : Int)) rfl rfl (fun h => if_pos h) (fun h => if_neg (by omega))).mono ?_
      rintro e w' ⟨rfl, hM2, hG⟩
      have hr3 := owns_cut' (r := r) (hr1.kept (row := some mb) hG (Or.inr (fun e => by have := (hr1.lt mb e).1; omega))) (by omega)
      rw [← List.map_take] at hr3
      exact ⟨rfl, Lib.hid hM2.ev, Lib.hid (fun _ => ⟨a, r, c, hM2, hr3⟩), Lib.hid (Grow2.of_mb hG)⟩
    · by_cases hl2 : (st.drop r).getD 0 0 < (st.drop r).getD 1 0
      · rw [if_pos hl2, if_pos hl2]; exact ⟨rfl, by omega, RL hl2⟩
      · rw [if_neg hl2, if_neg hl2]; exact ⟨rfl, q2, RM hl2⟩
  obtain ⟨hin10, k, hk, hkn, hkm, hH, hall, FB, FG⟩ := run_do hway hrun hil hc (by rw [hd]; exact h9) (by rw [hd]; exact h11)
  simp only [hd] at hin10 hk hkn hH FB FG
  rw [eu] at FB FG
  obtain ⟨r, hr2⟩ : ∃ r, st.length - k = r := ⟨_, rfl⟩
  rw [hr2] at hall FB FG
  have hn : n = r + k := by omega
  obtain ⟨rr, hrr⟩ : ∃ rr, doR ns o nn s ms (st.drop r) = rr := ⟨_, rfl⟩
  rw [hrr] at FB FG
  obtain ⟨rv, rc⟩ := rr
  dsimp only at FB FG
  refine ⟨95, st.take r ++ [rv], 0, rc, 0, ⟨fn_reckon, by omega, by omega, ?_⟩, fun W hW => ?_, fun h => by rw [FB h, Int.sub_sub_self], fun h => ⟨rfl, by omega, FG h⟩⟩
  · rcases ops9 hin10 h9 with rfl | rfl | rfl | rfl | rfl | rfl | rfl | rfl | rfl <;> rfl
  · exact reckonI o nn s ma mc ms mb na nl nc _ a n c r k base st ns 0 rv rc W (hM.kept hW) (owns_none hr hW) hb (Nat.le_trans hbw hW.size) hn (by omega) h9 hin10 hkn hH hall (hm.kept (same_of_below hW)) (hp.kept (same_of_below hW)) hl hrr
def RunP (ds : List Pl) (ns : List (ByteArray × Int)) (fu : Int) (mb : Nat) (na : Option Addr) (nl nc : Nat) (mv : Said) (w : World) (e : Ending) (w' : World) : Prop :=
  e = .returned (.tuple #[.int .i64 mv.v, .int .i64 mv.c]) ∧ Hid (Ev w' mb na nl nc mv.f) ∧ Hid (w.grownBy w' (some mb))
set_option maxRecDepth 20000 in
set_option maxHeartbeats 32000000 in
theorem implRun (a0 : Option Addr) (nn0 cap : Nat) (ds : List Pl) (ns : List (ByteArray × Int)) (na : Option Addr) (nl nc : Nat) (fu : Int) (mb : Nat) (w : World) (h : PlsN (fun b => b ≠ mb) w a0 nn0 ds) (hsm : ∀ d ∈ ds, SmallP d) (hok : OkV ds) (hp : PairsN (fun b => b ≠ mb) w na nl ns) (hnl : nl ≤ 1048576) (f0 : 0 ≤ fu) (f1 : fu ≤ 1000) (hM : Mach w mb na nl nc fu none 0 0 0) (mv : Said) (hmv : machV ns ds [] fu = mv) :
    Calls Tryz.prog 39 #[.pointer (some ⟨mb, 0, none⟩), .slice a0 nn0 cap] w (RunP ds ns fu mb na nl nc mv w) := by
  obtain ⟨hs, hhs, hway⟩ := okV_way hok
  have HIN := Lib.hid (heightsV_in hhs)
  have HWY := Lib.hid hway
  have H := Lib.hid h
  have HSM := Lib.hid hsm
  have HP := Lib.hid hp
  have HN : Hid (nn0 = ds.length) := h.1
  have HR0 := Lib.hid (run_first (ns := ns) (fu := fu) hway)
  have n80 : nn0 ≤ 80 := by have := hok.1; have := HN.out; omega
  have HM := Lib.hid hM
  have hmb := hM.ev.1
  have HMV := Lib.hid hmv
  clear h hsm hok hp hhs hway hM hmv
  obtain ⟨mvv, mvc, mvf⟩ := mv
  go_enter Tryz.func39, Tryz.ntmps39
  go_wp2_with fail
  refine (opsI mb w).mono ?_
  rintro e w0 ⟨rfl, d0⟩
  have hA : Below w.heap.size w ((w0.alloc (.cells #[.nilFunc, .nilFunc, .nilFunc, .nilFunc, .nilFunc, .nilFunc, .nilFunc, .nilFunc, .nilFunc, .nilFunc, .nilFunc, .nilFunc] 106)).setRow w0.heap.size (fnsA mb)) := by
    refine ((d0.trans (((Below.refl _ _).alloc (Nat.le_refl _) _).mono d0.size)).grown (grown_setRowT _ _ _) (by simp only [World.size_alloc]; have := d0.size; omega) (fun k e => by cases e; exact d0.size))
  have hX : ((w0.alloc (.cells #[.nilFunc, .nilFunc, .nilFunc, .nilFunc, .nilFunc, .nilFunc, .nilFunc, .nilFunc, .nilFunc, .nilFunc, .nilFunc, .nilFunc] 106)).setRow w0.heap.size (fnsA mb)).heap[w0.heap.size]? = some (.cells (fnsA mb) 106 (0, 0)) := setRow_heap _ _ _ _ _ _ (heap_alloc_new w0 _)
  have HA := Lib.hid hA
  have HOX := Lib.hid hX
  have hob : w.heap.size ≤ w0.heap.size := d0.size
  clear hA hX d0
  go_wp2_with (refine wpList_store_row rfl 106 _ _ rfl w0.heap.size (fnsA mb) rfl rfl 106 #[.nilFunc, .nilFunc, .nilFunc, .nilFunc, .nilFunc, .nilFunc, .nilFunc, .nilFunc, .nilFunc, .nilFunc, .nilFunc, .nilFunc] (heap_alloc_new w0 _) fnsSize rfl (fns_one mb) ?_)
  generalize ((w0.alloc (.cells #[.nilFunc, .nilFunc, .nilFunc, .nilFunc, .nilFunc, .nilFunc, .nilFunc, .nilFunc, .nilFunc, .nilFunc, .nilFunc, .nilFunc] 106)).setRow w0.heap.size (fnsA mb)) = w1 at *
  generalize w0.heap.size = ob at *
  have HOB1 : Hid (ob < w1.heap.size) := Lib.hid (Array.getElem?_eq_some_iff.1 HOX.out).1
  have HOBM : Hid (ob ≠ mb) := Lib.hid (by omega)
  have HMB : Hid (mb < w1.heap.size) := Lib.hid (Nat.lt_of_lt_of_le hmb HA.out.size)
  have HW1 : Hid (w.grownBy w1 (some mb)) := Lib.hid (grown_any HA.out)
  have HM1 := Lib.hid (HM.out.kept HA.out)
  have HR1 : Hid (w1.ownsRow w1.heap.size 3 1 (.slice none 0 0) 0 (([] : List Int).map (Value.int .i64))) := Lib.hid (World.ownsRow_nil _ _ _ _)
  have HR0' : Hid (RunAt ds hs ns fu 0 [] (fu - fu)) := Lib.hid (by rw [Int.sub_self]; exact HR0.out)
  clear HM hob
  go_loopw [7] (fun vi wr => ∃ (i : Nat) (a : Option Addr) (n c : Nat) (st : List Int) (f out : Int), i ≤ nn0 ∧ vi = .int .i64 i ∧ 0 ≤ f ∧ f ≤ fu ∧ Hid (Mach wr mb na nl nc f a n c out) ∧ Hid (wr.ownsRow w1.heap.size 3 1 (.slice a n c) n (st.map (Value.int .i64))) ∧ Hid (RunAt ds hs ns fu i st (fu - f)) ∧ Hid (w1.grownBy wr (some mb))) (fun vi _ => nn0 - (intOf vi).toNat)
  case atStart => exact ⟨0, none, 0, 0, [], fu, 0, Nat.zero_le _, rfl, f0, Int.le_refl _, HM1, HR1, HR0', Lib.hid (grown_any (Below.refl _ _))⟩
  case round =>
    obtain ⟨i, a, n, c, st, f, out, hin, rfl, hf0, hfu, HM, HR, HRUN, HG⟩ := hrel
    have HML : Hid (n = st.length) := Lib.hid (by have := HR.out.1; simpa using this.symm)
    have HGW : Hid (w.grownBy wr (some mb)) := Lib.hid (grown_trans HW1.out HG.out)
    rcases Nat.lt_or_ge i nn0 with hlt | hge
    · have hil : i < ds.length := by have := HN.out; omega
      have k1 : (i : Int) < nn0 := by omega
      have k0 : (0 : Int) ≤ i := by omega
      have HM2 := Lib.hid (HM.out.setOut 0)
      have HG2 : Hid (wr.grownBy (wr.setCell ⟨mb, 3, none⟩ (.int .i64 0)) (some mb)) := Lib.hid (grown_set _ _ _)
      have m3 := HM.out.out
      have f3 := HM.out.f3
      have hH2 := H.out.kept (same_ne (grown_trans HGW.out HG2.out))
      obtain ⟨b, off, rfl, hbm, hbl, hrow⟩ := hH2.cells (by omega)
      obtain ⟨fd, hcf, ht⟩ := hrow i hil
      obtain ⟨e1, e2, e3, hm, hc2⟩ := ht
      have hsmk := (HSM.out ds[i] (List.getElem_mem _)).2
      have hcin := costP_in ds[i]
      have FL : Hid (fu < fu - f + costP ds[i] → machV ns ds [] fu = ⟨0, 1, fu - (fu - f)⟩) := Lib.hid (run_lack HRUN.out hil)
      have STO0 : Hid (∀ o nn s ms, ds[i] = ⟨o, nn, s, ms⟩ → costP ⟨o, nn, s, ms⟩ ≤ f → ∀ ma mc w6, Mach w6 mb na nl nc (f - costP ⟨o, nn, s, ms⟩) a n c 0 → w6.ownsRow w1.heap.size 3 1 (.slice a n c) n (st.map (Value.int .i64)) → w1.heap.size ≤ w6.heap.size → MarksN (fun b => b ≠ mb) w6 ma ms.length ms → PairsN (fun b => b ≠ mb) w6 na nl ns → StepOf ds hs ns fu i (f - costP ⟨o, nn, s, ms⟩) o nn s ms mb na nl nc w1.heap.size ma mc (Value.slice a n c).ownBlock w6) :=
        Lib.hid (fun o nn s ms hd hf ma mc w6 hM hr hbw hm hp => stepOf HWY.out HIN.out HRUN.out hil hd hf hM hr HMB.out hbw hm hp hnl)
      obtain ⟨d, hd⟩ : ∃ d, ds[i] = d := ⟨_, rfl⟩
      have HD := Lib.hid hd
      rw [hd] at e1 e2 e3 hm hsmk hcin FL
      obtain ⟨o, nn, s, ms⟩ := d
      obtain ⟨fo, fn, fs, ma, ml, mc⟩ := fd
      dsimp only at e1 e2 e3 hm hc2 hsmk hcin
      have q1 := e1.symm
      have q2 := e2.symm
      have q3 := e3.symm
      clear e1 e2 e3
      subst q1 q2 q3
      obtain rfl := hm.1
      have STO := Lib.hid (STO0.out o nn s ms HD.out)
      have hC := Lib.hid (fun W => vmCostI o nn s ma mc ms W hsmk)
      generalize hcv : costP ⟨o, nn, s, ms⟩ = cv at *
      have HM0 := Lib.hid hm
      obtain ⟨y0, y1, y2, y3⟩ := hcf
      dsimp only at y0 y1 y2 y3
      clear hrow hm hc2 hd hcv hH2 STO0 hbm
      generalize hW2 : wr.setCell ⟨mb, 3, none⟩ (.int .i64 0) = w2 at *
      have HW2 := Lib.hid hW2
      clear hW2
      have hWA : Below w2.heap.size w2 (w2.alloc (.cells #[.int .i64 o, .int .i64 nn, .string s, .slice ma ms.length mc] 55)) := (Below.refl _ _).alloc (Nat.le_refl _) _
      have hX : (w2.alloc (.cells #[.int .i64 o, .int .i64 nn, .string s, .slice ma ms.length mc] 55)).heap[w2.heap.size]? = some (.cells #[.int .i64 o, .int .i64 nn, .string s, .slice ma ms.length mc] 55 (0, 0)) := heap_alloc_new w2 _
      have HX3 := Lib.hid hX
      have HWA := Lib.hid hWA
      clear hX hWA
      go_upto_region 6 with fail
      rw [HW2.out]
      go_upto_region 7 with fail
      clear y0 y1 y2 y3
      have HG23 : Hid (w2.grownBy (w2.alloc (.cells #[.int .i64 o, .int .i64 nn, .string s, .slice ma ms.length mc] 55)) (some mb)) := Lib.hid (grown_any HWA.out)
      have HM3 := Lib.hid (HM2.out.kept HWA.out)
      generalize (w2.alloc (.cells #[.int .i64 o, .int .i64 nn, .string s, .slice ma ms.length mc] 55)) = w3 at *
      have hbx3 : w2.heap.size < w3.heap.size := (Array.getElem?_eq_some_iff.1 HX3.out).1
      have hwr2 : wr.heap.size ≤ w2.heap.size := HG2.out.size
      have hw1r : w1.heap.size ≤ wr.heap.size := HG.out.size
      generalize w2.heap.size = bx at *
      have HG3 : Hid (wr.grownBy w3 (some mb)) := Lib.hid (grown_trans HG2.out HG23.out)
      have HBXM : Hid (bx ≠ mb) := Lib.hid (by have := HMB.out; omega)
      have NBX : Hid (some bx ≠ (Value.slice a n c).ownBlock) := Lib.hid (fun e => by have := (HR.out.lt bx e.symm).2; omega)
      have NOB : Hid (some ob ≠ (Value.slice a n c).ownBlock) := Lib.hid (fun e => by have := (HR.out.lt ob e.symm).1; have := HOB1.out; omega)
      have HROW : Hid (∀ b, (Value.slice a n c).ownBlock = some b → w1.heap.size ≤ b) := Lib.hid (fun b e => (HR.out.lt b e).1)
      have BXC : Hid (∀ W, w3.grownBy W (some mb) → W.cell? ⟨bx, 0, none⟩ = some (.int .i64 o) ∧ W.cell? ⟨bx, 1, none⟩ = some (.int .i64 nn) ∧ W.cell? ⟨bx, 2, none⟩ = some (.string s) ∧ W.cell? ⟨bx, 3, none⟩ = some (.slice ma ms.length mc)) := Lib.hid (fun W hW => by
        have e := (hW.block _ hbx3 (fun e => HBXM.out (Option.some.inj e))).trans HX3.out
        refine ⟨?_, ?_, ?_, ?_⟩ <;> (rw [Lib.cell_of_heap e]; rfl))
      clear HW2 HM2 HG2 m3 f3 HWA HM
      have hf1 : f ≤ 1000 := by omega
      have hcv0 : 0 ≤ cv := hcin.1
      rcases Int.lt_or_le f cv with hf | hf
      · refine wp_region_invK (by kernel_rfl) (fun _ L fL W => TM 5 (fun b W => w3.grownBy W (some mb) ∧ Mach W mb na nl nc f a n c 0) (fun i _ v => v = ([(Value.pointer (some ⟨mb, 0, none⟩)), (.pointer (some ⟨mb, 0, none⟩)), (.pointer (some ⟨mb, 0, none⟩)), (.agg #[.int .i64 o, .int .i64 nn, .string s, .slice ma ms.length mc]), (.int .i64 cv), (.bool false), (.bool true)] : List Value).getD i (.bool false)) L fL W) (by kernel_rfl) ⟨⟨grown_any (Below.drew (Below.refl _ _)), HM3.out.kept (Below.drew (Below.refl _ _))⟩, fun _ a => by cases a⟩ ?_
        apply Exists.intro
        apply And.intro
        · intro f
          simp only [over, List.set]
          exact rfl
        refine ⟨?hops, ?hend⟩
        case hops =>
          refine EachOp.cons ?_ (EachOp.cons ?_ (EachOp.cons ?_ (EachOp.cons ?_ (EachOp.cons ?_ (EachOp.cons ?_ (EachOp.cons ?_ (EachOp.nil)))))))
          · intro L ff kk ww hkk hJ hcl hLi hwt QQ' hQ
            try dsimp only
            go_big_wp2_with fail
            refine hQ _ (.pointer (some ⟨mb, 0, none⟩)) _ ?_ (hJ.op (by decide) (fun _ h => h) (fun _ _ h => h) rfl)
            first | rfl | (simp [upd]; done)
          · intro L ff kk ww hkk hJ hcl hLi hwt QQ' hQ
            try dsimp only
            have c0' : ff 0 = .pointer (some ⟨mb, 0, none⟩) := hJ.pre 0 (hwt 0 (by decide))
            go_big_wp2_with fail
            refine hQ _ (.pointer (some ⟨mb, 0, none⟩)) _ ?_ (hJ.op (by decide) (fun _ h => h) (fun _ _ h => h) rfl)
            first | rfl | (simp [upd, c0']; done)
          · intro L ff kk ww hkk hJ hcl hLi hwt QQ' hQ
            try dsimp only
            have c1' : ff 1 = .pointer (some ⟨mb, 0, none⟩) := hJ.pre 1 (hwt 1 (by decide))
            go_big_wp2_with fail
            refine hQ _ (.pointer (some ⟨mb, 0, none⟩)) _ ?_ (hJ.op (by decide) (fun _ h => h) (fun _ _ h => h) rfl)
            first | rfl | (simp [upd, c1']; done)
          · intro L ff kk ww hkk hJ hcl hLi hwt QQ' hQ
            try dsimp only
            obtain ⟨z0, z1, z2, z3⟩ := BXC.out _ hJ.mid.1
            go_big_wp2_with fail
            refine hQ _ (.agg #[.int .i64 o, .int .i64 nn, .string s, .slice ma ms.length mc]) _ ?_ (hJ.op (by decide) (fun _ h => h) (fun _ _ h => h) rfl)
            first | rfl | (simp [upd]; done)
          · intro L ff kk ww hkk hJ hcl hLi hwt QQ' hQ
            try dsimp only
            have c3' : ff 3 = .agg #[.int .i64 o, .int .i64 nn, .string s, .slice ma ms.length mc] := hJ.pre 3 (hwt 3 (by decide))
            go_big_wp2_with fail
            refine (hC.out ww).mono ?_
            rintro e wa ⟨rfl, d9⟩
            go_big_wp2_with fail
            refine hQ _ (.int .i64 cv) wa ?_ (hJ.op (by decide) (fun _ h => ⟨grown_trans h.1 (grown_any d9), h.2.kept d9⟩) (fun _ _ h => h) rfl)
            first | rfl | (simp [upd, c3']; done)
          · intro L ff kk ww hkk hJ hcl hLi hwt QQ' hQ
            try dsimp only
            have c2' : ff 2 = .pointer (some ⟨mb, 0, none⟩) := hJ.pre 2 (hwt 2 (by decide))
            have c4' : ff 4 = .int .i64 cv := hJ.pre 4 (hwt 4 (by decide))
            have hmid := hJ.mid
            go_big_wp2_with fail
            refine (takeNo cv f mb na nl nc ww hf hmid.2.ev).mono ?_
            rintro e wa ⟨rfl, hwa⟩
            subst wa
            go_big_wp2_with fail
            refine hQ _ (.bool false) ww ?_ (hJ.call hmid (fun _ _ h => h) rfl)
            first | rfl | (simp [upd, c2', c4']; done)
          · intro L ff kk ww hkk hJ hcl hLi hwt QQ' hQ
            try dsimp only
            have c5' : ff 5 = .bool false := hJ.pre 5 (hwt 5 (by decide))
            go_big_wp2_with fail
            refine hQ _ (.bool true) _ ?_ (hJ.op (by decide) (fun _ h => h) (fun _ _ h => h) rfl)
            first | rfl | (simp [upd, c5']; done)
        case hend =>
          intro L ff kk w6 hkb hL hJ
          try dsimp only
          have c6 : ff 6 = .bool true := hJ.pre 6 (hL 6 (by decide))
          rw [c6]
          have hmid := hJ.mid
          obtain ⟨hg6, hm6⟩ := hmid
          have HE := FL.out (by omega)
          rw [HMV.out] at HE
          simp only [Said.mk.injEq] at HE
          have HE := Lib.hid HE
          have HFIN : Hid (w.grownBy w6 (some mb)) := Lib.hid (grown_trans HGW.out (grown_trans HG3.out hg6))
          have HEV := Lib.hid hm6.ev
          clear hJ hL c6 hg6 hm6 BXC hC HM3
          go_wp2
          go_ret2
          obtain ⟨rfl, rfl, rfl⟩ := HE.out
          refine ⟨rfl, Lib.hid ?_, HFIN⟩
          rw [show fu - (fu - f) = f from by omega]
          exact HEV.out
      have STO := Lib.hid (STO.out hf)
      clear FL
      refine wp_region_invK (by kernel_rfl) (fun _ L fL W => TM 5 (fun b W => w3.grownBy W (some mb) ∧ Mach W mb na nl nc (if b then f - cv else f) a n c 0) (fun i _ v => v = ([(Value.pointer (some ⟨mb, 0, none⟩)), (.pointer (some ⟨mb, 0, none⟩)), (.pointer (some ⟨mb, 0, none⟩)), (.agg #[.int .i64 o, .int .i64 nn, .string s, .slice ma ms.length mc]), (.int .i64 cv), (.bool true), (.bool false)] : List Value).getD i (.bool false)) L fL W) (by kernel_rfl) ⟨⟨grown_any (Below.drew (Below.refl _ _)), HM3.out.kept (Below.drew (Below.refl _ _))⟩, fun _ a => by cases a⟩ ?_
      apply Exists.intro
      apply And.intro
      · intro f
        simp only [over, List.set]
        exact rfl
      refine ⟨?hops, ?hend⟩
      case hops =>
        refine EachOp.cons ?_ (EachOp.cons ?_ (EachOp.cons ?_ (EachOp.cons ?_ (EachOp.cons ?_ (EachOp.cons ?_ (EachOp.cons ?_ (EachOp.nil)))))))
        · intro L ff kk ww hkk hJ hcl hLi hwt QQ' hQ
          try dsimp only
          go_big_wp2_with fail
          refine hQ _ (.pointer (some ⟨mb, 0, none⟩)) _ ?_ (hJ.op (by decide) (fun _ h => h) (fun _ _ h => h) rfl)
          first | rfl | (simp [upd]; done)
        · intro L ff kk ww hkk hJ hcl hLi hwt QQ' hQ
          try dsimp only
          have c0' : ff 0 = .pointer (some ⟨mb, 0, none⟩) := hJ.pre 0 (hwt 0 (by decide))
          go_big_wp2_with fail
          refine hQ _ (.pointer (some ⟨mb, 0, none⟩)) _ ?_ (hJ.op (by decide) (fun _ h => h) (fun _ _ h => h) rfl)
          first | rfl | (simp [upd, c0']; done)
        · intro L ff kk ww hkk hJ hcl hLi hwt QQ' hQ
          try dsimp only
          have c1' : ff 1 = .pointer (some ⟨mb, 0, none⟩) := hJ.pre 1 (hwt 1 (by decide))
          go_big_wp2_with fail
          refine hQ _ (.pointer (some ⟨mb, 0, none⟩)) _ ?_ (hJ.op (by decide) (fun _ h => h) (fun _ _ h => h) rfl)
          first | rfl | (simp [upd, c1']; done)
        · intro L ff kk ww hkk hJ hcl hLi hwt QQ' hQ
          try dsimp only
          obtain ⟨z0, z1, z2, z3⟩ := BXC.out _ hJ.mid.1
          go_big_wp2_with fail
          refine hQ _ (.agg #[.int .i64 o, .int .i64 nn, .string s, .slice ma ms.length mc]) _ ?_ (hJ.op (by decide) (fun _ h => h) (fun _ _ h => h) rfl)
          first | rfl | (simp [upd]; done)
        · intro L ff kk ww hkk hJ hcl hLi hwt QQ' hQ
          try dsimp only
          have c3' : ff 3 = .agg #[.int .i64 o, .int .i64 nn, .string s, .slice ma ms.length mc] := hJ.pre 3 (hwt 3 (by decide))
          go_big_wp2_with fail
          refine (hC.out ww).mono ?_
          rintro e wa ⟨rfl, d9⟩
          go_big_wp2_with fail
          refine hQ _ (.int .i64 cv) wa ?_ (hJ.op (by decide) (fun _ h => ⟨grown_trans h.1 (grown_any d9), h.2.kept d9⟩) (fun _ _ h => h) rfl)
          first | rfl | (simp [upd, c3']; done)
        · intro L ff kk ww hkk hJ hcl hLi hwt QQ' hQ
          try dsimp only
          have c2' : ff 2 = .pointer (some ⟨mb, 0, none⟩) := hJ.pre 2 (hwt 2 (by decide))
          have c4' : ff 4 = .int .i64 cv := hJ.pre 4 (hwt 4 (by decide))
          have hmid := hJ.mid
          rw [hLi] at hmid
          obtain ⟨hg9, hm9⟩ := hmid
          go_big_wp2_with fail
          refine (fuelYes cv f mb na nl nc ww hf hcv0 hf1 hm9.ev).mono ?_
          rintro e wa ⟨rfl, hwa⟩
          have hgs : ww.grownBy wa (some mb) := by rw [hwa]; exact grown_set _ _ _
          have hma : Mach wa mb na nl nc (f - cv) a n c 0 := by rw [hwa]; exact hm9.setFuel _
          clear hwa
          go_big_wp2_with fail
          refine hQ _ (.bool true) wa ?_ (hJ.call ⟨grown_trans hg9 hgs, hma⟩ (fun _ _ h => h) rfl)
          first | rfl | (simp [upd, c2', c4']; done)
        · intro L ff kk ww hkk hJ hcl hLi hwt QQ' hQ
          try dsimp only
          have c5' : ff 5 = .bool true := hJ.pre 5 (hwt 5 (by decide))
          go_big_wp2_with fail
          refine hQ _ (.bool false) _ ?_ (hJ.op (by decide) (fun _ h => h) (fun _ _ h => h) rfl)
          first | rfl | (simp [upd, c5']; done)
      case hend =>
        intro L ff kk w6 hkb hL hJ
        try dsimp only
        have c6 : ff 6 = .bool false := hJ.pre 6 (hL 6 (by decide))
        rw [c6]
        have hmid := hJ.mid
        rw [hL 5 (by decide)] at hmid
        obtain ⟨hg6, hm6⟩ := hmid
        have HM6 : Hid (Mach w6 mb na nl nc (f - cv) a n c 0) := Lib.hid hm6
        have HG6 : Hid (wr.grownBy w6 (some mb)) := Lib.hid (grown_trans HG3.out hg6)
        have HX6 : Hid (w6.heap[bx]? = some (.cells #[.int .i64 o, .int .i64 nn, .string s, .slice ma ms.length mc] 55 (0, 0))) := Lib.hid ((hg6.block bx hbx3 (fun e => HBXM.out (Option.some.inj e))).trans HX3.out)
        have G6 : Hid (w1.grownBy w6 (some mb)) := Lib.hid (grown_trans HG.out HG6.out)
        have HO6 : Hid (w6.heap[ob]? = some (.cells (fnsA mb) 106 (0, 0))) := Lib.hid ((G6.out.block ob HOB1.out (fun e => HOBM.out (Option.some.inj e))).trans HOX.out)
        have HR6 : Hid (w6.ownsRow w1.heap.size 3 1 (.slice a n c) n (st.map (Value.int .i64))) := Lib.hid (HR.out.kept (row := some mb) HG6.out (Or.inr (fun e => by have := (HR.out.lt mb e).1; have := HMB.out; omega)))
        have GW6 : Hid (w.grownBy w6 (some mb)) := Lib.hid (grown_trans HW1.out G6.out)
        have hstp := STO.out ma mc w6 HM6.out HR6.out (G6.out.size) (HM0.out.kept (same_ne (grown_trans HG23.out hg6))) (HP.out.kept (same_ne GW6.out))
        clear hJ hL c6 hg6 hm6 BXC hC HM3 STO
        obtain ⟨FN, st', out', rc, q', ⟨hfc, ho0, ho12, hfa⟩, hstp2, hfb, hfg⟩ := hstp
        have STP := Lib.hid hstp2
        have FB := Lib.hid hfb
        have FG := Lib.hid hfg
        have HFA := Lib.hid hfa
        clear hstp2 hfb hfg hfa
        have on : (o.toNat : Int) = o := by omega
        go_wp2_with fail
        refine wp_region_invK (by kernel_rfl) (fun _ L fL W => TM 5 (fun b W => W.heap[bx]? = some (.cells #[.int .i64 o, .int .i64 nn, .string s, .slice ma ms.length mc] 55 (0, 0)) ∧ W.heap[ob]? = some (.cells (fnsA mb) 106 (0, 0)) ∧ (b = false → Below w6.heap.size w6 W) ∧ (b = true → Ev W mb na nl nc (f - cv) ∧ (rc = 0 → ∃ (a : Option Addr) (n c : Nat), Mach W mb na nl nc (f - cv) a n c out' ∧ W.ownsRow w1.heap.size 3 1 (.slice a n c) n (st'.map (Value.int .i64))) ∧ Grow2 w6 W mb (Value.slice a n c).ownBlock)) (fun i _ v => v = ([(Value.pointer (some ⟨bx, 0, none⟩)), (.int .i64 o), (.pointer (some ⟨ob, o.toNat, none⟩)), (.func (.func FN) #[.pointer (some ⟨mb, 0, none⟩)] #[]), (.agg #[.int .i64 o, .int .i64 nn, .string s, .slice ma ms.length mc]), (.int .i64 rc), (.int .i64 rc)] : List Value).getD i (.bool false)) L fL W) (by kernel_rfl) ⟨⟨HX6.out, HO6.out, fun _ => Below.drew (Below.refl _ _), fun e => (by cases e)⟩, fun _ a => by cases a⟩ ?_
        apply Exists.intro
        apply And.intro
        · intro f
          simp only [over, List.set]
          exact rfl
        refine ⟨?hops, ?hend⟩
        case hops =>
          refine EachOp.cons ?_ (EachOp.cons ?_ (EachOp.cons ?_ (EachOp.cons ?_ (EachOp.cons ?_ (EachOp.cons ?_ (EachOp.cons ?_ (EachOp.nil)))))))
          · intro L ff kk ww hkk hJ hcl hLi hwt QQ' hQ
            try dsimp only
            go_big_wp2_with fail
            refine hQ _ (.pointer (some ⟨bx, 0, none⟩)) _ ?_ (hJ.op (by decide) (fun _ h => h) (fun _ _ h => h) rfl)
            first | rfl | (simp [upd]; done)
          · intro L ff kk ww hkk hJ hcl hLi hwt QQ' hQ
            try dsimp only
            have c0' : ff 0 = .pointer (some ⟨bx, 0, none⟩) := hJ.pre 0 (hwt 0 (by decide))
            have z0 : ww.cell? ⟨bx, 0, none⟩ = some (.int .i64 o) := by rw [Lib.cell_of_heap hJ.mid.1]; rfl
            have z1 : ww.cell? ⟨bx, 1, none⟩ = some (.int .i64 nn) := by rw [Lib.cell_of_heap hJ.mid.1]; rfl
            have z2 : ww.cell? ⟨bx, 2, none⟩ = some (.string s) := by rw [Lib.cell_of_heap hJ.mid.1]; rfl
            have z3 : ww.cell? ⟨bx, 3, none⟩ = some (.slice ma ms.length mc) := by rw [Lib.cell_of_heap hJ.mid.1]; rfl
            go_big_wp2_with fail
            refine hQ _ (.int .i64 o) _ ?_ (hJ.op (by decide) (fun _ h => h) (fun _ _ h => h) rfl)
            first | rfl | (simp [upd, c0']; done)
          · intro L ff kk ww hkk hJ hcl hLi hwt QQ' hQ
            try dsimp only
            have c1' : ff 1 = .int .i64 o := hJ.pre 1 (hwt 1 (by decide))
            go_big_wp2_with fail
            refine hQ _ (.pointer (some ⟨ob, o.toNat, none⟩)) _ ?_ (hJ.op (by decide) (fun _ h => h) (fun _ _ h => h) rfl)
            first | rfl | (simp [upd, c1']; done)
          · intro L ff kk ww hkk hJ hcl hLi hwt QQ' hQ
            try dsimp only
            have c2' : ff 2 = .pointer (some ⟨ob, o.toNat, none⟩) := hJ.pre 2 (hwt 2 (by decide))
            have zf : ww.cell? ⟨ob, o.toNat, none⟩ = some (.func (.func FN) #[.pointer (some ⟨mb, 0, none⟩)] #[]) := by rw [Lib.cell_of_heap hJ.mid.2.1]; exact HFA.out
            go_big_wp2_with fail
            refine hQ _ (.func (.func FN) #[.pointer (some ⟨mb, 0, none⟩)] #[]) _ ?_ (hJ.op (by decide) (fun _ h => h) (fun _ _ h => h) rfl)
            first | rfl | (simp [upd, c2']; done)
          · intro L ff kk ww hkk hJ hcl hLi hwt QQ' hQ
            try dsimp only
            have z0 : ww.cell? ⟨bx, 0, none⟩ = some (.int .i64 o) := by rw [Lib.cell_of_heap hJ.mid.1]; rfl
            have z1 : ww.cell? ⟨bx, 1, none⟩ = some (.int .i64 nn) := by rw [Lib.cell_of_heap hJ.mid.1]; rfl
            have z2 : ww.cell? ⟨bx, 2, none⟩ = some (.string s) := by rw [Lib.cell_of_heap hJ.mid.1]; rfl
            have z3 : ww.cell? ⟨bx, 3, none⟩ = some (.slice ma ms.length mc) := by rw [Lib.cell_of_heap hJ.mid.1]; rfl
            go_big_wp2_with fail
            refine hQ _ (.agg #[.int .i64 o, .int .i64 nn, .string s, .slice ma ms.length mc]) _ ?_ (hJ.op (by decide) (fun _ h => h) (fun _ _ h => h) rfl)
            first | rfl | (simp [upd]; done)
          · intro L ff kk ww hkk hJ hcl hLi hwt QQ' hQ
            try dsimp only
            have c3' : ff 3 = .func (.func FN) #[.pointer (some ⟨mb, 0, none⟩)] #[] := hJ.pre 3 (hwt 3 (by decide))
            have c4' : ff 4 = .agg #[.int .i64 o, .int .i64 nn, .string s, .slice ma ms.length mc] := hJ.pre 4 (hwt 4 (by decide))
            have hmid := hJ.mid
            rw [hLi] at hmid
            obtain ⟨hm1, hm2, hm3, -⟩ := hmid
            have hbw := hm3 rfl
            have hbxw : bx < ww.heap.size := (Array.getElem?_eq_some_iff.1 hm1).1
            have hobw : ob < ww.heap.size := (Array.getElem?_eq_some_iff.1 hm2).1
            have hq := STP.out ww hbw
            go_big_wp2_with fail
            refine hq.mono ?_
            rintro e wa ⟨rfl, hev, hst, hgr⟩
            have hb1 : wa.heap[bx]? = ww.heap[bx]? := hgr.out.block bx hbxw HBXM.out (NBX.out)
            have hb2 : wa.heap[ob]? = ww.heap[ob]? := hgr.out.block ob hobw HOBM.out (NOB.out)
            have hfin : Grow2 w6 wa mb (Value.slice a n c).ownBlock := (Grow2.of_below hbw).trans hgr.out
            go_big_wp2_with fail
            refine hQ _ (.int .i64 rc) wa ?_ (hJ.call ⟨hb1.trans hm1, hb2.trans hm2, fun e => (by cases e), fun _ => ⟨hev.out, hst.out, hfin⟩⟩ (fun _ _ h => h) rfl)
            first | rfl | (simp [upd, c3', c4']; done)
          · intro L ff kk ww hkk hJ hcl hLi hwt QQ' hQ
            try dsimp only
            have c5' : ff 5 = .int .i64 rc := hJ.pre 5 (hwt 5 (by decide))
            go_big_wp2_with fail
            refine hQ _ (.int .i64 rc) _ ?_ (hJ.op (by decide) (fun _ h => h) (fun _ _ h => h) rfl)
            first | rfl | (simp [upd, c5']; done)
        case hend =>
          intro L ff kk w7 hkb hL hJ
          try dsimp only
          have c6' : ff 6 = .int .i64 rc := hJ.pre 6 (hL 6 (by decide))
          rw [c6']
          have hmid := hJ.mid
          rw [hL 5 (by decide)] at hmid
          obtain ⟨-, -, -, hpost⟩ := hmid
          obtain ⟨hev, hst, hgr⟩ := hpost rfl
          have HG9 : Hid (w1.grownBy w7 (some mb)) := Lib.hid (Grow2.to_grown G6.out hgr HROW.out)
          have HEV9 := Lib.hid hev
          have HST9 := Lib.hid hst
          clear hJ hL c6' hpost hev hst hgr STP
          by_cases hc0 : rc = 0
          rotate_left
          · have zz : (rc != 0) = true := by simpa using hc0
            have HE := FB.out hc0
            rw [HMV.out] at HE
            simp only [Said.mk.injEq] at HE
            have HE := Lib.hid HE
            clear hc0
            go_wp2
            go_ret2
            obtain ⟨rfl, rfl, rfl⟩ := HE.out
            exact ⟨rfl, HEV9, Lib.hid (grown_trans HW1.out HG9.out)⟩
          subst hc0
          obtain ⟨a7, n7, c7, hm7, hr7⟩ := HST9.out rfl
          obtain ⟨ho7, hq7, RN⟩ := FG.out rfl
          subst ho7
          have o7 := hm7.out
          have RN := Lib.hid RN
          have HM7 := Lib.hid hm7
          have HR7 := Lib.hid hr7
          clear hm7 hr7 HST9
          have ea : IntKind.i64.wrap (1 + (q' : Int)) = 1 + (q' : Int) := IntWalk.i64_in _ (by have := HN.out; omega)
          have eb : IntKind.i64.wrap ((i : Int) + (1 + (q' : Int))) = (i : Int) + (1 + (q' : Int)) := IntWalk.i64_in _ (by have := HN.out; omega)
          go_wp2_with fail
          go_roundw
          case rel => exact ⟨i + 1 + q', a7, n7, c7, st', f - cv, (q' : Int), by have := HN.out; omega, by go_num, by omega, by omega, HM7, HR7, RN, HG9⟩
          case measure => simp [intOf]; omega
    · obtain rfl : i = nn0 := by omega
      obtain ⟨hl1, HE⟩ := run_end HWY.out HRUN.out HN.out
      rw [HMV.out] at HE
      simp only [Said.mk.injEq] at HE
      have HE := Lib.hid HE
      have hn1 : n = 1 := by have := HML.out; omega
      subst hn1
      have hT := Lib.hid (stackTake mb 1 0 a 1 c w1.heap.size st wr HM.out.hand HM.out.f2 HR.out HMB.out rfl (by omega))
      clear hl1
      go_wp2_with fail
      refine hT.out.mono ?_
      rintro e w5 ⟨A, C, rfl, hI, hw5⟩
      have hg5 : wr.grownBy w5 (some mb) := by rw [hw5]; exact grown_set _ _ _
      have hm5 : Mach w5 mb na nl nc f a 0 c out := by rw [hw5]; exact HM.out.setHand a 0 c
      obtain ⟨b3, o3, rfl, hbl3, hcs⟩ := (hI.out.kept (same_ne hg5)).cells (by omega)
      have v0 := hcs 0 (by omega)
      rw [Nat.add_zero, List.drop_zero] at v0
      have HG5 : Hid (w.grownBy w5 (some mb)) := Lib.hid (grown_trans HGW.out hg5)
      have HEV := Lib.hid hm5.ev
      clear hw5 hcs hg5 hm5 hI hT
      generalize st.getD 0 0 = sv at *
      go_wp2
      go_ret2
      obtain ⟨rfl, rfl, rfl⟩ := HE.out
      refine ⟨rfl, Lib.hid ?_, HG5⟩
      rw [show fu - (fu - f) = f from by omega]
      exact HEV.out
end Go.Proofs.YtjphjnopdlfplaaGreatDoor
