/-
  What the model's WireGet returns at every text that is not too great.
-/
import Derived.Test.YtifpdamghmlcfaaDoorGetMath
import Derived.Deep.AppendLies
import Derived.OwnWalk
import Derived.Maps.AppendAt
namespace Go.Proofs.YtifpdamghmlcfaaDoor
open Go.RowKit
set_option linter.unusedVariables false

def NoColon (T : List UInt8) (a k : Nat) : Prop := ∀ j, a ≤ j → j < k → T[j]? ≠ some 58
theorem drop_split {T : List UInt8} {a k : Nat} (h : a ≤ k) (hk : k ≤ T.length) : T.drop a = (T.drop a).take (k - a) ++ T.drop k := by
  conv => lhs; rw [← List.take_append_drop (k - a) (T.drop a)]
  rw [List.drop_drop]; congr 2; omega
/-- Where a word begins, its colon is the first one. -/
theorem colon_at {T : List UInt8} {a k : Nat} {x : ByteArray} (h : Begins (T.drop a) x) (hs : T.length ≤ 1000000000) (hak : a ≤ k) (hn : NoColon T a k) (hk : k = T.length ∨ T[k]? = some 58) :
    T[k]? = some 58 ∧ numV ((T.drop a).take (k - a)) = x.size ∧ ∃ r, T.drop (k + 1) = x.data.toList ++ 44 :: r := by
  have hz := begins_size h
  obtain ⟨q, e⟩ := h
  rw [wire1_eq] at e
  have hlen := congrArg List.length e
  simp only [List.length_append, List.length_cons, List.length_drop] at hlen
  have hD : T[a + (Lib.decDigits x.size).length]? = some 58 := by
    have : (T.drop a)[(Lib.decDigits x.size).length]? = some 58 := by rw [← e]; simp
    rwa [List.getElem?_drop] at this
  have hkD : k = a + (Lib.decDigits x.size).length := by
    rcases Nat.lt_trichotomy k (a + (Lib.decDigits x.size).length) with c | c | c
    · exfalso
      rcases hk with hk | hk
      · omega
      · have e2 : (T.drop a)[k - a]? = some 58 := by rw [List.getElem?_drop, show a + (k - a) = k from by omega]; exact hk
        rw [← e, List.getElem?_append_left (by omega)] at e2
        exact dec_no_colon x.size (List.mem_of_getElem? e2)
    · exact c
    · exact absurd hD (hn _ (by omega) c)
  have hsub : k - a = (Lib.decDigits x.size).length := by omega
  refine ⟨by rw [hkD]; exact hD, ?_, q, ?_⟩
  · rw [hsub, ← e, List.take_left, num_digits _ (by simp only [List.length_drop] at hz; omega)]
  · have e3 : T.drop (k + 1) = (T.drop a).drop ((Lib.decDigits x.size).length + 1) := by rw [List.drop_drop]; congr 1; omega
    rw [e3, ← e]
    have : (Lib.decDigits x.size ++ 58 :: (x.data.toList ++ 44 :: q)).drop ((Lib.decDigits x.size).length + 1) = x.data.toList ++ 44 :: q := by
      rw [← List.drop_drop, List.drop_left]; rfl
    exact this
theorem bad_end {T : List UInt8} {a : Nat} (hs : T.length ≤ 1000000000) (ha : a ≤ T.length) (hn : NoColon T a T.length) : ∀ x, ¬ Begins (T.drop a) x := by
  intro x hx
  have := (colon_at hx hs ha hn (Or.inl rfl)).1
  rw [List.getElem?_eq_none (Nat.le_refl _)] at this; cases this
theorem bad_num {T : List UInt8} {a k : Nat} {n : Int} (hs : T.length ≤ 1000000000) (ha : a ≤ k) (hn : NoColon T a k) (hk : T[k]? = some 58) (hv : n = numV ((T.drop a).take (k - a))) (hb : n < 0 ∨ (T.length : Int) ≤ k + 1 + n) : ∀ x, ¬ Begins (T.drop a) x := by
  intro x hx
  obtain ⟨-, h2, r, h3⟩ := colon_at hx hs ha hn (Or.inr hk)
  rw [h2] at hv
  have := congrArg List.length h3
  simp only [List.length_drop, List.length_append, List.length_cons] at this
  have e : x.data.toList.length = x.size := by simp
  omega
theorem bad_comma {T : List UInt8} {a k n : Nat} {c : UInt8} (hs : T.length ≤ 1000000000) (ha : a ≤ k) (hn : NoColon T a k) (hk : T[k]? = some 58) (hv : (n : Int) = numV ((T.drop a).take (k - a))) (hc : T[k + 1 + n]? = some c) (hb : c ≠ 44) : ∀ x, ¬ Begins (T.drop a) x := by
  intro x hx
  obtain ⟨-, h2, r, h3⟩ := colon_at hx hs ha hn (Or.inr hk)
  rw [h2] at hv
  have e : x.data.toList.length = x.size := by simp
  have e2 : (T.drop (k + 1))[n]? = some c := by rw [List.getElem?_drop]; exact hc
  rw [h3, List.getElem?_append_right (by omega), show n - x.data.toList.length = 0 from by omega] at e2
  simp at e2
  exact hb e2.symm
theorem good_word {T : List UInt8} {a k n : Nat} {x : ByteArray} (ha : a ≤ k) (hk : T[k]? = some 58) (hv : (n : Int) = numV ((T.drop a).take (k - a))) (hc : T[k + 1 + n]? = some 44) (hx : x.data.toList = (T.drop (k + 1)).take n) : T.drop a = wire1 x ++ T.drop (k + n + 2) := by
  obtain ⟨hk1, hk2⟩ := List.getElem?_eq_some_iff.1 hk
  obtain ⟨hc1, hc2⟩ := List.getElem?_eq_some_iff.1 hc
  have hf := num_back hv.symm (by omega)
  rw [Int.toNat_natCast] at hf
  have hxn : x.size = n := by
    have := congrArg List.length hx
    simp only [List.length_take, List.length_drop] at this
    have e : x.data.toList.length = x.size := by simp
    omega
  rw [drop_split ha (by omega), hf, wire1_eq, hxn, List.drop_eq_getElem_cons hk1, hk2, hx]
  have e1 : T.drop (k + 1) = (T.drop (k + 1)).take n ++ T.drop (k + 1 + n) := by
    conv => lhs; rw [← List.take_append_drop n (T.drop (k + 1))]
    rw [List.drop_drop]
  have e2 : T.drop (k + 1 + n) = 44 :: T.drop (k + n + 2) := by
    rw [List.drop_eq_getElem_cons hc1, hc2]; congr 2; omega
  rw [← e2, ← e1]

def SGetPost (t : ByteArray) (w : World) (e : Ending) (w' : World) : Prop := ∃ (ws : List ByteArray) (b : Bool) (a : Option Addr) (cap : Nat), e = .returned (.tuple #[.slice a ws.length cap, .bool b]) ∧ Strs w' a ws.length ws ∧ Hid (GetIs t.data.toList ws b) ∧ Below w.heap.size w w'

theorem strs_own {w : World} {B e : Nat} {a : Option Addr} {len cap : Nat} {ss : List ByteArray} (h : w.ownsRow B e 1 (.slice a len cap) len (ss.map Value.string)) (hl : ss.length = len) : Strs w a len ss := by
  refine ⟨hl, ?_⟩
  by_cases h0 : len = 0
  · exact Or.inl h0
  · obtain ⟨g, c, e1, -, hg⟩ := h.form (by omega)
    obtain ⟨rfl, -, -⟩ : a = some ⟨g, 0, none⟩ ∧ len = len ∧ cap = c := by simpa using e1
    refine Or.inr ⟨g, 0, rfl, hg, fun i hi => ?_⟩
    have hi2 : i < (ss.map Value.string).length := by simpa [hl] using hi
    have := h.cellAt i (by omega)
    rw [Nat.zero_add, this]
    simp [hl, hi]

theorem info_str' : (Tryd.prog.info? 9).map (fun i => (i.zero, i.size, i.bytes)) = some (some (.string ⟨#[]⟩), 1, 16) := by kernel_rfl

set_option maxRecDepth 100000 in
set_option maxHeartbeats 4000000 in
theorem specGet (t : ByteArray) (w : World) (hs : t.size ≤ 1048576) :
    Calls Tryd.prog 7 #[.string t] w (SGetPost t w) := by
  have Htl : Hid (t.data.toList.length = t.size) := by show _ = _; simp
  obtain ⟨i0, hi, hz0, hz1, hz2⟩ := info_parts info_str'
  have hb0 : Below w.heap.size w (w.alloc (.cells #[] 9)) := (Below.refl _ _).alloc (Nat.le_refl _) _
  have hown0 : (w.alloc (.cells #[] 9)).ownsRow w.heap.size 9 1 (.slice (some ⟨w.heap.size, 0, none⟩) 0 0) 0 [] := World.ownsRow_made w #[] 0 (Nat.le_refl _) (by unfold maxLen; omega) rfl
  rcases Nat.lt_or_ge 6000 t.size with c1 | c1
  · go_enter Tryd.func7, Tryd.ntmps7
    go_wp2_with fail
    go_ret2
    exact ⟨[], false, _, _, rfl, ⟨rfl, Or.inl rfl⟩, get_long (by rw [Htl.out]; omega), hb0⟩
  · go_enter Tryd.func7, Tryd.ntmps7
    go_wp2_with fail
    go_loopw [4, 5] (fun v i wr => ∃ (m : Nat) (ws : List ByteArray) (a : Option Addr) (cap : Nat), i = .int .i64 m ∧ m ≤ t.size ∧ ws.length ≤ 40 ∧ Hid (t.data.toList = wireL ws ++ t.data.toList.drop m) ∧ v = .slice a ws.length cap ∧ wr.ownsRow w.heap.size 9 1 (.slice a ws.length cap) ws.length (ws.map Value.string) ∧ Below w.heap.size w wr) (fun _ i _ => t.size - (intOf i).toNat)
    case atStart => exact ⟨0, [], _, _, rfl, Nat.zero_le _, by simp, by simp [Hid, wireL], rfl, hown0, hb0⟩
    case round =>
      clear hown0 hb0
      obtain ⟨m, ws, a, cap, rfl, hm, hw40, ht, rfl, hown, hb⟩ := hrel
      have Hown := Lib.hid hown
      clear hown
      rcases Nat.lt_or_ge m t.size with hlt | hge
      · go_wp2_with fail
        go_loop [5] (fun i => ∃ k : Nat, i = .int .i64 k ∧ m ≤ k ∧ k ≤ t.size ∧ Hid (NoColon t.data.toList m k)) (fun i => t.size - (intOf i).toNat)
        case atStart => exact ⟨m, rfl, Nat.le_refl _, hm, fun j h1 h2 => by omega⟩
        case round =>
          obtain ⟨k, rfl, hmk, hk, hnc⟩ := hrel
          have hrne : t.data.toList.drop m ≠ [] := by
            intro h
            have := congrArg List.length h
            simp at this; omega
          have Hrne := Lib.hid hrne
          clear hrne
          have hz : (t.extract m k).size ≤ maxLen := by rw [ByteArray.size_extract]; unfold maxLen; omega
          have Hz := Lib.hid hz
          clear hz
          have hxs : Hid ((t.extract m k).data.toList = (t.data.toList.drop m).take (k - m)) := Lib.extract_data _ _ _
          have hown0 : (wr.alloc (.cells #[] 9)).ownsRow wr.heap.size 9 1 (.slice (some ⟨wr.heap.size, 0, none⟩) 0 0) 0 [] := World.ownsRow_made wr #[] 0 (Nat.le_refl _) (by unfold maxLen; omega) rfl
          have hbb : Below w.heap.size w (wr.alloc (.cells #[] 9)) := hb.alloc hb.size _
          rcases Nat.lt_or_ge k t.size with hkl | hkl
          · by_cases h58 : (t[k]'hkl).toNat = 58
            · have e58 : (((t[k]'hkl).toNat : Int) == 58) = true := by simp; omega
              have hT : Hid (t.data.toList[k]? = some 58) := by
                show _ = _
                rw [List.getElem?_eq_getElem (by simpa using hkl)]
                exact congrArg some (UInt8.toNat_inj.1 h58)
              clear h58
              go_wp2_with fail
              refine (numAt _ _ Hz.out).mono ?_
              rintro e w' ⟨n, rfl, hn, hn1, hn2, rfl⟩
              have Hn : Hid (n = numV ((t.data.toList.drop m).take (k - m))) := by show _ = _; rw [← hxs.out]; exact hn.out
              clear hn
              rcases Int.lt_or_le n 0 with c2 | c2
              · go_wp2
                go_ret2
                exact ⟨[], false, _, _, rfl, ⟨rfl, Or.inl rfl⟩, get_bad (by rw [Htl.out]; omega) ht.out Hrne.out (bad_num (by rw [Htl.out]; omega) hmk hnc.out hT.out Hn.out (Or.inl c2)), hbb⟩
              obtain ⟨q, rfl⟩ := Int.eq_ofNat_of_zero_le c2
              have q1 : IntKind.i64.wrap ((k : Int) + 1) = (k : Int) + 1 := IntWalk.i64_in _ (by omega)
              obtain ⟨J, hJ⟩ : ∃ J : Nat, J = k + 1 + q := ⟨_, rfl⟩
              have q2 : IntKind.i64.wrap ((k : Int) + 1 + (q : Int)) = (J : Int) := by rw [IntWalk.i64_in _ (by omega)]; omega
              have g1 : ((k : Int) == (t.size : Int)) = false := by simp; omega
              have g2 : decide ((q : Int) < 0) = false := by simp
              have HJ := Lib.hid hJ
              clear hJ
              rcases Nat.lt_or_ge J t.size with c3 | c3
              · have g3 : decide ((t.size : Int) ≤ (J : Int)) = false := by simp; omega
                have g3n : decide (t.size ≤ J) = false := by simp; omega
                by_cases h44 : (t[J]'c3).toNat = 44
                · have e44 : (((t[J]'c3).toNat : Int) == 44) = true := by simp; omega
                  have e44p : ((t[J]'c3).toNat : Int) = 44 := by omega
                  have hC : Hid (t.data.toList[k + 1 + q]? = some 44) := by
                    show _ = _
                    rw [← HJ.out, List.getElem?_eq_getElem (by simpa using c3)]
                    exact congrArg some (UInt8.toNat_inj.1 h44)
                  clear h44
                  rcases Nat.lt_or_ge ws.length 40 with c4 | c4
                  · have g5 : decide (40 ≤ (ws.length : Int)) = false := by simp; omega
                    have hgw : Hid (t.data.toList.drop m = wire1 (t.extract (k + 1) J) ++ t.data.toList.drop (k + q + 2)) := good_word hmk hT.out Hn.out hC.out (by rw [Lib.extract_data, HJ.out]; congr 1; omega)
                    have q3 : (k : Int) + 1 ≤ (J : Int) := by have := HJ.out; omega
                    have q4 : (J : Int) ≤ (t.size : Int) := by omega
                    have q5 : IntKind.i64.wrap ((k : Int) + (q : Int)) = (k : Int) + q := IntWalk.i64_in _ (by omega)
                    have q6 : IntKind.i64.wrap ((k : Int) + (q : Int) + 2) = (k : Int) + q + 2 := IntWalk.i64_in _ (by omega)
                    have hz4 := hb.size
                    go_wp2_with (at_builtin; go_must (refine wpList_append_lies _ rfl _ _ 24 rfl w.heap.size 9 i0 (.string ⟨#[]⟩) 1 16 Tryd.underlying24 hi hz0 hz1 hz2 rfl (by decide) (.slice a ws.length cap) ws.length (ws.map Value.string) rfl (Hown.out.alloc _) ⟨wr.heap.size, 0, none⟩ 1 1 [.string (t.extract (k + 1) J)] rfl rfl ?c1 ?c2 ?c3 ?c4 ?c5 ?c6 (wr.heap.size + 1) ?c7 ?_); (case c1 => go_must (exact cell_one_new _ _ _)); (case c2 => go_must (intro u hu; simp at hu; subst hu; rfl)); (case c3 => go_must (omega)); (case c4 => go_must (unfold maxLen; omega)); (case c5 => go_must (omega)); (case c6 => go_must (simp only [World.size_alloc]; omega)); (case c7 => go_must (simp only [World.size_alloc])); intro g' cap' w6 hown6 hgr6 hor6 hg6)
                    go_roundw
                    case rel =>
                      have hV := (Hown.out.alloc (.cells #[.string (t.extract (k + 1) J)] 9)).lt
                      have hbA : Below w.heap.size w (wr.alloc (.cells #[.string (t.extract (k + 1) J)] 9)) := hb.alloc hz4 _
                      have hbs : Below w.heap.size (wr.alloc (.cells #[.string (t.extract (k + 1) J)] 9)) w6 := (Below.refl _ _).grown hgr6 (by simp only [World.size_alloc]; omega) (fun y e => (hV y e).1)
                      refine ⟨k + q + 2, ws ++ [t.extract (k + 1) J], some ⟨g', 0, none⟩, cap', by rw [show ((k + q + 2 : Nat) : Int) = (k : Int) + q + 2 from by omega], by have := HJ.out; omega, by simp; omega, ?_, by simp, by simpa using hown6, hbA.trans hbs⟩
                      show _ = _
                      rw [wireL_snoc, List.append_assoc, ← hgw.out]
                      exact ht.out
                    case measure => simp [intOf]; have := HJ.out; omega
                  · have g5 : decide (40 ≤ (ws.length : Int)) = true := by simp; omega
                    go_wp2
                    go_ret2
                    exact ⟨[], false, _, _, rfl, ⟨rfl, Or.inl rfl⟩, get_many (by rw [Htl.out]; omega) ht.out (Or.inr ⟨c4, Hrne.out⟩), hbb⟩
                · have e44 : (((t[J]'c3).toNat : Int) == 44) = false := by simp; omega
                  have e44p : ¬ (((t[J]'c3).toNat : Int) = 44) := by omega
                  have hC : Hid (t.data.toList[k + 1 + q]? = some t[J] ∧ t[J] ≠ 44) := by
                    refine ⟨?_, fun e => h44 (by rw [e]; rfl)⟩
                    rw [← HJ.out]
                    exact List.getElem?_eq_getElem (by simpa using c3)
                  clear h44
                  go_wp2
                  go_ret2
                  exact ⟨[], false, _, _, rfl, ⟨rfl, Or.inl rfl⟩, get_bad (by rw [Htl.out]; omega) ht.out Hrne.out (bad_comma (by rw [Htl.out]; omega) hmk hnc.out hT.out Hn.out hC.out.1 hC.out.2), hbb⟩
              · have g3 : decide ((t.size : Int) ≤ (J : Int)) = true := by simp; omega
                go_wp2
                go_ret2
                exact ⟨[], false, _, _, rfl, ⟨rfl, Or.inl rfl⟩, get_bad (by rw [Htl.out]; omega) ht.out Hrne.out (bad_num (by rw [Htl.out]; omega) hmk hnc.out hT.out Hn.out (Or.inr (by rw [Htl.out]; have := HJ.out; omega))), hbb⟩
            · have e58 : (((t[k]'hkl).toNat : Int) == 58) = false := by simp; omega
              have hT : Hid (t.data.toList[k]? ≠ some 58) := by
                intro h
                rw [List.getElem?_eq_getElem (by simpa using hkl)] at h
                exact h58 (by have := Option.some.inj h; exact congrArg UInt8.toNat this)
              clear h58
              go_wp2
              go_round
              case rel =>
                refine ⟨k + 1, by go_num, by omega, by omega, fun j h1 h2 => ?_⟩
                by_cases e : j = k
                · subst e; exact hT.out
                · exact hnc.out j h1 (by omega)
              case measure => simp [intOf]; omega
          · obtain rfl : k = t.size := by omega
            go_wp2_with fail
            refine (numAt _ _ Hz.out).mono ?_
            rintro e w' ⟨n, rfl, hn, hn1, hn2, rfl⟩
            go_wp2
            go_ret2
            exact ⟨[], false, _, _, rfl, ⟨rfl, Or.inl rfl⟩, get_bad (by rw [Htl.out]; omega) ht.out Hrne.out (bad_end (by rw [Htl.out]; omega) (by rw [Htl.out]; omega) (by rw [Htl.out]; exact hnc.out)), hbb⟩
      · obtain rfl : m = t.size := by omega
        go_wp2
        go_ret2
        refine ⟨ws, true, _, _, rfl, strs_own Hown.out rfl, get_ok (by rw [Htl.out]; omega) ?_ hw40, hb⟩
        have := ht.out
        rw [List.drop_of_length_le (by rw [Htl.out]; exact Nat.le_refl _), List.append_nil] at this
        exact this
end Go.Proofs.YtifpdamghmlcfaaDoor
