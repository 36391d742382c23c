/-
  The law FnWireBoth's own walk: the bytes of two drawn lists, one behind the other.
-/
import Derived.Test.YteejmihfjlakiaaDoorDrawWire
import Derived.Test.YteejmihfjlakiaaDoorWirePut
import Derived.Lib.Strings
namespace Go.Proofs.YteejmihfjlakiaaDoor
open Go.RowKit
set_option linter.unusedVariables false

theorem isRow_below {k : IntKind} {w w' : World} {a : Option Addr} {len cap : Nat} {z : List Int} (h : IsRow k w a len cap z) (hb : Below w.heap.size w w') : IsRow k w' a len cap z := by
  rcases h with h | ⟨x, h1, h2, h3, h4, h5, h6⟩
  · exact Or.inl h
  · refine Or.inr ⟨x, h1, h2, h3, h4, fun i hi => ?_, h6⟩
    have hc := h5 i hi
    exact (hb.cell (p := x.add i) (World.block_lt_of_cell? w _ hc)).trans hc
theorem owns_strs {B n : Nat} {w : World} {v : Value} {ss : List ByteArray} (hlen : ss.length = n) (hown : w.ownsRow B 9 1 v n (ss.map Value.string)) (hv : v ≠ .slice none 0 0) :
    ∃ g cap, v = .slice (some ⟨g, 0, none⟩) n cap ∧ B ≤ g ∧ Strs w (some ⟨g, 0, none⟩) n ss := by
  have hlt := hown.lt
  obtain ⟨hl, h | ⟨g, cap, cur, rfl, hg, -⟩⟩ := id hown
  · exact absurd h.1 hv
  · refine ⟨g, cap, rfl, hg, hlen, ?_⟩
    by_cases h0 : n = 0
    · exact Or.inl h0
    · refine Or.inr ⟨g, 0, rfl, (hlt g rfl).2, fun i hi => ?_⟩
      rw [Nat.zero_add, hown.cellAt i (by omega)]
      simp [hlen, hi]
theorem total_le (ss : List ByteArray) (h : ∀ s ∈ ss, s.size ≤ 6000) : total ss ≤ 6000 * ss.length := by
  induction ss with
  | nil => simp [total]
  | cons x r ih =>
    have := ih (fun s hs => h s (by simp [hs]))
    have := h x (by simp)
    simp only [total, List.length_cons]; omega
theorem getD_size {ss : List ByteArray} (h : ∀ s ∈ ss, s.size ≤ 6000) (k : Nat) (hk : k < ss.length) : (ss.getD k ByteArray.empty).size ≤ 1048576 := by
  have : ss.getD k ByteArray.empty = ss[k] := by simp [hk]
  rw [this]
  have := h _ (List.getElem_mem hk)
  omega
theorem wireL_append (a b : List ByteArray) : wireL (a ++ b) = wireL a ++ wireL b := by
  induction a with
  | nil => simp [wireL]
  | cons x r ih => simp only [List.cons_append, wireL, ih, List.append_assoc]
theorem both_is (a b : List ByteArray) : putV (a ++ b) = ⟨#[]⟩ ∨ putV (a ++ b) = putV a ++ putV b := by
  by_cases h : 40 < (a ++ b).length ∨ 6000 < (wireL (a ++ b)).length
  · exact Or.inl (by rw [putV, if_pos h])
  · right
    rw [List.length_append, wireL_append, List.length_append] at h
    rw [putV, putV, putV, if_neg (by rw [List.length_append, wireL_append, List.length_append]; exact h), if_neg (by omega), if_neg (by omega), wireL_append]
    apply ByteArray.ext
    simp

theorem strs_news {w : World} {g n : Nat} {ss : List ByteArray} (h : Strs w (some ⟨g, 0, none⟩) n ss) (j : Nat) (u : Value) (hj : (ss.map Value.string)[j]? = some u) : w.cell? ((⟨g, 0, none⟩ : Addr).add j) = some u := by
  obtain ⟨hl, h⟩ := h
  have hjl : j < ss.length := by
    rcases Nat.lt_or_ge j ss.length with h | h
    · exact h
    · rw [List.getElem?_eq_none (by simpa using h)] at hj; cases hj
  rcases h with h | ⟨b, off, e, -, hc⟩
  · omega
  · simp only [Option.some.injEq, Addr.mk.injEq] at e
    obtain ⟨rfl, rfl, -⟩ := e
    have h1 := hc j (by omega)
    have e2 : (⟨g, 0, none⟩ : Addr).add j = ⟨g, 0 + j, none⟩ := by by_cases h0 : j = 0 <;> simp [Addr.add, h0]
    rw [e2, h1]
    simp [hjl] at hj
    rw [← hj]; simp [hjl]
theorem not_nil {v v' : Value} {m : Nat} (h : v' = .slice none 0 0 ↔ v = .slice none 0 0 ∧ m = 0) (hv : v ≠ .slice none 0 0) : v' ≠ .slice none 0 0 := fun e => hv (h.1 e).1
theorem some_ne {a : Addr} {l c : Nat} : Value.slice (some a) l c ≠ .slice none 0 0 := by simp
theorem both_all {a b : List ByteArray} (ha : ∀ s ∈ a, s.size ≤ 6000) (hb : ∀ s ∈ b, s.size ≤ 6000) : ∀ s ∈ a ++ b, s.size ≤ 6000 := by
  intro s hs
  rcases List.mem_append.1 hs with h | h
  · exact ha s h
  · exact hb s h
theorem putV_size (ss : List ByteArray) : (putV ss).size ≤ 6000 := by
  unfold putV
  split
  · show (#[] : Array UInt8).size ≤ 6000; simp
  · rename_i h
    show ((wireL ss).toArray).size ≤ 6000
    simp; omega
theorem own_zero {w : World} {B : Nat} {e : TypeId} {s n : Nat} {v : Value} {xs : List Value} (h : w.ownsRow B e s v (0 + n) ([] ++ xs)) : w.ownsRow B e s v n xs := by rw [Nat.zero_add] at h; exact h
theorem news_one (ss : List ByteArray) : ∀ u ∈ ss.map Value.string, u.oneCell' = true := by
  intro u hu
  obtain ⟨s, -, rfl⟩ := List.mem_map.1 hu
  rfl
theorem made_empty (w : World) (B : Nat) (h : B ≤ w.heap.size) : (w.alloc (.cells #[] 9)).ownsRow B 9 1 (.slice (some ⟨w.heap.size, 0, none⟩) 0 0) 0 [] :=
  World.ownsRow_made _ _ _ h (by unfold maxLen; omega) rfl
theorem below_app {B : Nat} {w w' : World} {v : Value} {n : Nat} {xs : List Value} (ho : w.ownsRow B 9 1 v n xs) (hB : B ≤ w.heap.size) (hg : w.grownBy w' v.ownBlock) : Below B w w' :=
  (Below.refl _ _).grown hg hB (fun k e => (ho.lt k e).1)

/-- What a drawn list is. -/
def Drawn (w : World) (g n : Nat) (ss : List ByteArray) : Prop := Strs w (some ⟨g, 0, none⟩) n ss ∧ n ≤ 42 ∧ ss.length = n ∧ (∀ s ∈ ss, s.size ≤ 6000) ∧ total ss ≤ 1048576 ∧ (wireL ss).length ≤ 1000000
theorem drawn_of {B n : Nat} {w : World} {v : Value} (h : Words B w v n) (hn : n ≤ 42) : ∃ g cap ss, v = .slice (some ⟨g, 0, none⟩) n cap ∧ Drawn w g n ss := by
  obtain ⟨ss, hlen, hown, hss, hv⟩ := h
  obtain ⟨g, cap, hv', -, hs⟩ := owns_strs hlen hown hv
  have ht := total_le ss hss
  have ht2 : total ss ≤ 1048576 := by omega
  exact ⟨g, cap, ss, hv', hs, hn, hlen, hss, ht2, by have := wireL_len ss ht2; omega⟩

set_option maxRecDepth 20000 in
set_option maxHeartbeats 2000000 in
theorem lawWireBoth (a0 : Option Addr) (len0 cap0 : Nat) (z0 : List Int) (a1 : Option Addr) (len1 cap1 : Nat) (z1 : List Int) (w : World) (w0 : IsRow .u8 w a0 len0 cap0 z0) (w1 : IsRow .u8 w a1 len1 cap1 z1) (hL : Laid w) :
    Calls Tryd.prog 6 #[.slice a0 len0 cap0, .slice a1 len1 cap1] w fun e w' => e = .returned (.bool true) ∧ Below w.heap.size w w' := by
  rcases Nat.lt_or_ge 1048576 len0 with hb0 | hb0
  · clear w0 w1
    go_enter Tryd.func6, Tryd.ntmps6
    go_wp2
    go_ret
    exact ⟨rfl, Below.refl _ _⟩
  rcases Nat.lt_or_ge 1048576 len1 with hb1 | hb1
  · clear w0 w1
    go_enter Tryd.func6, Tryd.ntmps6
    go_wp2
    go_ret
    exact ⟨rfl, Below.refl _ _⟩
  · have W0 := Lib.hid w0
    have W1 := Lib.hid w1
    clear w0 w1
    go_enter Tryd.func6, Tryd.ntmps6
    go_wp2_with fail
    refine (drawWords a0 len0 cap0 z0 _ W0.out).mono ?_
    rintro e wa ⟨va, na, hna, rfl, hwa, hba⟩
    obtain ⟨ga, ca, sa, rfl, hda⟩ := drawn_of hwa hna
    clear hwa
    have La := laid_stays hL hba
    go_wp2_with fail
    refine (drawWords a1 len1 cap1 z1 _ (isRow_below W1.out hba)).mono ?_
    rintro e wb ⟨vb, nb, hnb, rfl, hwb, hbb⟩
    obtain ⟨gb, cb, sb, rfl, hdb⟩ := drawn_of hwb hnb
    clear hwb
    have Lb := laid_stays La hbb
    have hbwb : Below w.heap.size w wb := bt hba hbb
    have hsa : Hid (Strs wb (some ⟨ga, 0, none⟩) na sa) := hda.1.kept hbb
    have DA := Lib.hid hda
    have DB := Lib.hid hdb
    clear hda hdb
    go_wp2_with fail
    refine (implWirePut _ _ _ sa _ hsa.out Lb (by omega) (fun k hk => getD_size DA.out.2.2.2.1 k (by rw [DA.out.2.2.1]; exact hk))).mono ?_
    rintro e wc ⟨tx, rfl, htx, hbc⟩
    have Lc := laid_stays Lb hbc
    have hbwc : Below w.heap.size w wc := bt hbwb hbc
    go_wp2_with fail
    refine (implWirePut _ _ _ sb _ (DB.out.1.kept hbc) Lc (by omega) (fun k hk => getD_size DB.out.2.2.2.1 k (by rw [DB.out.2.2.1]; exact hk))).mono ?_
    rintro e wd ⟨ty, rfl, hty, hbd⟩
    have Ld := laid_stays Lc hbd
    have hbwd : Below w.heap.size w wd := bt hbwc hbd
    have hsa2 : Hid (Strs wd (some ⟨ga, 0, none⟩) na sa) := (hsa.out.kept hbc).kept hbd
    have hsb2 : Hid (Strs wd (some ⟨gb, 0, none⟩) nb sb) := (DB.out.1.kept hbc).kept hbd
    have hmade := made_empty wd wd.heap.size (Nat.le_refl _)
    have hbe : Below wd.heap.size wd (wd.alloc (.cells #[] 9)) := (Below.refl _ _).alloc (Nat.le_refl _) _
    have hla : (sa.map Value.string).length = na * 1 := by rw [List.length_map, DA.out.2.2.1, Nat.mul_one]
    have hlb : (sb.map Value.string).length = nb * 1 := by rw [List.length_map, DB.out.2.2.1, Nat.mul_one]
    obtain ⟨i0, hi, hz0, hz1, hz2⟩ := info_parts infoStr
    go_wp2_with (at_builtin; first | (refine wpList_append_own ?kgw ?kg1 ?kgs ?kgx 22 ?kg2 wd.heap.size 9 i0 (.string ⟨#[]⟩) 1 16 ?kg3 ?kg4 ?kg5 ?kg6 ?kg7 ?kg8 ?kg9 ?kgv ?kgn ?kgxs ?kg10 ?kh1 ⟨gb, 0, none⟩ nb cb (sb.map Value.string) ?kg11 ?kg12 ?kh2 ?kh3 ?kc2 ?kc3 ?kc4 ?_; (case kg1 => rfl); (case kg2 => rfl); (case kg10 => rfl); (case kg11 => rfl); (case kh1 => exact hown1); (case kg3 => exact Tryd.underlying22); (case kg4 => exact hi); (case kg5 => exact hz0); (case kg6 => exact hz1); (case kg7 => exact hz2); (case kg8 => rfl); (case kg9 => decide); (case kg12 => exact hlb); (case kh2 => go_must (exact strs_news (hsb2.out.kept (hbe.trans hbw1)))); (case kh3 => exact news_one _); (case kc2 => go_must (unfold maxLen; omega)); (case kc3 => go_must (omega)); (case kc4 => go_must (exact (hbe.trans hbw1).size)); intro v2 wf hown2 hgrow2 hnil2; have hbw2 := below_app hown1 (hbe.trans hbw1).size hgrow2; have hn2 := not_nil hnil2 hn1; rw [← List.map_append] at hown2; obtain ⟨g2, c2, rfl, -, hs2⟩ := owns_strs (by rw [List.length_append, DA.out.2.2.1, DB.out.2.2.1]) hown2 hn2; clear hgrow2 hnil2 hn2) | (refine wpList_append_own ?gw ?g1 ?gs ?gx 22 ?g2 wd.heap.size 9 i0 (.string ⟨#[]⟩) 1 16 ?g3 ?g4 ?g5 ?g6 ?g7 ?g8 ?g9 ?gv ?gn ?gxs ?g10 ?h1 ⟨ga, 0, none⟩ na ca (sa.map Value.string) ?g11 ?g12 ?h2 ?h3 ?c2 ?c3 ?c4 ?_; (case g1 => rfl); (case g2 => rfl); (case g10 => rfl); (case g11 => rfl); (case h1 => exact hmade); (case g3 => exact Tryd.underlying22); (case g4 => exact hi); (case g5 => exact hz0); (case g6 => exact hz1); (case g7 => exact hz2); (case g8 => rfl); (case g9 => decide); (case g12 => exact hla); (case h2 => go_must (exact strs_news (hsa2.out.kept hbe))); (case h3 => exact news_one _); (case c2 => go_must (unfold maxLen; omega)); (case c3 => go_must (omega)); (case c4 => go_must (exact hbe.size)); intro v1 we hown1 hgrow1 hnil1; have hown1 := own_zero hown1; have hbw1 := below_app hmade hbe.size hgrow1; have hn1 := not_nil hnil1 some_ne; clear hgrow1 hnil1))
    have hbf : Below wd.heap.size wd wf := (hbe.trans hbw1).trans hbw2
    have Lf := laid_stays Ld hbf
    have hbwf : Below w.heap.size w wf := bt hbwd hbf
    have hsz : Hid (∀ k, k < na + nb → ((sa ++ sb).getD k ByteArray.empty).size ≤ 1048576) := fun k hk => getD_size (both_all DA.out.2.2.2.1 DB.out.2.2.2.1) k (by rw [List.length_append, DA.out.2.2.1, DB.out.2.2.1]; exact hk)
    clear hown1
    refine (implWirePut _ _ _ (sa ++ sb) _ hs2 Lf (by omega) hsz.out).mono ?_
    rintro e wg ⟨tb, rfl, htb, hbg⟩
    have hor : Hid (tb = ⟨#[]⟩ ∨ tb = tx ++ ty) := by show _ ∨ _; rw [htb.out, htx.out, hty.out]; exact both_is sa sb
    have hbwg : Below w.heap.size w wg := bt hbwf hbg
    have sx : tx.size ≤ 6000 := by rw [htx.out]; exact putV_size _
    have sy : ty.size ≤ 6000 := by rw [hty.out]; exact putV_size _
    have hbdg : Below wd.heap.size wd wg := hbf.trans (hbg.mono hbf.size)
    go_wp2_with fail
    refine (specWirePut _ _ _ sa _ (hsa2.out.kept hbdg) (by omega) DA.out.2.2.2.2.1 (Nat.le_trans DA.out.2.2.2.2.2 (by omega)) (fun k hk => getD_size DA.out.2.2.2.1 k (by rw [DA.out.2.2.1]; exact hk))).mono ?_
    rintro e wh ⟨t1, rfl, ht1, hbh⟩
    obtain rfl : t1 = tx := ht1.out.trans htx.out.symm
    have hbwh : Below w.heap.size w wh := bt hbwg hbh
    have hbdh : Below wd.heap.size wd wh := hbdg.trans (hbh.mono hbdg.size)
    go_wp2_with fail
    refine (specWirePut _ _ _ sb _ (hsb2.out.kept hbdh) (by omega) DB.out.2.2.2.2.1 (Nat.le_trans DB.out.2.2.2.2.2 (by omega)) (fun k hk => getD_size DB.out.2.2.2.1 k (by rw [DB.out.2.2.1]; exact hk))).mono ?_
    rintro e wi ⟨t2, rfl, ht2, hbi⟩
    obtain rfl : t2 = ty := ht2.out.trans hty.out.symm
    have hbwi : Below w.heap.size w wi := bt hbwh hbi
    clear ht1 ht2 htx hty htb
    rcases hor.out with e | e
    · subst e
      clear hor
      go_wp2
      go_ret
      exact ⟨rfl, hbwi⟩
    · clear hor
      go_wp2
      all_goals go_ret
      all_goals exact ⟨retB (by subst e; simp), hbwi⟩
end Go.Proofs.YteejmihfjlakiaaDoor
