/-
  The text of ops: the model's answer.
-/
import Derived.Test.YtlfmhhdlandcjaaDoorOpsText
import Derived.Deep.Cut
import Derived.Deep.CutRange
namespace Go.Proofs.YtlfmhhdlandcjaaDoor
open Go.RowKit
set_option linter.unusedVariables false
set_option linter.unusedSimpArgs false

theorem DepsO.get {S : Nat → World → Value → Prop} {f : Nat → Value} {w : World} : ∀ {l : List Nat}, Deps S f w l → ∀ {n : Nat}, n ∈ l → S n w (f n)
  | [], _, _, h => by cases h
  | m :: l, hd, n, h => by
    rcases List.mem_cons.1 h with e | e
    · subst e; exact hd.1
    · exact DepsO.get hd.2 e
/-- A region whose last operation alone is seen behind it, and writes a slot that is read ahead of it. -/
structure TV (m : Nat) (I : Nat → World → Prop) (S : Nat → Value → Prop) (v0 : Value) (R : Value → World → Prop) (k : Nat) (L : Nat → Bool) (f : Nat → Value) (W : World) : Prop where
  inv : L m = false → I k W
  pre : ∀ i, i < m → L i = true → L m = false → S i (f i)
  zero : L m = false → f m = v0
  done : L m = true → R (f m) W
theorem TV.start {m : Nat} {I : Nat → World → Prop} {S : Nat → Value → Prop} {v0 : Value} {R : Value → World → Prop} {f : Nat → Value} {W : World} (h0 : f m = v0) (h : I 0 W) : TV m I S v0 R 0 (fun _ => false) f W := ⟨fun _ => h, fun _ _ a => (by cases a), fun _ => h0, fun a => (by cases a)⟩
theorem TV.pre_op {m k : Nat} {I : Nat → World → Prop} {S : Nat → Value → Prop} {v0 : Value} {R : Value → World → Prop} {L : Nat → Bool} {f : Nat → Value} {W W' : World} (h : TV m I S v0 R k L f W) {i : Nat} {v : Value} (hi : i < m) (hm : L m = false) (hI : I (k + 1) W') (hv : S i v) : TV m I S v0 R (k + 1) (upd L i true) (upd f i v) W' := by
  refine ⟨fun _ => hI, fun j hj hL _ => ?_, fun _ => ?_, ?_⟩
  · by_cases e : j = i
    · subst e; rw [upd_self]; exact hv
    · rw [upd_ne _ _ e] at hL ⊢; exact h.pre j hj hL hm
  · rw [upd_ne _ _ (by omega)]; exact h.zero hm
  · rw [upd_ne _ _ (by omega), hm]; exact fun a => by cases a
theorem TV.end_op {m k : Nat} {I : Nat → World → Prop} {S : Nat → Value → Prop} {v0 : Value} {R : Value → World → Prop} {L : Nat → Bool} {f : Nat → Value} {W' : World} {v : Value} (hR : R v W') : TV m I S v0 R (k + 1) (upd L m true) (upd f m v) W' :=
  ⟨fun a => (by rw [upd_self] at a; cases a), fun _ _ _ a => (by rw [upd_self] at a; cases a), fun a => (by rw [upd_self] at a; cases a), fun _ => by rw [upd_self]; exact hR⟩
def TextPost (n : Nat) (ds : Nat → OpD) (w : World) (e : Ending) (w' : World) : Prop := ∃ o, e = .returned (.string o) ∧ Hid (OpsText n ds o) ∧ Below w.heap.size w w'
theorem cat_op (o : ByteArray) (d : OpD) : o ++ d.leg ++ ⟨#[58]⟩ ++ intB d.cls ++ ⟨#[58]⟩ ++ intB d.st ++ ⟨#[58]⟩ ++ intB d.sh = o ++ opB d := by
  simp only [opB, ByteArray.append_assoc]
theorem nil_cat (o : ByteArray) : (⟨#[]⟩ : ByteArray) ++ o = o := by
  apply ByteArray.ext
  apply Array.ext'
  simp
theorem opsB_size {ds : Nat → OpD} : ∀ n, (∀ i, i < n → OpGood (ds i)) → (opsB ds n).size ≤ 75 * n
  | 0, _ => Nat.le_refl _
  | 1, h => by have := opB_size (h 0 (by omega)); show (opB (ds 0)).size ≤ _; omega
  | n + 2, h => by
    have h1 := opsB_size (n + 1) (fun i hi => h i (by omega))
    have h2 := opB_size (h (n + 1) (by omega))
    have e1 : (⟨#[44]⟩ : ByteArray).size = 1 := rfl
    show (opsB ds (n + 1) ++ ⟨#[44]⟩ ++ opB (ds (n + 1))).size ≤ _
    simp only [ByteArray.size_append, e1]
    omega
def SOt (o : ByteArray) (d : OpD) (k n cap b off : Nat) (i : Nat) (v : Value) : Prop := match i with
  | 0 => v = .string (o)
  | 1 => v = .slice (some ⟨b, off, none⟩) n cap
  | 2 => v = .int .i64 (k : Int)
  | 3 => v = .pointer (some ⟨b, off + k * 4, none⟩)
  | 4 => v = .pointer (some ⟨b, off + k * 4, none⟩)
  | 5 => v = .string (d.leg)
  | 6 => v = .string (o ++ d.leg)
  | 7 => v = .string (o ++ d.leg ++ ⟨#[58]⟩)
  | 8 => v = .slice (some ⟨b, off, none⟩) n cap
  | 9 => v = .int .i64 (k : Int)
  | 10 => v = .pointer (some ⟨b, off + k * 4, none⟩)
  | 11 => v = .pointer (some ⟨b, off + k * 4 + 1, none⟩)
  | 12 => v = .int .i64 d.cls
  | 13 => v = .string (intB d.cls)
  | 14 => v = .string (o ++ d.leg ++ ⟨#[58]⟩ ++ intB d.cls)
  | 15 => v = .string (o ++ d.leg ++ ⟨#[58]⟩ ++ intB d.cls ++ ⟨#[58]⟩)
  | 16 => v = .slice (some ⟨b, off, none⟩) n cap
  | 17 => v = .int .i64 (k : Int)
  | 18 => v = .pointer (some ⟨b, off + k * 4, none⟩)
  | 19 => v = .pointer (some ⟨b, off + k * 4 + 2, none⟩)
  | 20 => v = .int .i64 d.st
  | 21 => v = .string (intB d.st)
  | 22 => v = .string (o ++ d.leg ++ ⟨#[58]⟩ ++ intB d.cls ++ ⟨#[58]⟩ ++ intB d.st)
  | 23 => v = .string (o ++ d.leg ++ ⟨#[58]⟩ ++ intB d.cls ++ ⟨#[58]⟩ ++ intB d.st ++ ⟨#[58]⟩)
  | 24 => v = .slice (some ⟨b, off, none⟩) n cap
  | 25 => v = .int .i64 (k : Int)
  | 26 => v = .pointer (some ⟨b, off + k * 4, none⟩)
  | 27 => v = .pointer (some ⟨b, off + k * 4 + 3, none⟩)
  | 28 => v = .int .i64 d.sh
  | 29 => v = .string (intB d.sh)
  | 30 => v = .string (o ++ d.leg ++ ⟨#[58]⟩ ++ intB d.cls ++ ⟨#[58]⟩ ++ intB d.st ++ ⟨#[58]⟩ ++ intB d.sh)
  | 31 => v = .string (o ++ d.leg ++ ⟨#[58]⟩ ++ intB d.cls ++ ⟨#[58]⟩ ++ intB d.st ++ ⟨#[58]⟩ ++ intB d.sh)
  | _ => True
set_option maxRecDepth 100000 in
set_option maxHeartbeats 16000000 in
theorem writeS (a : Option Addr) (n cap : Nat) (ds : Nat → OpD) (w : World) (h : Ops w a n ds) (hz : ∀ i, i < n → (ds i).leg.size ≤ maxLen) (hl : n ≤ 1048576) :
    Calls Tryd.prog 11 #[.slice a n cap] w (TextPost n ds w) := by
  have H := Lib.hid h
  have HZ0 := Lib.hid hz
  clear h hz
  go_enter Tryd.func11, Tryd.ntmps11
  go_wp2_with fail
  refine (goodS a n cap ds w H.out HZ0.out hl).mono ?_
  rintro e w1 ⟨b1, rfl, hb1, d1⟩
  have HB1 := Lib.hid d1
  clear d1
  cases b1 with
  | false =>
    have hno : Hid (¬ OpsGood n ds) := fun q => by have := hb1.out.2 q; cases this
    go_wp2
    go_ret
    exact ⟨_, rfl, ⟨fun q => absurd q hno.out, fun _ => rfl⟩, HB1.out⟩
  | true =>
    have HOK := Lib.hid (hb1.out.1 rfl)
    have hn3 := HOK.out.1.2
    clear hb1
    go_wp2_with fail
    go_loopw [3, 4] (fun vo vi wr => ∃ (k : Nat) (o : ByteArray), k ≤ n ∧ vo = .string o ∧ vi = .int .i64 k ∧ Hid (o = opsB ds k) ∧ Below w.heap.size w wr) (fun _ vi _ => n - (intOf vi).toNat)
    case atStart => exact ⟨0, _, Nat.zero_le _, rfl, rfl, rfl, HB1.out⟩
    case round =>
      obtain ⟨k, o, hk, rfl, rfl, ho, hb⟩ := hrel
      clear HB1
      rcases Nat.lt_or_ge k n with hlt | hge
      · rcases H.out.kept hb with hc | ⟨b, off, rfl, hbl, hrow⟩
        · omega
        have HB := Lib.hid hb
        have HR := Lib.hid (hrow k hlt)
        have HBL := Lib.hid hbl
        have HGD := Lib.hid ((HOK.out.2 k hlt).1)
        have HNB : Hid ((-9223372036854775807 ≤ (ds k).cls ∧ (ds k).cls ≤ 9223372036854775807) ∧ (-9223372036854775807 ≤ (ds k).st ∧ (ds k).st ≤ 9223372036854775807) ∧ (-9223372036854775807 ≤ (ds k).sh ∧ (ds k).sh ≤ 9223372036854775807)) := by
          obtain ⟨-, q2, q3, -, q5⟩ := HGD.out
          exact ⟨⟨by omega, by omega⟩, ⟨by omega, by omega⟩, ⟨by omega, by omega⟩⟩
        have HSZ : Hid ((ds k).leg.size ≤ 8 ∧ (intB (ds k).cls).size ≤ 21 ∧ (intB (ds k).st).size ≤ 21 ∧ (intB (ds k).sh).size ≤ 21) := ⟨nameB_size HGD.out.1, intB_size HNB.out.1.1 HNB.out.1.2, intB_size HNB.out.2.1.1 HNB.out.2.1.2, intB_size HNB.out.2.2.1 HNB.out.2.2.2⟩
        have HO : Hid (o.size ≤ 300) := by
          have q := opsB_size (ds := ds) k (fun i hi => (HOK.out.2 i (by omega)).1)
          refine Lib.hid ?_
          rw [ho.out]
          omega
        have k1 : (k : Int) < n := by omega
        have k0 : (0 : Int) ≤ k := by omega
        clear hrow hb hbl
        go_upto_if 16 with fail
        go_cut [3] from 9 to 49 (fun v wx => ∃ o' : ByteArray, v = .string o' ∧ Hid (o'.size ≤ 301) ∧ Hid (o' ++ opB (ds k) = opsB ds (k + 1)) ∧ wr = wx)
        case first =>
          rcases Nat.eq_zero_or_pos k with hk0 | hkp
          · have g0 : decide ((0 : Int) < (k : Int)) = false := decide_eq_false (by omega)
            have g0n : decide (0 < k) = false := decide_eq_false (by omega)
            have hAB : Hid (o.size ≤ 301) ∧ Hid (o ++ opB (ds k) = opsB ds (k + 1)) := by
              refine ⟨Lib.hid (by have := HO.out; omega), Lib.hid ?_⟩
              rw [ho.out, hk0]
              exact nil_cat _
            go_wp2_with fail
            go_meet
            case rel => exact ⟨o, rfl, hAB.1, hAB.2, rfl⟩
          · have g0 : decide ((0 : Int) < (k : Int)) = true := decide_eq_true (by omega)
            have g0n : decide (0 < k) = true := decide_eq_true hkp
            have m0 : ¬ 9223372036854775807 < o.size + 1 := by have := HO.out; omega
            have hAB : Hid ((o ++ ⟨#[44]⟩).size ≤ 301) ∧ Hid (o ++ ⟨#[44]⟩ ++ opB (ds k) = opsB ds (k + 1)) := by
              refine ⟨Lib.hid ?_, Lib.hid ?_⟩
              · have e1 : (⟨#[44]⟩ : ByteArray).size = 1 := rfl
                have := HO.out
                rw [ByteArray.size_append, e1]
                omega
              · obtain ⟨q, hq⟩ : ∃ q, k = q + 1 := ⟨k - 1, by omega⟩
                rw [ho.out, hq]
                rfl
            go_wp2_with fail
            go_meet
            case rel => exact ⟨_, rfl, hAB.1, hAB.2, rfl⟩
        case rest =>
          clear HO ho
          obtain ⟨oo, rfl, HO, ho1, hwx⟩ := hcut
          subst hwx
          go_upto_region 9 with fail
          refine wp_region_invK (by kernel_rfl) (fun kk L f W => TV 31 (fun _ W => Below wr.heap.size wr W) (SOt oo (ds k) k n cap b off) (.string oo) (fun v W => v = .string (oo ++ (ds k).leg ++ ⟨#[58]⟩ ++ intB (ds k).cls ++ ⟨#[58]⟩ ++ intB (ds k).st ++ ⟨#[58]⟩ ++ intB (ds k).sh) ∧ Below wr.heap.size wr W) kk L f W) (by kernel_rfl) (TV.start rfl ((Below.refl _ _).drew)) ?_
          apply Exists.intro
          apply And.intro
          · intro f
            simp only [over, List.set]
            exact rfl
          refine ⟨?hopsA, ?hendA⟩
          case hopsA =>
            refine EachOp.cons ?_ (EachOp.cons ?_ (EachOp.cons ?_ (EachOp.cons ?_ (EachOp.cons ?_ (EachOp.cons ?_ (EachOp.cons ?_ (EachOp.cons ?_ (EachOp.cons ?_ (EachOp.cons ?_ (EachOp.cons ?_ (EachOp.cons ?_ (EachOp.cons ?_ (EachOp.cons ?_ (EachOp.cons ?_ (EachOp.cons ?_ (EachOp.cons ?_ (EachOp.cons ?_ (EachOp.cons ?_ (EachOp.cons ?_ (EachOp.cons ?_ (EachOp.cons ?_ (EachOp.cons ?_ (EachOp.cons ?_ (EachOp.cons ?_ (EachOp.cons ?_ (EachOp.cons ?_ (EachOp.cons ?_ (EachOp.cons ?_ (EachOp.cons ?_ (EachOp.cons ?_ (EachOp.cons ?_ (EachOp.nil))))))))))))))))))))))))))))))))
            · intro L ff kk ww hkk hJ hcl hLi hwt QQ' hQ
              try dsimp only
              have nl : L 31 = false := by
                cases hx : L 31 with
                | false => rfl
                | true =>
                  have h31x := hx
                  have h30x : L 30 = true := hcl 31 _ rfl h31x 30 (by decide)
                  have h23x : L 23 = true := hcl 30 _ rfl h30x 23 (by decide)
                  have h22x : L 22 = true := hcl 23 _ rfl h23x 22 (by decide)
                  have h15x : L 15 = true := hcl 22 _ rfl h22x 15 (by decide)
                  have h14x : L 14 = true := hcl 15 _ rfl h15x 14 (by decide)
                  have h7x : L 7 = true := hcl 14 _ rfl h14x 7 (by decide)
                  have h6x : L 6 = true := hcl 7 _ rfl h7x 6 (by decide)
                  have h0x : L 0 = true := hcl 6 _ rfl h6x 0 (by decide)
                  have h2 : L 0 = false := hLi
                  rw [h0x] at h2; cases h2
              have hI := hJ.inv nl
              have cz : ff 31 = _ := hJ.zero nl
              go_big_wp2_with fail
              refine hQ _ _ _ ?_ (hJ.pre_op (by decide) nl hI rfl)
              first | rfl | (simp [upd, cz]; done)
            · intro L ff kk ww hkk hJ hcl hLi hwt QQ' hQ
              try dsimp only
              have nl : L 31 = false := by
                cases hx : L 31 with
                | false => rfl
                | true =>
                  have h31x := hx
                  have h30x : L 30 = true := hcl 31 _ rfl h31x 30 (by decide)
                  have h23x : L 23 = true := hcl 30 _ rfl h30x 23 (by decide)
                  have h22x : L 22 = true := hcl 23 _ rfl h23x 22 (by decide)
                  have h15x : L 15 = true := hcl 22 _ rfl h22x 15 (by decide)
                  have h14x : L 14 = true := hcl 15 _ rfl h15x 14 (by decide)
                  have h7x : L 7 = true := hcl 14 _ rfl h14x 7 (by decide)
                  have h6x : L 6 = true := hcl 7 _ rfl h7x 6 (by decide)
                  have h5x : L 5 = true := hcl 6 _ rfl h6x 5 (by decide)
                  have h4x : L 4 = true := hcl 5 _ rfl h5x 4 (by decide)
                  have h3x : L 3 = true := hcl 4 _ rfl h4x 3 (by decide)
                  have h1x : L 1 = true := hcl 3 _ rfl h3x 1 (by decide)
                  have h2 : L 1 = false := hLi
                  rw [h1x] at h2; cases h2
              have hI := hJ.inv nl
              go_big_wp2_with fail
              refine hQ _ _ _ ?_ (hJ.pre_op (by decide) nl hI rfl)
              first | rfl | (simp [upd]; done)
            · intro L ff kk ww hkk hJ hcl hLi hwt QQ' hQ
              try dsimp only
              have nl : L 31 = false := by
                cases hx : L 31 with
                | false => rfl
                | true =>
                  have h31x := hx
                  have h30x : L 30 = true := hcl 31 _ rfl h31x 30 (by decide)
                  have h23x : L 23 = true := hcl 30 _ rfl h30x 23 (by decide)
                  have h22x : L 22 = true := hcl 23 _ rfl h23x 22 (by decide)
                  have h15x : L 15 = true := hcl 22 _ rfl h22x 15 (by decide)
                  have h14x : L 14 = true := hcl 15 _ rfl h15x 14 (by decide)
                  have h7x : L 7 = true := hcl 14 _ rfl h14x 7 (by decide)
                  have h6x : L 6 = true := hcl 7 _ rfl h7x 6 (by decide)
                  have h5x : L 5 = true := hcl 6 _ rfl h6x 5 (by decide)
                  have h4x : L 4 = true := hcl 5 _ rfl h5x 4 (by decide)
                  have h3x : L 3 = true := hcl 4 _ rfl h4x 3 (by decide)
                  have h2x : L 2 = true := hcl 3 _ rfl h3x 2 (by decide)
                  have h2 : L 2 = false := hLi
                  rw [h2x] at h2; cases h2
              have hI := hJ.inv nl
              go_big_wp2_with fail
              refine hQ _ _ _ ?_ (hJ.pre_op (by decide) nl hI rfl)
              first | rfl | (simp [upd]; done)
            · intro L ff kk ww hkk hJ hcl hLi hwt QQ' hQ
              try dsimp only
              have nl : L 31 = false := by
                cases hx : L 31 with
                | false => rfl
                | true =>
                  have h31x := hx
                  have h30x : L 30 = true := hcl 31 _ rfl h31x 30 (by decide)
                  have h23x : L 23 = true := hcl 30 _ rfl h30x 23 (by decide)
                  have h22x : L 22 = true := hcl 23 _ rfl h23x 22 (by decide)
                  have h15x : L 15 = true := hcl 22 _ rfl h22x 15 (by decide)
                  have h14x : L 14 = true := hcl 15 _ rfl h15x 14 (by decide)
                  have h7x : L 7 = true := hcl 14 _ rfl h14x 7 (by decide)
                  have h6x : L 6 = true := hcl 7 _ rfl h7x 6 (by decide)
                  have h5x : L 5 = true := hcl 6 _ rfl h6x 5 (by decide)
                  have h4x : L 4 = true := hcl 5 _ rfl h5x 4 (by decide)
                  have h3x : L 3 = true := hcl 4 _ rfl h4x 3 (by decide)
                  have h2 : L 3 = false := hLi
                  rw [h3x] at h2; cases h2
              have hI := hJ.inv nl
              have i1 : (k : Int) < (n : Int) := by omega
              have i0 : (0 : Int) ≤ (k : Int) := by omega
              have c1' : ff 1 = _ := hJ.pre 1 (by decide) (hwt 1 (by decide)) nl
              have c2' : ff 2 = _ := hJ.pre 2 (by decide) (hwt 2 (by decide)) nl
              go_big_wp2_with fail
              refine hQ _ _ _ ?_ (hJ.pre_op (by decide) nl hI rfl)
              first | rfl | (simp [upd, c1', c2']; done)
            · intro L ff kk ww hkk hJ hcl hLi hwt QQ' hQ
              try dsimp only
              have nl : L 31 = false := by
                cases hx : L 31 with
                | false => rfl
                | true =>
                  have h31x := hx
                  have h30x : L 30 = true := hcl 31 _ rfl h31x 30 (by decide)
                  have h23x : L 23 = true := hcl 30 _ rfl h30x 23 (by decide)
                  have h22x : L 22 = true := hcl 23 _ rfl h23x 22 (by decide)
                  have h15x : L 15 = true := hcl 22 _ rfl h22x 15 (by decide)
                  have h14x : L 14 = true := hcl 15 _ rfl h15x 14 (by decide)
                  have h7x : L 7 = true := hcl 14 _ rfl h14x 7 (by decide)
                  have h6x : L 6 = true := hcl 7 _ rfl h7x 6 (by decide)
                  have h5x : L 5 = true := hcl 6 _ rfl h6x 5 (by decide)
                  have h4x : L 4 = true := hcl 5 _ rfl h5x 4 (by decide)
                  have h2 : L 4 = false := hLi
                  rw [h4x] at h2; cases h2
              have hI := hJ.inv nl
              have c3' : ff 3 = _ := hJ.pre 3 (by decide) (hwt 3 (by decide)) nl
              go_big_wp2_with fail
              refine hQ _ _ _ ?_ (hJ.pre_op (by decide) nl hI rfl)
              first | rfl | (simp [upd, c3']; done)
            · intro L ff kk ww hkk hJ hcl hLi hwt QQ' hQ
              try dsimp only
              have nl : L 31 = false := by
                cases hx : L 31 with
                | false => rfl
                | true =>
                  have h31x := hx
                  have h30x : L 30 = true := hcl 31 _ rfl h31x 30 (by decide)
                  have h23x : L 23 = true := hcl 30 _ rfl h30x 23 (by decide)
                  have h22x : L 22 = true := hcl 23 _ rfl h23x 22 (by decide)
                  have h15x : L 15 = true := hcl 22 _ rfl h22x 15 (by decide)
                  have h14x : L 14 = true := hcl 15 _ rfl h15x 14 (by decide)
                  have h7x : L 7 = true := hcl 14 _ rfl h14x 7 (by decide)
                  have h6x : L 6 = true := hcl 7 _ rfl h7x 6 (by decide)
                  have h5x : L 5 = true := hcl 6 _ rfl h6x 5 (by decide)
                  have h2 : L 5 = false := hLi
                  rw [h5x] at h2; cases h2
              have hI := hJ.inv nl
              have HRr := HR.out.kept HBL.out hI
              obtain ⟨y0, y1, y2, y3⟩ := HRr
              have c4' : ff 4 = _ := hJ.pre 4 (by decide) (hwt 4 (by decide)) nl
              go_big_wp2_with fail
              refine hQ _ _ _ ?_ (hJ.pre_op (by decide) nl hI rfl)
              first | rfl | (simp [upd, c4']; done)
            · intro L ff kk ww hkk hJ hcl hLi hwt QQ' hQ
              try dsimp only
              have nl : L 31 = false := by
                cases hx : L 31 with
                | false => rfl
                | true =>
                  have h31x := hx
                  have h30x : L 30 = true := hcl 31 _ rfl h31x 30 (by decide)
                  have h23x : L 23 = true := hcl 30 _ rfl h30x 23 (by decide)
                  have h22x : L 22 = true := hcl 23 _ rfl h23x 22 (by decide)
                  have h15x : L 15 = true := hcl 22 _ rfl h22x 15 (by decide)
                  have h14x : L 14 = true := hcl 15 _ rfl h15x 14 (by decide)
                  have h7x : L 7 = true := hcl 14 _ rfl h14x 7 (by decide)
                  have h6x : L 6 = true := hcl 7 _ rfl h7x 6 (by decide)
                  have h2 : L 6 = false := hLi
                  rw [h6x] at h2; cases h2
              have hI := hJ.inv nl
              have q0 := HO.out
              have q1 := HSZ.out.1
              have q2 := HSZ.out.2.1
              have q3 := HSZ.out.2.2.1
              have q4 := HSZ.out.2.2.2
              have mm : ¬ 9223372036854775807 < oo.size + (ds k).leg.size := by omega
              clear q0 q1 q2 q3 q4
              have c0' : ff 0 = _ := hJ.pre 0 (by decide) (hwt 0 (by decide)) nl
              have c5' : ff 5 = _ := hJ.pre 5 (by decide) (hwt 5 (by decide)) nl
              go_big_wp2_with fail
              refine hQ _ _ _ ?_ (hJ.pre_op (by decide) nl hI rfl)
              first | rfl | (simp [upd, c0', c5']; done)
            · intro L ff kk ww hkk hJ hcl hLi hwt QQ' hQ
              try dsimp only
              have nl : L 31 = false := by
                cases hx : L 31 with
                | false => rfl
                | true =>
                  have h31x := hx
                  have h30x : L 30 = true := hcl 31 _ rfl h31x 30 (by decide)
                  have h23x : L 23 = true := hcl 30 _ rfl h30x 23 (by decide)
                  have h22x : L 22 = true := hcl 23 _ rfl h23x 22 (by decide)
                  have h15x : L 15 = true := hcl 22 _ rfl h22x 15 (by decide)
                  have h14x : L 14 = true := hcl 15 _ rfl h15x 14 (by decide)
                  have h7x : L 7 = true := hcl 14 _ rfl h14x 7 (by decide)
                  have h2 : L 7 = false := hLi
                  rw [h7x] at h2; cases h2
              have hI := hJ.inv nl
              have q0 := HO.out
              have q1 := HSZ.out.1
              have q2 := HSZ.out.2.1
              have q3 := HSZ.out.2.2.1
              have q4 := HSZ.out.2.2.2
              have mm : ¬ 9223372036854775807 < oo.size + (ds k).leg.size + 1 := by omega
              clear q0 q1 q2 q3 q4
              have c6' : ff 6 = _ := hJ.pre 6 (by decide) (hwt 6 (by decide)) nl
              go_big_wp2_with fail
              refine hQ _ _ _ ?_ (hJ.pre_op (by decide) nl hI rfl)
              first | rfl | (simp [upd, c6']; done)
            · intro L ff kk ww hkk hJ hcl hLi hwt QQ' hQ
              try dsimp only
              have nl : L 31 = false := by
                cases hx : L 31 with
                | false => rfl
                | true =>
                  have h31x := hx
                  have h30x : L 30 = true := hcl 31 _ rfl h31x 30 (by decide)
                  have h23x : L 23 = true := hcl 30 _ rfl h30x 23 (by decide)
                  have h22x : L 22 = true := hcl 23 _ rfl h23x 22 (by decide)
                  have h15x : L 15 = true := hcl 22 _ rfl h22x 15 (by decide)
                  have h14x : L 14 = true := hcl 15 _ rfl h15x 14 (by decide)
                  have h13x : L 13 = true := hcl 14 _ rfl h14x 13 (by decide)
                  have h12x : L 12 = true := hcl 13 _ rfl h13x 12 (by decide)
                  have h11x : L 11 = true := hcl 12 _ rfl h12x 11 (by decide)
                  have h10x : L 10 = true := hcl 11 _ rfl h11x 10 (by decide)
                  have h8x : L 8 = true := hcl 10 _ rfl h10x 8 (by decide)
                  have h2 : L 8 = false := hLi
                  rw [h8x] at h2; cases h2
              have hI := hJ.inv nl
              go_big_wp2_with fail
              refine hQ _ _ _ ?_ (hJ.pre_op (by decide) nl hI rfl)
              first | rfl | (simp [upd]; done)
            · intro L ff kk ww hkk hJ hcl hLi hwt QQ' hQ
              try dsimp only
              have nl : L 31 = false := by
                cases hx : L 31 with
                | false => rfl
                | true =>
                  have h31x := hx
                  have h30x : L 30 = true := hcl 31 _ rfl h31x 30 (by decide)
                  have h23x : L 23 = true := hcl 30 _ rfl h30x 23 (by decide)
                  have h22x : L 22 = true := hcl 23 _ rfl h23x 22 (by decide)
                  have h15x : L 15 = true := hcl 22 _ rfl h22x 15 (by decide)
                  have h14x : L 14 = true := hcl 15 _ rfl h15x 14 (by decide)
                  have h13x : L 13 = true := hcl 14 _ rfl h14x 13 (by decide)
                  have h12x : L 12 = true := hcl 13 _ rfl h13x 12 (by decide)
                  have h11x : L 11 = true := hcl 12 _ rfl h12x 11 (by decide)
                  have h10x : L 10 = true := hcl 11 _ rfl h11x 10 (by decide)
                  have h9x : L 9 = true := hcl 10 _ rfl h10x 9 (by decide)
                  have h2 : L 9 = false := hLi
                  rw [h9x] at h2; cases h2
              have hI := hJ.inv nl
              go_big_wp2_with fail
              refine hQ _ _ _ ?_ (hJ.pre_op (by decide) nl hI rfl)
              first | rfl | (simp [upd]; done)
            · intro L ff kk ww hkk hJ hcl hLi hwt QQ' hQ
              try dsimp only
              have nl : L 31 = false := by
                cases hx : L 31 with
                | false => rfl
                | true =>
                  have h31x := hx
                  have h30x : L 30 = true := hcl 31 _ rfl h31x 30 (by decide)
                  have h23x : L 23 = true := hcl 30 _ rfl h30x 23 (by decide)
                  have h22x : L 22 = true := hcl 23 _ rfl h23x 22 (by decide)
                  have h15x : L 15 = true := hcl 22 _ rfl h22x 15 (by decide)
                  have h14x : L 14 = true := hcl 15 _ rfl h15x 14 (by decide)
                  have h13x : L 13 = true := hcl 14 _ rfl h14x 13 (by decide)
                  have h12x : L 12 = true := hcl 13 _ rfl h13x 12 (by decide)
                  have h11x : L 11 = true := hcl 12 _ rfl h12x 11 (by decide)
                  have h10x : L 10 = true := hcl 11 _ rfl h11x 10 (by decide)
                  have h2 : L 10 = false := hLi
                  rw [h10x] at h2; cases h2
              have hI := hJ.inv nl
              have i1 : (k : Int) < (n : Int) := by omega
              have i0 : (0 : Int) ≤ (k : Int) := by omega
              have c8' : ff 8 = _ := hJ.pre 8 (by decide) (hwt 8 (by decide)) nl
              have c9' : ff 9 = _ := hJ.pre 9 (by decide) (hwt 9 (by decide)) nl
              go_big_wp2_with fail
              refine hQ _ _ _ ?_ (hJ.pre_op (by decide) nl hI rfl)
              first | rfl | (simp [upd, c8', c9']; done)
            · intro L ff kk ww hkk hJ hcl hLi hwt QQ' hQ
              try dsimp only
              have nl : L 31 = false := by
                cases hx : L 31 with
                | false => rfl
                | true =>
                  have h31x := hx
                  have h30x : L 30 = true := hcl 31 _ rfl h31x 30 (by decide)
                  have h23x : L 23 = true := hcl 30 _ rfl h30x 23 (by decide)
                  have h22x : L 22 = true := hcl 23 _ rfl h23x 22 (by decide)
                  have h15x : L 15 = true := hcl 22 _ rfl h22x 15 (by decide)
                  have h14x : L 14 = true := hcl 15 _ rfl h15x 14 (by decide)
                  have h13x : L 13 = true := hcl 14 _ rfl h14x 13 (by decide)
                  have h12x : L 12 = true := hcl 13 _ rfl h13x 12 (by decide)
                  have h11x : L 11 = true := hcl 12 _ rfl h12x 11 (by decide)
                  have h2 : L 11 = false := hLi
                  rw [h11x] at h2; cases h2
              have hI := hJ.inv nl
              have c10' : ff 10 = _ := hJ.pre 10 (by decide) (hwt 10 (by decide)) nl
              go_big_wp2_with fail
              refine hQ _ _ _ ?_ (hJ.pre_op (by decide) nl hI rfl)
              first | rfl | (simp [upd, c10']; done)
            · intro L ff kk ww hkk hJ hcl hLi hwt QQ' hQ
              try dsimp only
              have nl : L 31 = false := by
                cases hx : L 31 with
                | false => rfl
                | true =>
                  have h31x := hx
                  have h30x : L 30 = true := hcl 31 _ rfl h31x 30 (by decide)
                  have h23x : L 23 = true := hcl 30 _ rfl h30x 23 (by decide)
                  have h22x : L 22 = true := hcl 23 _ rfl h23x 22 (by decide)
                  have h15x : L 15 = true := hcl 22 _ rfl h22x 15 (by decide)
                  have h14x : L 14 = true := hcl 15 _ rfl h15x 14 (by decide)
                  have h13x : L 13 = true := hcl 14 _ rfl h14x 13 (by decide)
                  have h12x : L 12 = true := hcl 13 _ rfl h13x 12 (by decide)
                  have h2 : L 12 = false := hLi
                  rw [h12x] at h2; cases h2
              have hI := hJ.inv nl
              have HRr := HR.out.kept HBL.out hI
              obtain ⟨y0, y1, y2, y3⟩ := HRr
              have c11' : ff 11 = _ := hJ.pre 11 (by decide) (hwt 11 (by decide)) nl
              go_big_wp2_with fail
              refine hQ _ _ _ ?_ (hJ.pre_op (by decide) nl hI rfl)
              first | rfl | (simp [upd, c11']; done)
            · intro L ff kk ww hkk hJ hcl hLi hwt QQ' hQ
              try dsimp only
              have nl : L 31 = false := by
                cases hx : L 31 with
                | false => rfl
                | true =>
                  have h31x := hx
                  have h30x : L 30 = true := hcl 31 _ rfl h31x 30 (by decide)
                  have h23x : L 23 = true := hcl 30 _ rfl h30x 23 (by decide)
                  have h22x : L 22 = true := hcl 23 _ rfl h23x 22 (by decide)
                  have h15x : L 15 = true := hcl 22 _ rfl h22x 15 (by decide)
                  have h14x : L 14 = true := hcl 15 _ rfl h15x 14 (by decide)
                  have h13x : L 13 = true := hcl 14 _ rfl h14x 13 (by decide)
                  have h2 : L 13 = false := hLi
                  rw [h13x] at h2; cases h2
              have hI := hJ.inv nl
              have c12' : ff 12 = _ := hJ.pre 12 (by decide) (hwt 12 (by decide)) nl
              go_big_wp2_with fail
              refine (decZ (ds k).cls ww HNB.out.1.1 HNB.out.1.2).mono ?_
              rintro e wa ⟨rfl, da⟩
              go_big_wp2_with fail
              refine hQ _ _ wa ?_ (hJ.pre_op (by decide) nl (bt hI da) rfl)
              first | rfl | (simp [upd, c12']; done)
            · intro L ff kk ww hkk hJ hcl hLi hwt QQ' hQ
              try dsimp only
              have nl : L 31 = false := by
                cases hx : L 31 with
                | false => rfl
                | true =>
                  have h31x := hx
                  have h30x : L 30 = true := hcl 31 _ rfl h31x 30 (by decide)
                  have h23x : L 23 = true := hcl 30 _ rfl h30x 23 (by decide)
                  have h22x : L 22 = true := hcl 23 _ rfl h23x 22 (by decide)
                  have h15x : L 15 = true := hcl 22 _ rfl h22x 15 (by decide)
                  have h14x : L 14 = true := hcl 15 _ rfl h15x 14 (by decide)
                  have h2 : L 14 = false := hLi
                  rw [h14x] at h2; cases h2
              have hI := hJ.inv nl
              have q0 := HO.out
              have q1 := HSZ.out.1
              have q2 := HSZ.out.2.1
              have q3 := HSZ.out.2.2.1
              have q4 := HSZ.out.2.2.2
              have mm : ¬ 9223372036854775807 < oo.size + (ds k).leg.size + 1 + (intB (ds k).cls).size := by omega
              clear q0 q1 q2 q3 q4
              have c7' : ff 7 = _ := hJ.pre 7 (by decide) (hwt 7 (by decide)) nl
              have c13' : ff 13 = _ := hJ.pre 13 (by decide) (hwt 13 (by decide)) nl
              go_big_wp2_with fail
              refine hQ _ _ _ ?_ (hJ.pre_op (by decide) nl hI rfl)
              first | rfl | (simp [upd, c7', c13']; done)
            · intro L ff kk ww hkk hJ hcl hLi hwt QQ' hQ
              try dsimp only
              have nl : L 31 = false := by
                cases hx : L 31 with
                | false => rfl
                | true =>
                  have h31x := hx
                  have h30x : L 30 = true := hcl 31 _ rfl h31x 30 (by decide)
                  have h23x : L 23 = true := hcl 30 _ rfl h30x 23 (by decide)
                  have h22x : L 22 = true := hcl 23 _ rfl h23x 22 (by decide)
                  have h15x : L 15 = true := hcl 22 _ rfl h22x 15 (by decide)
                  have h2 : L 15 = false := hLi
                  rw [h15x] at h2; cases h2
              have hI := hJ.inv nl
              have q0 := HO.out
              have q1 := HSZ.out.1
              have q2 := HSZ.out.2.1
              have q3 := HSZ.out.2.2.1
              have q4 := HSZ.out.2.2.2
              have mm : ¬ 9223372036854775807 < oo.size + (ds k).leg.size + 1 + (intB (ds k).cls).size + 1 := by omega
              clear q0 q1 q2 q3 q4
              have c14' : ff 14 = _ := hJ.pre 14 (by decide) (hwt 14 (by decide)) nl
              go_big_wp2_with fail
              refine hQ _ _ _ ?_ (hJ.pre_op (by decide) nl hI rfl)
              first | rfl | (simp [upd, c14']; done)
            · intro L ff kk ww hkk hJ hcl hLi hwt QQ' hQ
              try dsimp only
              have nl : L 31 = false := by
                cases hx : L 31 with
                | false => rfl
                | true =>
                  have h31x := hx
                  have h30x : L 30 = true := hcl 31 _ rfl h31x 30 (by decide)
                  have h23x : L 23 = true := hcl 30 _ rfl h30x 23 (by decide)
                  have h22x : L 22 = true := hcl 23 _ rfl h23x 22 (by decide)
                  have h21x : L 21 = true := hcl 22 _ rfl h22x 21 (by decide)
                  have h20x : L 20 = true := hcl 21 _ rfl h21x 20 (by decide)
                  have h19x : L 19 = true := hcl 20 _ rfl h20x 19 (by decide)
                  have h18x : L 18 = true := hcl 19 _ rfl h19x 18 (by decide)
                  have h16x : L 16 = true := hcl 18 _ rfl h18x 16 (by decide)
                  have h2 : L 16 = false := hLi
                  rw [h16x] at h2; cases h2
              have hI := hJ.inv nl
              go_big_wp2_with fail
              refine hQ _ _ _ ?_ (hJ.pre_op (by decide) nl hI rfl)
              first | rfl | (simp [upd]; done)
            · intro L ff kk ww hkk hJ hcl hLi hwt QQ' hQ
              try dsimp only
              have nl : L 31 = false := by
                cases hx : L 31 with
                | false => rfl
                | true =>
                  have h31x := hx
                  have h30x : L 30 = true := hcl 31 _ rfl h31x 30 (by decide)
                  have h23x : L 23 = true := hcl 30 _ rfl h30x 23 (by decide)
                  have h22x : L 22 = true := hcl 23 _ rfl h23x 22 (by decide)
                  have h21x : L 21 = true := hcl 22 _ rfl h22x 21 (by decide)
                  have h20x : L 20 = true := hcl 21 _ rfl h21x 20 (by decide)
                  have h19x : L 19 = true := hcl 20 _ rfl h20x 19 (by decide)
                  have h18x : L 18 = true := hcl 19 _ rfl h19x 18 (by decide)
                  have h17x : L 17 = true := hcl 18 _ rfl h18x 17 (by decide)
                  have h2 : L 17 = false := hLi
                  rw [h17x] at h2; cases h2
              have hI := hJ.inv nl
              go_big_wp2_with fail
              refine hQ _ _ _ ?_ (hJ.pre_op (by decide) nl hI rfl)
              first | rfl | (simp [upd]; done)
            · intro L ff kk ww hkk hJ hcl hLi hwt QQ' hQ
              try dsimp only
              have nl : L 31 = false := by
                cases hx : L 31 with
                | false => rfl
                | true =>
                  have h31x := hx
                  have h30x : L 30 = true := hcl 31 _ rfl h31x 30 (by decide)
                  have h23x : L 23 = true := hcl 30 _ rfl h30x 23 (by decide)
                  have h22x : L 22 = true := hcl 23 _ rfl h23x 22 (by decide)
                  have h21x : L 21 = true := hcl 22 _ rfl h22x 21 (by decide)
                  have h20x : L 20 = true := hcl 21 _ rfl h21x 20 (by decide)
                  have h19x : L 19 = true := hcl 20 _ rfl h20x 19 (by decide)
                  have h18x : L 18 = true := hcl 19 _ rfl h19x 18 (by decide)
                  have h2 : L 18 = false := hLi
                  rw [h18x] at h2; cases h2
              have hI := hJ.inv nl
              have i1 : (k : Int) < (n : Int) := by omega
              have i0 : (0 : Int) ≤ (k : Int) := by omega
              have c16' : ff 16 = _ := hJ.pre 16 (by decide) (hwt 16 (by decide)) nl
              have c17' : ff 17 = _ := hJ.pre 17 (by decide) (hwt 17 (by decide)) nl
              go_big_wp2_with fail
              refine hQ _ _ _ ?_ (hJ.pre_op (by decide) nl hI rfl)
              first | rfl | (simp [upd, c16', c17']; done)
            · intro L ff kk ww hkk hJ hcl hLi hwt QQ' hQ
              try dsimp only
              have nl : L 31 = false := by
                cases hx : L 31 with
                | false => rfl
                | true =>
                  have h31x := hx
                  have h30x : L 30 = true := hcl 31 _ rfl h31x 30 (by decide)
                  have h23x : L 23 = true := hcl 30 _ rfl h30x 23 (by decide)
                  have h22x : L 22 = true := hcl 23 _ rfl h23x 22 (by decide)
                  have h21x : L 21 = true := hcl 22 _ rfl h22x 21 (by decide)
                  have h20x : L 20 = true := hcl 21 _ rfl h21x 20 (by decide)
                  have h19x : L 19 = true := hcl 20 _ rfl h20x 19 (by decide)
                  have h2 : L 19 = false := hLi
                  rw [h19x] at h2; cases h2
              have hI := hJ.inv nl
              have c18' : ff 18 = _ := hJ.pre 18 (by decide) (hwt 18 (by decide)) nl
              go_big_wp2_with fail
              refine hQ _ _ _ ?_ (hJ.pre_op (by decide) nl hI rfl)
              first | rfl | (simp [upd, c18']; done)
            · intro L ff kk ww hkk hJ hcl hLi hwt QQ' hQ
              try dsimp only
              have nl : L 31 = false := by
                cases hx : L 31 with
                | false => rfl
                | true =>
                  have h31x := hx
                  have h30x : L 30 = true := hcl 31 _ rfl h31x 30 (by decide)
                  have h23x : L 23 = true := hcl 30 _ rfl h30x 23 (by decide)
                  have h22x : L 22 = true := hcl 23 _ rfl h23x 22 (by decide)
                  have h21x : L 21 = true := hcl 22 _ rfl h22x 21 (by decide)
                  have h20x : L 20 = true := hcl 21 _ rfl h21x 20 (by decide)
                  have h2 : L 20 = false := hLi
                  rw [h20x] at h2; cases h2
              have hI := hJ.inv nl
              have HRr := HR.out.kept HBL.out hI
              obtain ⟨y0, y1, y2, y3⟩ := HRr
              have c19' : ff 19 = _ := hJ.pre 19 (by decide) (hwt 19 (by decide)) nl
              go_big_wp2_with fail
              refine hQ _ _ _ ?_ (hJ.pre_op (by decide) nl hI rfl)
              first | rfl | (simp [upd, c19']; done)
            · intro L ff kk ww hkk hJ hcl hLi hwt QQ' hQ
              try dsimp only
              have nl : L 31 = false := by
                cases hx : L 31 with
                | false => rfl
                | true =>
                  have h31x := hx
                  have h30x : L 30 = true := hcl 31 _ rfl h31x 30 (by decide)
                  have h23x : L 23 = true := hcl 30 _ rfl h30x 23 (by decide)
                  have h22x : L 22 = true := hcl 23 _ rfl h23x 22 (by decide)
                  have h21x : L 21 = true := hcl 22 _ rfl h22x 21 (by decide)
                  have h2 : L 21 = false := hLi
                  rw [h21x] at h2; cases h2
              have hI := hJ.inv nl
              have c20' : ff 20 = _ := hJ.pre 20 (by decide) (hwt 20 (by decide)) nl
              go_big_wp2_with fail
              refine (decZ (ds k).st ww HNB.out.2.1.1 HNB.out.2.1.2).mono ?_
              rintro e wa ⟨rfl, da⟩
              go_big_wp2_with fail
              refine hQ _ _ wa ?_ (hJ.pre_op (by decide) nl (bt hI da) rfl)
              first | rfl | (simp [upd, c20']; done)
            · intro L ff kk ww hkk hJ hcl hLi hwt QQ' hQ
              try dsimp only
              have nl : L 31 = false := by
                cases hx : L 31 with
                | false => rfl
                | true =>
                  have h31x := hx
                  have h30x : L 30 = true := hcl 31 _ rfl h31x 30 (by decide)
                  have h23x : L 23 = true := hcl 30 _ rfl h30x 23 (by decide)
                  have h22x : L 22 = true := hcl 23 _ rfl h23x 22 (by decide)
                  have h2 : L 22 = false := hLi
                  rw [h22x] at h2; cases h2
              have hI := hJ.inv nl
              have q0 := HO.out
              have q1 := HSZ.out.1
              have q2 := HSZ.out.2.1
              have q3 := HSZ.out.2.2.1
              have q4 := HSZ.out.2.2.2
              have mm : ¬ 9223372036854775807 < oo.size + (ds k).leg.size + 1 + (intB (ds k).cls).size + 1 + (intB (ds k).st).size := by omega
              clear q0 q1 q2 q3 q4
              have c15' : ff 15 = _ := hJ.pre 15 (by decide) (hwt 15 (by decide)) nl
              have c21' : ff 21 = _ := hJ.pre 21 (by decide) (hwt 21 (by decide)) nl
              go_big_wp2_with fail
              refine hQ _ _ _ ?_ (hJ.pre_op (by decide) nl hI rfl)
              first | rfl | (simp [upd, c15', c21']; done)
            · intro L ff kk ww hkk hJ hcl hLi hwt QQ' hQ
              try dsimp only
              have nl : L 31 = false := by
                cases hx : L 31 with
                | false => rfl
                | true =>
                  have h31x := hx
                  have h30x : L 30 = true := hcl 31 _ rfl h31x 30 (by decide)
                  have h23x : L 23 = true := hcl 30 _ rfl h30x 23 (by decide)
                  have h2 : L 23 = false := hLi
                  rw [h23x] at h2; cases h2
              have hI := hJ.inv nl
              have q0 := HO.out
              have q1 := HSZ.out.1
              have q2 := HSZ.out.2.1
              have q3 := HSZ.out.2.2.1
              have q4 := HSZ.out.2.2.2
              have mm : ¬ 9223372036854775807 < oo.size + (ds k).leg.size + 1 + (intB (ds k).cls).size + 1 + (intB (ds k).st).size + 1 := by omega
              clear q0 q1 q2 q3 q4
              have c22' : ff 22 = _ := hJ.pre 22 (by decide) (hwt 22 (by decide)) nl
              go_big_wp2_with fail
              refine hQ _ _ _ ?_ (hJ.pre_op (by decide) nl hI rfl)
              first | rfl | (simp [upd, c22']; done)
            · intro L ff kk ww hkk hJ hcl hLi hwt QQ' hQ
              try dsimp only
              have nl : L 31 = false := by
                cases hx : L 31 with
                | false => rfl
                | true =>
                  have h31x := hx
                  have h30x : L 30 = true := hcl 31 _ rfl h31x 30 (by decide)
                  have h29x : L 29 = true := hcl 30 _ rfl h30x 29 (by decide)
                  have h28x : L 28 = true := hcl 29 _ rfl h29x 28 (by decide)
                  have h27x : L 27 = true := hcl 28 _ rfl h28x 27 (by decide)
                  have h26x : L 26 = true := hcl 27 _ rfl h27x 26 (by decide)
                  have h24x : L 24 = true := hcl 26 _ rfl h26x 24 (by decide)
                  have h2 : L 24 = false := hLi
                  rw [h24x] at h2; cases h2
              have hI := hJ.inv nl
              go_big_wp2_with fail
              refine hQ _ _ _ ?_ (hJ.pre_op (by decide) nl hI rfl)
              first | rfl | (simp [upd]; done)
            · intro L ff kk ww hkk hJ hcl hLi hwt QQ' hQ
              try dsimp only
              have nl : L 31 = false := by
                cases hx : L 31 with
                | false => rfl
                | true =>
                  have h31x := hx
                  have h30x : L 30 = true := hcl 31 _ rfl h31x 30 (by decide)
                  have h29x : L 29 = true := hcl 30 _ rfl h30x 29 (by decide)
                  have h28x : L 28 = true := hcl 29 _ rfl h29x 28 (by decide)
                  have h27x : L 27 = true := hcl 28 _ rfl h28x 27 (by decide)
                  have h26x : L 26 = true := hcl 27 _ rfl h27x 26 (by decide)
                  have h25x : L 25 = true := hcl 26 _ rfl h26x 25 (by decide)
                  have h2 : L 25 = false := hLi
                  rw [h25x] at h2; cases h2
              have hI := hJ.inv nl
              go_big_wp2_with fail
              refine hQ _ _ _ ?_ (hJ.pre_op (by decide) nl hI rfl)
              first | rfl | (simp [upd]; done)
            · intro L ff kk ww hkk hJ hcl hLi hwt QQ' hQ
              try dsimp only
              have nl : L 31 = false := by
                cases hx : L 31 with
                | false => rfl
                | true =>
                  have h31x := hx
                  have h30x : L 30 = true := hcl 31 _ rfl h31x 30 (by decide)
                  have h29x : L 29 = true := hcl 30 _ rfl h30x 29 (by decide)
                  have h28x : L 28 = true := hcl 29 _ rfl h29x 28 (by decide)
                  have h27x : L 27 = true := hcl 28 _ rfl h28x 27 (by decide)
                  have h26x : L 26 = true := hcl 27 _ rfl h27x 26 (by decide)
                  have h2 : L 26 = false := hLi
                  rw [h26x] at h2; cases h2
              have hI := hJ.inv nl
              have i1 : (k : Int) < (n : Int) := by omega
              have i0 : (0 : Int) ≤ (k : Int) := by omega
              have c24' : ff 24 = _ := hJ.pre 24 (by decide) (hwt 24 (by decide)) nl
              have c25' : ff 25 = _ := hJ.pre 25 (by decide) (hwt 25 (by decide)) nl
              go_big_wp2_with fail
              refine hQ _ _ _ ?_ (hJ.pre_op (by decide) nl hI rfl)
              first | rfl | (simp [upd, c24', c25']; done)
            · intro L ff kk ww hkk hJ hcl hLi hwt QQ' hQ
              try dsimp only
              have nl : L 31 = false := by
                cases hx : L 31 with
                | false => rfl
                | true =>
                  have h31x := hx
                  have h30x : L 30 = true := hcl 31 _ rfl h31x 30 (by decide)
                  have h29x : L 29 = true := hcl 30 _ rfl h30x 29 (by decide)
                  have h28x : L 28 = true := hcl 29 _ rfl h29x 28 (by decide)
                  have h27x : L 27 = true := hcl 28 _ rfl h28x 27 (by decide)
                  have h2 : L 27 = false := hLi
                  rw [h27x] at h2; cases h2
              have hI := hJ.inv nl
              have c26' : ff 26 = _ := hJ.pre 26 (by decide) (hwt 26 (by decide)) nl
              go_big_wp2_with fail
              refine hQ _ _ _ ?_ (hJ.pre_op (by decide) nl hI rfl)
              first | rfl | (simp [upd, c26']; done)
            · intro L ff kk ww hkk hJ hcl hLi hwt QQ' hQ
              try dsimp only
              have nl : L 31 = false := by
                cases hx : L 31 with
                | false => rfl
                | true =>
                  have h31x := hx
                  have h30x : L 30 = true := hcl 31 _ rfl h31x 30 (by decide)
                  have h29x : L 29 = true := hcl 30 _ rfl h30x 29 (by decide)
                  have h28x : L 28 = true := hcl 29 _ rfl h29x 28 (by decide)
                  have h2 : L 28 = false := hLi
                  rw [h28x] at h2; cases h2
              have hI := hJ.inv nl
              have HRr := HR.out.kept HBL.out hI
              obtain ⟨y0, y1, y2, y3⟩ := HRr
              have c27' : ff 27 = _ := hJ.pre 27 (by decide) (hwt 27 (by decide)) nl
              go_big_wp2_with fail
              refine hQ _ _ _ ?_ (hJ.pre_op (by decide) nl hI rfl)
              first | rfl | (simp [upd, c27']; done)
            · intro L ff kk ww hkk hJ hcl hLi hwt QQ' hQ
              try dsimp only
              have nl : L 31 = false := by
                cases hx : L 31 with
                | false => rfl
                | true =>
                  have h31x := hx
                  have h30x : L 30 = true := hcl 31 _ rfl h31x 30 (by decide)
                  have h29x : L 29 = true := hcl 30 _ rfl h30x 29 (by decide)
                  have h2 : L 29 = false := hLi
                  rw [h29x] at h2; cases h2
              have hI := hJ.inv nl
              have c28' : ff 28 = _ := hJ.pre 28 (by decide) (hwt 28 (by decide)) nl
              go_big_wp2_with fail
              refine (decZ (ds k).sh ww HNB.out.2.2.1 HNB.out.2.2.2).mono ?_
              rintro e wa ⟨rfl, da⟩
              go_big_wp2_with fail
              refine hQ _ _ wa ?_ (hJ.pre_op (by decide) nl (bt hI da) rfl)
              first | rfl | (simp [upd, c28']; done)
            · intro L ff kk ww hkk hJ hcl hLi hwt QQ' hQ
              try dsimp only
              have nl : L 31 = false := by
                cases hx : L 31 with
                | false => rfl
                | true =>
                  have h31x := hx
                  have h30x : L 30 = true := hcl 31 _ rfl h31x 30 (by decide)
                  have h2 : L 30 = false := hLi
                  rw [h30x] at h2; cases h2
              have hI := hJ.inv nl
              have q0 := HO.out
              have q1 := HSZ.out.1
              have q2 := HSZ.out.2.1
              have q3 := HSZ.out.2.2.1
              have q4 := HSZ.out.2.2.2
              have mm : ¬ 9223372036854775807 < oo.size + (ds k).leg.size + 1 + (intB (ds k).cls).size + 1 + (intB (ds k).st).size + 1 + (intB (ds k).sh).size := by omega
              clear q0 q1 q2 q3 q4
              have c23' : ff 23 = _ := hJ.pre 23 (by decide) (hwt 23 (by decide)) nl
              have c29' : ff 29 = _ := hJ.pre 29 (by decide) (hwt 29 (by decide)) nl
              go_big_wp2_with fail
              refine hQ _ _ _ ?_ (hJ.pre_op (by decide) nl hI rfl)
              first | rfl | (simp [upd, c23', c29']; done)
            · intro L ff kk ww hkk hJ hcl hLi hwt QQ' hQ
              try dsimp only
              have nl : L 31 = false := hLi
              have hI := hJ.inv nl
              have c30' : ff 30 = _ := hJ.pre 30 (by decide) (hwt 30 (by decide)) nl
              go_big_wp2_with fail
              refine hQ _ _ _ ?_ (TV.end_op ⟨rfl, hI⟩)
              first | rfl | (simp [upd, c30']; done)
          case hendA =>
          intro L ff kk w2 hkb hL hJ
          try dsimp only
          obtain ⟨cz, d2⟩ := hJ.done (hL 31 (by decide))
          rw [cz]
          clear hJ hL
          have HB2 := Lib.hid (bt HB.out d2)
          have hnx : Hid (oo ++ (ds k).leg ++ ⟨#[58]⟩ ++ intB (ds k).cls ++ ⟨#[58]⟩ ++ intB (ds k).st ++ ⟨#[58]⟩ ++ intB (ds k).sh = opsB ds (k + 1)) := by
            refine Lib.hid ?_
            rw [cat_op]
            exact ho1.out
          clear cz d2
          go_wp2
          go_roundw
          case rel => exact ⟨k + 1, _, by omega, rfl, by go_num, hnx, HB2.out⟩
          case measure => simp [intOf]; omega
      · obtain rfl : k = n := by omega
        go_wp2
        go_ret
        exact ⟨o, rfl, ⟨fun _ => ho.out, fun q => absurd HOK.out q⟩, hb⟩
end Go.Proofs.YtlfmhhdlandcjaaDoor
