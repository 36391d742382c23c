/-
  A block put into a sum, by the program.
-/
import Derived.Test.YtiganhkmnklhlaaDoorShaSpread
import Derived.Lib.LaidTab
import Derived.Deep.WholeRow
namespace Go.Proofs.YtiganhkmnklhlaaDoor
open Go.RowKit
set_option linter.unusedVariables false
set_option linter.unusedSimpArgs false

def kTab : List Int := [1116352408, 1899447441, 3049323471, 3921009573, 961987163, 1508970993, 2453635748, 2870763221, 3624381080, 310598401, 607225278, 1426881987, 1925078388, 2162078206, 2614888103, 3248222580, 3835390401, 4022224774, 264347078, 604807628, 770255983, 1249150122, 1555081692, 1996064986, 2554220882, 2821834349, 2952996808, 3210313671, 3336571891, 3584528711, 113926993, 338241895, 666307205, 773529912, 1294757372, 1396182291, 1695183700, 1986661051, 2177026350, 2456956037, 2730485921, 2820302411, 3259730800, 3345764771, 3516065817, 3600352804, 4094571909, 275423344, 430227734, 506948616, 659060556, 883997877, 958139571, 1322822218, 1537002063, 1747873779, 1955562222, 2024104815, 2227730452, 2361852424, 2428436474, 2756734187, 3204031479, 3329325298]
def zeros8 : Array Value := #[.int .u32 0, .int .u32 0, .int .u32 0, .int .u32 0, .int .u32 0, .int .u32 0, .int .u32 0, .int .u32 0]
def kAt (i : Nat) : Int := kTab.getD i 0
def LaidK (w : World) : Prop := Lib.TabIs Tryd.prog w "loop.example/stopover/impl.hashRounds" .u32 kTab
theorem gRounds : Tryd.prog.globalNamed "loop.example/stopover/impl.hashRounds" = some 3 := by kernel_rfl
def kArr : Array Value := (kTab.map fun z => Value.int .u32 z).toArray
theorem var_heap {P : Program} {w : World} {n : String} {g : Nat} {cs : Array Value} (hg : P.globalNamed n = some g) (h : w.var? P n = some cs) : ∃ t fr, w.heap[g]? = some (.cells cs t fr) := by
  unfold World.var? at h
  rw [hg] at h
  simp only [Option.bind_some] at h
  split at h
  · rename_i cs' t fr hh
    cases h
    exact ⟨t, fr, hh⟩
  · cases h
theorem laidK_stays {w w' : World} (h : LaidK w) (hb : Below w.heap.size w w') : LaidK w' := by
  obtain ⟨t, fr, hh⟩ := var_heap gRounds h
  have hlt : 3 < w.heap.size := (Array.getElem?_eq_some_iff.1 hh).1
  exact var?_below hb gRounds hlt h
theorem kArr_at (i : Nat) (h : i < 64) : kArr[i]? = some (.int .u32 (kAt i)) := by
  have hl : kTab.length = 64 := rfl
  rw [kArr, kAt, List.getElem?_toArray, List.getElem?_map, List.getD_eq_getElem?_getD, List.getElem?_eq_getElem (by omega)]; rfl

def S8.runs (st : S8) (ws : List Int) : Nat → S8
  | 0 => st
  | n + 1 => (S8.runs st ws n).rnd ((kAt n + ws.getD n 0) % 4294967296)
def S8.add (x y : S8) : S8 := ⟨(x.a + y.a) % 4294967296, (x.b + y.b) % 4294967296, (x.c + y.c) % 4294967296, (x.d + y.d) % 4294967296, (x.e + y.e) % 4294967296, (x.f + y.f) % 4294967296, (x.g + y.g) % 4294967296, (x.h + y.h) % 4294967296⟩
def blockS (st : S8) (t : List UInt8) : S8 := st.add (st.runs (wordsL t 48) 64)
def S8.at (s : S8) : Nat → Int
  | 0 => s.a | 1 => s.b | 2 => s.c | 3 => s.d | 4 => s.e | 5 => s.f | 6 => s.g | _ => s.h
theorem arr_at (s : S8) (i : Nat) (h : i < 8) : s.arr[i]? = some (.int .u32 (s.at i)) := by
  have : i = 0 ∨ i = 1 ∨ i = 2 ∨ i = 3 ∨ i = 4 ∨ i = 5 ∨ i = 6 ∨ i = 7 := by omega
  rcases this with rfl | rfl | rfl | rfl | rfl | rfl | rfl | rfl <;> rfl
theorem cells8 {w : World} {b t : Nat} {s : S8} (h : w.heap[b]? = some (.cells s.arr t (0, 0))) (i : Nat) (hi : i < 8) : w.cell? ⟨b, i, none⟩ = some (.int .u32 (s.at i)) := by
  have := arr_at s i hi
  simp [World.cell?, h, this]
theorem frozen8 {w : World} {b t : Nat} {s : S8} (h : w.heap[b]? = some (.cells s.arr t (0, 0))) (i : Nat) : w.frozen? ⟨b, i, none⟩ = false := by
  simp [World.frozen?, h]

theorem one8 (s : S8) : s.arr.all (·.oneCell') = true := by
  rw [Array.all_eq_true]
  intro i hi
  have hi8 : i < 8 := hi
  have := arr_at s i hi8
  rw [Array.getElem?_eq_getElem hi] at this
  rw [Option.some.inj this]; rfl
theorem idx64 (cs : Array Value) (i : Nat) (x : Int) (h : cs[i]? = some (.int .u32 x)) (hi : i < 64) (w : World) : (Instr.index 109 (.agg cs) (.int .i64 i)).run Tryd.prog w = .ok (.int .u32 x) w := by
  have u := Tryd.underlying109
  have s := Tryd.sizeOf76
  have a := Tryd.isAgg76
  have h1 : (0 : Int) ≤ (i : Int) ∧ (i : Int) < (64 : Nat) := by omega
  simp [Instr.index, asIntOf, part, go_sem, u, s, a, h, h1, hi]
theorem idx8 (cs : Array Value) (i : Nat) (x : Int) (h : cs[i]? = some (.int .u32 x)) (hi : i < 8) (w : World) : (Instr.index 77 (.agg cs) (.int .i64 i)).run Tryd.prog w = .ok (.int .u32 x) w := by
  have u := Tryd.underlying77
  have s := Tryd.sizeOf76
  have a := Tryd.isAgg76
  have h1 : (0 : Int) ≤ (i : Int) ∧ (i : Int) < (8 : Nat) := by omega
  simp [Instr.index, asIntOf, part, go_sem, u, s, a, h, h1, hi]
theorem store8 {w : World} {b : Nat} {T : TypeId} {s : S8} (h : w.heap[b]? = some (.cells s.arr T (0, 0))) (r : S8) : (storeCells ⟨b, 0, none⟩ r.arr.toList).run Tryd.prog w = .ok () (w.setRow b r.arr) := by
  rw [run_storeCells_from b T r.arr.toList 0 s.arr w h rfl (fun v hv => by
    have := Array.all_eq_true_iff_forall_mem.1 (one8 r) v (by simpa using hv)
    exact this)]
  simp
theorem row_set {w : World} {b : Nat} {T : TypeId} {cs cs' : Array Value} (h : w.heap[b]? = some (.cells cs T (0, 0))) : (w.setRow b cs').heap[b]? = some (.cells cs' T (0, 0)) := by
  simp [World.setRow, Array.getElem?_modify, h]
def S8.part (x y : S8) (m : Nat) : S8 := ⟨if 0 < m then (x.a + y.a) % 4294967296 else x.a, if 1 < m then (x.b + y.b) % 4294967296 else x.b, if 2 < m then (x.c + y.c) % 4294967296 else x.c, if 3 < m then (x.d + y.d) % 4294967296 else x.d, if 4 < m then (x.e + y.e) % 4294967296 else x.e, if 5 < m then (x.f + y.f) % 4294967296 else x.f, if 6 < m then (x.g + y.g) % 4294967296 else x.g, if 7 < m then (x.h + y.h) % 4294967296 else x.h⟩
theorem part_at (x y : S8) (m : Nat) (h : m < 8) : (x.part y m).at m = x.at m := by
  have : m = 0 ∨ m = 1 ∨ m = 2 ∨ m = 3 ∨ m = 4 ∨ m = 5 ∨ m = 6 ∨ m = 7 := by omega
  rcases this with rfl | rfl | rfl | rfl | rfl | rfl | rfl | rfl <;> rfl
theorem part_next {x y : S8} {m : Nat} {w : World} {b : Nat} {T : TypeId} (h : w.heap[b]? = some (.cells (x.part y m).arr T (0, 0))) (hm : m < 8) : (w.setCell ⟨b, m, none⟩ (.int .u32 ((x.at m + y.at m) % 4294967296))).heap[b]? = some (.cells (x.part y (m + 1)).arr T (0, 0)) := by
  have : m = 0 ∨ m = 1 ∨ m = 2 ∨ m = 3 ∨ m = 4 ∨ m = 5 ∨ m = 6 ∨ m = 7 := by omega
  rcases this with rfl | rfl | rfl | rfl | rfl | rfl | rfl | rfl <;> (simp [World.setCell, Array.getElem?_modify, h]; rfl)
theorem below_row {w w' : World} (h : Below w.heap.size w w') (row : Option Nat) : w.grownBy w' row := ⟨h.os, h.tape, h.output, h.size, fun k hk _ => h.block k hk⟩
def BlockPost (hb : Nat) (st : S8) (t : List UInt8) (w : World) (e : Ending) (w' : World) : Prop := (∃ v, e = .returned v) ∧ w'.heap[hb]? = some (.cells (blockS st t).arr 79 (0, 0)) ∧ w.grownBy w' (some hb)

set_option maxRecDepth 100000 in
set_option maxHeartbeats 8000000 in
theorem addBlockS (hb : Nat) (st : S8) (t : ByteArray) (w : World) (hs : t.size = 64) (hK : LaidK w) (hrow : w.heap[hb]? = some (.cells st.arr 79 (0, 0))) :
    Calls Tryd.prog 59 #[.pointer (some ⟨hb, 0, none⟩), .string t] w (BlockPost hb st t.data.toList w) := by
  have hlt : hb < w.heap.size := (Array.getElem?_eq_some_iff.1 hrow).1
  go_enter Tryd.func59, Tryd.ntmps59
  go_wp2_with fail
  refine (spreadS t _ hs).mono ?_
  rintro e w1 ⟨cs, rfl, hsz, hcs, hb1⟩
  have hrow1 := (hb1.block hb hlt).trans hrow
  have hK1 := laidK_stays hK hb1
  have c0 := cells8 hrow1 0 (by omega)
  have c1 := cells8 hrow1 1 (by omega)
  have c2 := cells8 hrow1 2 (by omega)
  have c3 := cells8 hrow1 3 (by omega)
  have c4 := cells8 hrow1 4 (by omega)
  have c5 := cells8 hrow1 5 (by omega)
  have c6 := cells8 hrow1 6 (by omega)
  have c7 := cells8 hrow1 7 (by omega)
  have h64 := size64
  rw [← hsz] at h64
  have hone : cs.all (·.oneCell') = true := by
    rw [Array.all_eq_true]
    intro i hi
    have := hcs i (by omega)
    rw [Array.getElem?_eq_getElem hi] at this
    rw [Option.some.inj this]; rfl
  have hz64 : zeros64.size = cs.size := by rw [hsz]; rfl
  have hlt1 : hb < w1.heap.size := Nat.lt_of_lt_of_le hlt hb1.size
  have hb2 : Below w1.heap.size w1 (w1.alloc (.cells cs 109)) := (Below.refl _ _).alloc (Nat.le_refl _) _
  have hrow2 := (hb2.block hb hlt1).trans hrow1
  have hb3 : Below w1.heap.size w1 ((w1.alloc (.cells cs 109)).alloc (.cells st.arr 77)) := hb2.alloc hb2.size _
  have hK3 := laidK_stays hK1 hb3
  obtain ⟨tk, fk, hk⟩ := var_heap gRounds hK3
  have hk64 : (Tryd.prog.info? 109).map (·.size) = some kArr.size := size64
  have hset : ∀ (c c' : Array Value) (t : TypeId), ((w1.alloc (.cells cs 109)).alloc (.cells c t)).setRow (w1.heap.size + 1) c' = (w1.alloc (.cells cs 109)).alloc (.cells c' t) := fun c c' t => by
    have := World.setRow_alloc_new (w1.alloc (.cells cs 109)) c c' t
    rwa [World.size_alloc] at this
  have hlast : ((w1.alloc (.cells cs 109)).alloc (.cells zeros8 77)).heap[w1.heap.size + 1]? = some (.cells zeros8 77 (0, 0)) := by
    have := heap_alloc_last (w1.alloc (.cells cs 109)) (.cells zeros8 77)
    rwa [World.size_alloc] at this
  clear c0 c1 c2 c3 c4 c5 c6 c7
  go_wp2_with (first
    | (refine wpList_store_row rfl 109 _ _ rfl w1.heap.size cs rfl rfl 109 zeros64 (heap_alloc_last w1 _) h64 hz64 hone ?_; rw [World.setRow_alloc_new])
    | (refine wpList_load_row rfl 77 _ rfl hb rfl _ st.arr (0, 0) _ hrow2 Tryd.underlying77 rfl sizeArr ?_)
    | (refine wpList_store_row rfl 77 _ _ rfl (w1.heap.size + 1) st.arr rfl rfl 77 zeros8 hlast sizeArr rfl (one8 st) ?_; rw [hset])
    | (refine wpList_load_row rfl 109 _ rfl 3 rfl _ kArr fk _ hk Tryd.underlying109 rfl hk64 ?_))
  obtain ⟨B, hB⟩ : ∃ B : Nat, B = w1.heap.size := ⟨_, rfl⟩
  have hcsB : ((w1.alloc (.cells cs 109)).alloc (.cells st.arr 77)).heap[w1.heap.size]? = some (.cells cs 109 (0, 0)) := (MapKept.heap_alloc (w1.alloc (.cells cs 109)) (.cells st.arr 77)).2 _ (by simp) |>.trans (heap_alloc_last w1 _)
  have hstB : ((w1.alloc (.cells cs 109)).alloc (.cells st.arr 77)).heap[w1.heap.size + 1]? = some (.cells st.arr 77 (0, 0)) := by
    have := heap_alloc_last (w1.alloc (.cells cs 109)) (.cells st.arr 77)
    rwa [World.size_alloc] at this
  rw [← hB] at hlt1 hb3 hcsB hstB
  clear hset hlast hk hK3 hk64 hone h64 hz64
  rw [← hB]
  have HB := Lib.hid hB
  have HB1 := Lib.hid hb1
  have HR := Lib.hid hrow1
  have HC := Lib.hid hcs
  have HS := Lib.hid hsz
  clear hB hb1 hrow1 hcs hsz hb2 hrow2 hrow hK hK1
  go_loopw [17] (fun i wr => ∃ n : Nat, i = .int .i64 n ∧ n ≤ 64 ∧ wr.heap[B]? = some (.cells cs 109 (0, 0)) ∧ wr.heap[B + 1]? = some (.cells (st.runs (wordsL t.data.toList 48) n).arr 77 (0, 0)) ∧ Below B w1 wr) (fun i _ => 64 - (intOf i).toNat)
  case atStart => exact ⟨0, rfl, by omega, hcsB, hstB, hb3⟩
  case round =>
    clear hcsB hstB hb3
    obtain ⟨n, rfl, hn, h1, h2, hb3⟩ := hrel
    rcases Nat.lt_or_ge n 64 with hlt64 | hge
    · have k0 := idx64 kArr n _ (kArr_at n hlt64) hlt64
      have nlt : (n : Int) < 64 := by omega
      have s0 : wr.cell? ⟨B, n, none⟩ = some (.int .u32 ((wordsL t.data.toList 48).getD n 0)) := by
        have := HC.out n hlt64
        simp [World.cell?, h1, this]
      have hnext : (st.runs (wordsL t.data.toList 48) (n + 1)) = (st.runs (wordsL t.data.toList 48) n).rnd ((kAt n + (wordsL t.data.toList 48).getD n 0) % 4294967296) := rfl
      generalize st.runs (wordsL t.data.toList 48) n = s at *
      generalize (wordsL t.data.toList 48).getD n 0 = x at *
      generalize kAt n = y at *
      have Hn := Lib.hid hnext
      have H1 := Lib.hid h1
      have H2 := Lib.hid h2
      have hBs : B + 1 < wr.heap.size := (Array.getElem?_eq_some_iff.1 h2).1
      have c0 := cells8 h2 0 (by omega)
      have c1 := cells8 h2 1 (by omega)
      have c2 := cells8 h2 2 (by omega)
      have c3 := cells8 h2 3 (by omega)
      have c4 := cells8 h2 4 (by omega)
      have c5 := cells8 h2 5 (by omega)
      have c6 := cells8 h2 6 (by omega)
      have c7 := cells8 h2 7 (by omega)
      clear hnext h1 h2
      go_wp2_with fail
      go_region_with (go_at_call 75; go_must (refine (roundS s ((y + x) % 4294967296) _).mono ?_); rintro e w2 ⟨rfl, hb4⟩; have h2b := (hb4.block (B + 1) hBs).trans H2.out; have hst := store8 h2b (s.rnd ((y + x) % 4294967296)))
      all_goals
        have hbw : Below wr.heap.size wr w2 := ⟨hb4.os, hb4.tape, hb4.output, hb4.size, hb4.block⟩
        have hB0 : B < wr.heap.size := by omega
        have h1b := (hbw.block B hB0).trans H1.out
        have h1c := ((grown_row w2 (B + 1) (s.rnd ((y + x) % 4294967296)).arr).block B (by have := hbw.size; omega) (by simp)).trans h1b
        have hb5 : Below B w1 (w2.setRow (B + 1) (s.rnd ((y + x) % 4294967296)).arr) := (hb3.trans (hbw.mono (by omega))).grown (grown_row w2 (B + 1) _) (by have := hbw.size; omega) (fun k e => by cases e; exact Nat.le_succ _)
        go_wp2
        go_roundw
        case rel => exact ⟨n + 1, by go_num, by omega, h1c, by rw [Hn.out]; exact row_set h2b, hb5⟩
        case measure => simp [intOf]; omega
    · obtain rfl : n = 64 := by omega
      obtain ⟨r, hr⟩ : ∃ r, r = st.runs (wordsL t.data.toList 48) 64 := ⟨_, rfl⟩
      rw [← hr] at h2
      have hbh := (hb3.block hb hlt1).trans HR.out
      have hbw : Below w.heap.size w wr := HB1.out.trans (hb3.mono (by have := HB.out; have := HB1.out.size; omega))
      have Hr := Lib.hid hr
      have Hbw := Lib.hid hbw
      clear hr hbw h1 hb3
      go_wp2_with (refine wpList_load_row rfl 77 _ rfl (B + 1) rfl _ r.arr (0, 0) _ h2 Tryd.underlying77 rfl sizeArr ?_)
      generalize hwx : wr = wx at *
      clear hwx h2
      go_loopw [30] (fun i wr => ∃ m : Nat, i = .int .i64 m ∧ m ≤ 8 ∧ wr.heap[hb]? = some (.cells (st.part r m).arr 79 (0, 0)) ∧ w.grownBy wr (some hb)) (fun i _ => 8 - (intOf i).toNat)
      case atStart => exact ⟨0, rfl, by omega, hbh, below_row Hbw.out _⟩
      case round =>
        clear hbh
        obtain ⟨m, rfl, hm, h3, hg⟩ := hrel
        have H3 := Lib.hid h3
        rcases Nat.lt_or_ge m 8 with hlt8 | hge8
        · have x1 := idx8 r.arr m _ (arr_at r m hlt8) hlt8
          have x2 := cells8 h3 m hlt8
          have x3 := frozen8 h3 m
          have x4 : (m : Int) < 8 := by omega
          rw [part_at st r m hlt8] at x2
          clear h3
          go_wp2_with fail
          go_region
          go_wp2
          go_roundw
          case rel => exact ⟨m + 1, by go_num, by omega, part_next H3.out hlt8, grown_trans hg (grown_trans (grown_set wr ⟨hb, m, none⟩ _) ⟨rfl, rfl, rfl, Nat.le_refl _, fun _ _ _ => rfl⟩)⟩
          case measure => simp [intOf]; omega
        · obtain rfl : m = 8 := by omega
          go_wp2
          refine bodyPost_end (results_none rfl _ _ _) rfl ?_
          refine ⟨⟨_, rfl⟩, ?_, hg⟩
          rw [h3, Hr.out]; rfl
end Go.Proofs.YtiganhkmnklhlaaDoor
