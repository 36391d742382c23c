/-
  The contracts of the library's Builder's WriteString and WriteByte at this translation, with what they leave alone, laid by hand where the shelf tool does not lay them; nothing of ours is proved here.
-/
import Derived.Shelf.Strings.BuilderK
import Derived.Test.YtembapomapcdfaaDoorShelf
namespace Go.Proofs
open Go.Shelf Go.RowKit
def Tryd.lays166k_ren : Go.Shelf.Ren := ⟨fun | 166 => 75 | 240 => 88 | 276 => 91 | n => n, fun | 0 => 0 | 3 => 3 | 4 => 4 | 9 => 9 | 20 => 20 | 37 => 91 | 70 => 98 | 72 => 100 | 75 => 102 | 164 => 132 | 5 => 5 | 80 => 88 | n => n, fun | n => n⟩
theorem Tryd.lays166k : Go.Proofs.Lays.n166 Tryd.prog Tryd.lays166k_ren := {
  mixed := by kernel_rfl
  f166 := Tryd.func75.trans (congrArg some (by kernel_rfl))
  f240 := Tryd.func88.trans (congrArg some (by kernel_rfl))
  f276 := Tryd.func91.trans (congrArg some (by kernel_rfl))
  t0 := Tryd.underlying0
  a0 := Tryd.isAgg0
  z0 := Tryd.sizeOf0
  v0 := Tryd.zeroValue0
  t3 := Tryd.underlying3
  a3 := Tryd.isAgg3
  z3 := Tryd.sizeOf3
  v3 := Tryd.zeroValue3
  t4 := Tryd.underlying4
  a4 := Tryd.isAgg4
  z4 := Tryd.sizeOf4
  v4 := Tryd.zeroValue4
  t9 := Tryd.underlying9
  a9 := Tryd.isAgg9
  z9 := Tryd.sizeOf9
  v9 := Tryd.zeroValue9
  t20 := Tryd.underlying20
  a20 := Tryd.isAgg20
  z20 := Tryd.sizeOf20
  v20 := Tryd.zeroValue20
  t37 := Tryd.underlying91
  a37 := Tryd.isAgg91
  z37 := Tryd.sizeOf91
  v37 := Tryd.zeroValue91
  t70 := Tryd.underlying98
  a70 := Tryd.isAgg98
  z70 := Tryd.sizeOf98
  v70 := Tryd.zeroValue98
  t72 := Tryd.underlying100
  a72 := Tryd.isAgg100
  z72 := Tryd.sizeOf100
  v72 := Tryd.zeroValue100
  t75 := Tryd.underlying102
  a75 := Tryd.isAgg102
  z75 := Tryd.sizeOf102
  v75 := Tryd.zeroValue102
  t164 := Tryd.underlying132
  a164 := Tryd.isAgg132
  z164 := Tryd.sizeOf132
  v164 := Tryd.zeroValue132 }
theorem Tryd.Builder_Extra_166k : Builder.Extra Tryd.prog Tryd.lays166k_ren := {
  sizeBuilder := by kernel_rfl
  liesBuilder := by kernel_rfl
  t5 := Tryd.underlying5
  a5 := Tryd.isAgg5
  z5 := Tryd.sizeOf5
  v5 := Tryd.zeroValue5
  infoByte := by kernel_rfl
  cellsByte := by kernel_rfl
  sizeByte := by kernel_rfl
  neB5 := by decide }
theorem Tryd.Builder_WriteStringK (B b : Nat) (bs : List Value) (s : ByteArray) (w : World) (h : Lib.IsBuilderF 100 5 B b bs w) (hlen : bs.length + s.size ≤ 140737488355328) (hBw : B ≤ w.heap.size) :
    Calls Tryd.prog 75 #[.pointer (some ⟨b, 0, none⟩), .string s] w fun e w' => e = .returned (.tuple #[.int .i64 s.size, .nilIface]) ∧ (Lib.BuilderAtF 100 5 B b (.pointer (some ⟨b, 0, none⟩)) (bs ++ Lib.strCells s) w' ∧ Below B w w' ∧ Lib.OthersKept 5 (some b) w w') := Any.Builder_WriteString_k Tryd.lays166k Tryd.Builder_Extra_166k B b bs s w h hlen hBw
def Tryd.lays167k_ren : Go.Shelf.Ren := ⟨fun | 167 => 77 | 240 => 88 | 276 => 91 | n => n, fun | 0 => 0 | 3 => 3 | 4 => 4 | 9 => 9 | 20 => 20 | 37 => 91 | 70 => 98 | 72 => 100 | 75 => 102 | 164 => 132 | 5 => 5 | 80 => 88 | n => n, fun | n => n⟩
theorem Tryd.lays167k : Go.Proofs.Lays.n167 Tryd.prog Tryd.lays167k_ren := {
  mixed := by kernel_rfl
  f167 := Tryd.func77.trans (congrArg some (by kernel_rfl))
  f240 := Tryd.func88.trans (congrArg some (by kernel_rfl))
  f276 := Tryd.func91.trans (congrArg some (by kernel_rfl))
  t0 := Tryd.underlying0
  a0 := Tryd.isAgg0
  z0 := Tryd.sizeOf0
  v0 := Tryd.zeroValue0
  t4 := Tryd.underlying4
  a4 := Tryd.isAgg4
  z4 := Tryd.sizeOf4
  v4 := Tryd.zeroValue4
  t5 := Tryd.underlying5
  a5 := Tryd.isAgg5
  z5 := Tryd.sizeOf5
  v5 := Tryd.zeroValue5
  t9 := Tryd.underlying9
  a9 := Tryd.isAgg9
  z9 := Tryd.sizeOf9
  v9 := Tryd.zeroValue9
  t20 := Tryd.underlying20
  a20 := Tryd.isAgg20
  z20 := Tryd.sizeOf20
  v20 := Tryd.zeroValue20
  t37 := Tryd.underlying91
  a37 := Tryd.isAgg91
  z37 := Tryd.sizeOf91
  v37 := Tryd.zeroValue91
  t70 := Tryd.underlying98
  a70 := Tryd.isAgg98
  z70 := Tryd.sizeOf98
  v70 := Tryd.zeroValue98
  t72 := Tryd.underlying100
  a72 := Tryd.isAgg100
  z72 := Tryd.sizeOf100
  v72 := Tryd.zeroValue100
  t75 := Tryd.underlying102
  a75 := Tryd.isAgg102
  z75 := Tryd.sizeOf102
  v75 := Tryd.zeroValue102
  t164 := Tryd.underlying132
  a164 := Tryd.isAgg132
  z164 := Tryd.sizeOf132
  v164 := Tryd.zeroValue132 }
theorem Tryd.Builder_Extra_167k : Builder.Extra Tryd.prog Tryd.lays167k_ren := {
  sizeBuilder := by kernel_rfl
  liesBuilder := by kernel_rfl
  t5 := Tryd.underlying5
  a5 := Tryd.isAgg5
  z5 := Tryd.sizeOf5
  v5 := Tryd.zeroValue5
  infoByte := by kernel_rfl
  cellsByte := by kernel_rfl
  sizeByte := by kernel_rfl
  neB5 := by decide }
theorem Tryd.Builder_WriteByteK (B b : Nat) (bs : List Value) (c : Int) (w : World) (h : Lib.IsBuilderF 100 5 B b bs w) (hlen : bs.length + 1 ≤ 140737488355328) (hBw : B ≤ w.heap.size) :
    Calls Tryd.prog 77 #[.pointer (some ⟨b, 0, none⟩), .int .u8 c] w fun e w' => e = .returned .nilIface ∧ (Lib.BuilderAtF 100 5 B b (.pointer (some ⟨b, 0, none⟩)) (bs ++ [.int .u8 c]) w' ∧ Below B w w' ∧ Lib.OthersKept 5 (some b) w w') := Any.Builder_WriteByte_k Tryd.lays167k Tryd.Builder_Extra_167k B b bs c w h hlen hBw
/-- A builder stays where blocks stay. -/
theorem Tryd.bldF_kept {B b : Nat} {bs : List Value} {w w' : World} (h : Lib.IsBuilderF 100 5 B b bs w) (hb : Below w.heap.size w w') : Lib.IsBuilderF 100 5 B b bs w' := by
  have key : ∀ p, Lib.BuilderAtF 100 5 B b p bs w → Lib.BuilderAtF 100 5 B b p bs w' := by
    rintro p ⟨h1, v, h2, h3, h4⟩
    have hlt : b < w.heap.size := (Array.getElem?_eq_some_iff.1 h2).1
    exact ⟨h1, v, (hb.block b hlt).trans h2, h3.kept (row := none) ⟨hb.os, hb.tape, hb.output, hb.size, fun k hk _ => hb.block k hk⟩ (by cases v.ownBlock <;> simp), h4⟩
  exact h.elim (fun h => Or.inl (key _ h)) fun h => Or.inr (key _ h)
theorem Tryd.bldF_next {B b : Nat} {A A' : List UInt8} {t : ByteArray} {w : World} (h : Lib.BuilderAtF 100 5 B b (.pointer (some ⟨b, 0, none⟩)) (Lib.byteCells A ++ Lib.strCells t) w) (hA : Hid (A' = A ++ t.data.toList)) : Lib.IsBuilderF 100 5 B b (Lib.byteCells A') w := by
  rw [Lib.strCells_eq, ← Lib.byteCells_append, ← hA.out] at h
  exact Or.inr h
theorem Tryd.bldF_byte {B b : Nat} {A A' : List UInt8} {c : UInt8} {w : World} (h : Lib.BuilderAtF 100 5 B b (.pointer (some ⟨b, 0, none⟩)) (Lib.byteCells A ++ [.int .u8 c.toNat]) w) (hA : Hid (A' = A ++ [c])) : Lib.IsBuilderF 100 5 B b (Lib.byteCells A') w := by
  have e : [Value.int .u8 (c.toNat : Int)] = Lib.byteCells [c] := rfl
  rw [e, ← Lib.byteCells_append, ← hA.out] at h
  exact Or.inr h
theorem Tryd.fresh_bldF (w : World) : Lib.IsBuilderF 100 5 w.heap.size w.heap.size [] (w.alloc (.cells #[.pointer none, .slice none 0 0] 100)) :=
  (Lib.fresh_isBuilder 100 5 w).elim (fun h => Or.inl (Lib.BuilderAtF.of h)) fun h => Or.inr (Lib.BuilderAtF.of h)
/-- A block that is no row of bytes is kept by what writes into the builder. -/
theorem others_block {e : TypeId} {b k : Nat} {w w' : World} {cs : Array Value} {T : TypeId} {fz : Nat × Nat} (h : Lib.OthersKept e (some b) w w') (hk : w.heap[k]? = some (.cells cs T fz)) (hb : k ≠ b) (hT : T ≠ e) : w'.heap[k]? = some (.cells cs T fz) :=
  h k _ hk (fun e => hb (Option.some.inj e)) (fun c f e => hT (by injection e))
end Go.Proofs
