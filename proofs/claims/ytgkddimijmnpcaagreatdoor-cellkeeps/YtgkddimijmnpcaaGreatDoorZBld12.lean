/-
  strings.Builder in a block of its own type, by the library's contracts laid at this program's numbers: Grow, WriteByte, WriteString, String.
-/
import Derived.Test.YtgkddimijmnpcaaGreatDoorZPack1
import Derived.Shelf.Strings.Builder2
namespace Go.Proofs.YtgkddimijmnpcaaGreatDoor
open Go.RowKit Go.Shelf
set_option linter.unusedVariables false
set_option linter.unusedSimpArgs false

def bldRen : Go.Shelf.Ren := ⟨fun | 165 => 152 | 166 => 159 | 167 => 153 | 169 => 155 | 240 => 174 | 241 => 175 | 276 => 185 | 277 => 186 | n => n, fun | 0 => 0 | 3 => 3 | 4 => 4 | 5 => 5 | 9 => 9 | 20 => 20 | 37 => 63 | 70 => 162 | 72 => 164 | 75 => 167 | 80 => 170 | 127 => 175 | 164 => 197 | n => n, fun n => n⟩

set_option maxRecDepth 100000 in
theorem bld165 : Go.Proofs.Lays.n165 Tryz.prog bldRen := {
  mixed := by kernel_rfl
  f165 := Tryz.func152.trans (congrArg some (by kernel_rfl))
  f240 := Tryz.func174.trans (congrArg some (by kernel_rfl))
  f241 := Tryz.func175.trans (congrArg some (by kernel_rfl))
  f276 := Tryz.func185.trans (congrArg some (by kernel_rfl))
  f277 := Tryz.func186.trans (congrArg some (by kernel_rfl))
  t0 := Tryz.underlying0
  a0 := Tryz.isAgg0
  z0 := Tryz.sizeOf0
  v0 := Tryz.zeroValue0
  t3 := Tryz.underlying3
  a3 := Tryz.isAgg3
  z3 := Tryz.sizeOf3
  v3 := Tryz.zeroValue3
  t4 := Tryz.underlying4
  a4 := Tryz.isAgg4
  z4 := Tryz.sizeOf4
  v4 := Tryz.zeroValue4
  t9 := Tryz.underlying9
  a9 := Tryz.isAgg9
  z9 := Tryz.sizeOf9
  v9 := Tryz.zeroValue9
  t20 := Tryz.underlying20
  a20 := Tryz.isAgg20
  z20 := Tryz.sizeOf20
  v20 := Tryz.zeroValue20
  t37 := Tryz.underlying63
  a37 := Tryz.isAgg63
  z37 := Tryz.sizeOf63
  v37 := Tryz.zeroValue63
  t70 := Tryz.underlying162
  a70 := Tryz.isAgg162
  z70 := Tryz.sizeOf162
  v70 := Tryz.zeroValue162
  t72 := Tryz.underlying164
  a72 := Tryz.isAgg164
  z72 := Tryz.sizeOf164
  v72 := Tryz.zeroValue164
  t164 := Tryz.underlying197
  a164 := Tryz.isAgg197
  z164 := Tryz.sizeOf197
  v164 := Tryz.zeroValue197 }

set_option maxRecDepth 100000 in
theorem bld166 : Go.Proofs.Lays.n166 Tryz.prog bldRen := {
  mixed := by kernel_rfl
  f166 := Tryz.func159.trans (congrArg some (by kernel_rfl))
  f240 := Tryz.func174.trans (congrArg some (by kernel_rfl))
  f276 := Tryz.func185.trans (congrArg some (by kernel_rfl))
  t0 := Tryz.underlying0
  a0 := Tryz.isAgg0
  z0 := Tryz.sizeOf0
  v0 := Tryz.zeroValue0
  t3 := Tryz.underlying3
  a3 := Tryz.isAgg3
  z3 := Tryz.sizeOf3
  v3 := Tryz.zeroValue3
  t4 := Tryz.underlying4
  a4 := Tryz.isAgg4
  z4 := Tryz.sizeOf4
  v4 := Tryz.zeroValue4
  t9 := Tryz.underlying9
  a9 := Tryz.isAgg9
  z9 := Tryz.sizeOf9
  v9 := Tryz.zeroValue9
  t20 := Tryz.underlying20
  a20 := Tryz.isAgg20
  z20 := Tryz.sizeOf20
  v20 := Tryz.zeroValue20
  t37 := Tryz.underlying63
  a37 := Tryz.isAgg63
  z37 := Tryz.sizeOf63
  v37 := Tryz.zeroValue63
  t70 := Tryz.underlying162
  a70 := Tryz.isAgg162
  z70 := Tryz.sizeOf162
  v70 := Tryz.zeroValue162
  t72 := Tryz.underlying164
  a72 := Tryz.isAgg164
  z72 := Tryz.sizeOf164
  v72 := Tryz.zeroValue164
  t75 := Tryz.underlying167
  a75 := Tryz.isAgg167
  z75 := Tryz.sizeOf167
  v75 := Tryz.zeroValue167
  t164 := Tryz.underlying197
  a164 := Tryz.isAgg197
  z164 := Tryz.sizeOf197
  v164 := Tryz.zeroValue197 }

set_option maxRecDepth 100000 in
theorem bld167 : Go.Proofs.Lays.n167 Tryz.prog bldRen := {
  mixed := by kernel_rfl
  f167 := Tryz.func153.trans (congrArg some (by kernel_rfl))
  f240 := Tryz.func174.trans (congrArg some (by kernel_rfl))
  f276 := Tryz.func185.trans (congrArg some (by kernel_rfl))
  t0 := Tryz.underlying0
  a0 := Tryz.isAgg0
  z0 := Tryz.sizeOf0
  v0 := Tryz.zeroValue0
  t4 := Tryz.underlying4
  a4 := Tryz.isAgg4
  z4 := Tryz.sizeOf4
  v4 := Tryz.zeroValue4
  t5 := Tryz.underlying5
  a5 := Tryz.isAgg5
  z5 := Tryz.sizeOf5
  v5 := Tryz.zeroValue5
  t9 := Tryz.underlying9
  a9 := Tryz.isAgg9
  z9 := Tryz.sizeOf9
  v9 := Tryz.zeroValue9
  t20 := Tryz.underlying20
  a20 := Tryz.isAgg20
  z20 := Tryz.sizeOf20
  v20 := Tryz.zeroValue20
  t37 := Tryz.underlying63
  a37 := Tryz.isAgg63
  z37 := Tryz.sizeOf63
  v37 := Tryz.zeroValue63
  t70 := Tryz.underlying162
  a70 := Tryz.isAgg162
  z70 := Tryz.sizeOf162
  v70 := Tryz.zeroValue162
  t72 := Tryz.underlying164
  a72 := Tryz.isAgg164
  z72 := Tryz.sizeOf164
  v72 := Tryz.zeroValue164
  t75 := Tryz.underlying167
  a75 := Tryz.isAgg167
  z75 := Tryz.sizeOf167
  v75 := Tryz.zeroValue167
  t164 := Tryz.underlying197
  a164 := Tryz.isAgg197
  z164 := Tryz.sizeOf197
  v164 := Tryz.zeroValue197 }

set_option maxRecDepth 100000 in
theorem bld169 : Go.Proofs.Lays.n169 Tryz.prog bldRen := {
  mixed := by kernel_rfl
  f169 := Tryz.func155.trans (congrArg some (by kernel_rfl))
  t0 := Tryz.underlying0
  a0 := Tryz.isAgg0
  z0 := Tryz.sizeOf0
  v0 := Tryz.zeroValue0
  t3 := Tryz.underlying3
  a3 := Tryz.isAgg3
  z3 := Tryz.sizeOf3
  v3 := Tryz.zeroValue3
  t9 := Tryz.underlying9
  a9 := Tryz.isAgg9
  z9 := Tryz.sizeOf9
  v9 := Tryz.zeroValue9
  t37 := Tryz.underlying63
  a37 := Tryz.isAgg63
  z37 := Tryz.sizeOf63
  v37 := Tryz.zeroValue63
  t70 := Tryz.underlying162
  a70 := Tryz.isAgg162
  z70 := Tryz.sizeOf162
  v70 := Tryz.zeroValue162
  t72 := Tryz.underlying164
  a72 := Tryz.isAgg164
  z72 := Tryz.sizeOf164
  v72 := Tryz.zeroValue164
  t127 := Tryz.underlying175
  a127 := Tryz.isAgg175
  z127 := Tryz.sizeOf175
  v127 := Tryz.zeroValue175 }


theorem bldX : Go.Proofs.Builder.Extra Tryz.prog bldRen := {
  sizeBuilder := by kernel_rfl
  liesBuilder := by kernel_rfl
  t5 := Tryz.underlying5
  a5 := Tryz.isAgg5
  z5 := Tryz.sizeOf5
  v5 := Tryz.zeroValue5
  infoByte := by kernel_rfl
  cellsByte := by kernel_rfl
  sizeByte := by kernel_rfl
  neB5 := by decide }

/-- Block b is a builder of the bytes l. -/
def Bd (b : Nat) (l : List UInt8) (w : World) : Prop := Lib.IsBuilder 164 5 b b (Lib.byteCells l) w
abbrev bdP (b : Nat) : Value := .pointer (some ⟨b, 0, none⟩)
theorem bd_new {w : World} {b : Nat} (hb : w.heap.size = b) : Bd b [] (w.alloc (.cells #[.pointer none, .slice none 0 0] 164)) := by
  subst hb
  exact Lib.fresh_isBuilder _ _ w
theorem bd_at_later {T e : TypeId} {B b : Nat} {p : Value} {bs : List Value} {w w' : World} (h : Lib.BuilderAt T e B b p bs w) (hb : Below w.heap.size w w') : Lib.BuilderAt T e B b p bs w' := by
  have hlt := h.lt
  obtain ⟨hB, v, hk, ho, hn⟩ := h
  exact ⟨hB, v, (hb.block b hlt).trans hk, own_later ho hb, hn⟩
theorem Bd.size {b : Nat} {l : List UInt8} {w : World} (h : Bd b l w) : b < w.heap.size := by
  rcases h with h | h
  · exact h.lt
  · exact h.lt
theorem Bd.later {b : Nat} {l : List UInt8} {w w' : World} (h : Bd b l w) (hb : Below w.heap.size w w') : Bd b l w' := by
  rcases h with h | h
  · exact Or.inl (bd_at_later h hb)
  · exact Or.inr (bd_at_later h hb)
theorem bgrow_any (b n : Nat) (w : World) (hb : w.heap.size = b) (hn : n ≤ 281474976710656) :
    Calls Tryz.prog 152 #[bdP b, .int .i64 n] (w.alloc (.cells #[.pointer none, .slice none 0 0] 164)) fun e w' => e = .returned (.tuple #[]) ∧ Bd b [] w' ∧ Below b w w' := by
  subst hb
  refine (Any.Builder_Grow_fresh bld165 bldX w.heap.size w.heap.size n _ (Nat.le_refl _) (heap_alloc_new _ _) (by simp) hn).mono ?_
  rintro e w1 ⟨rfl, h, b1⟩
  exact ⟨rfl, Or.inr h, ((Below.refl _ _).alloc (Nat.le_refl _) _).trans b1⟩
theorem bbyte_any (b : Nat) (l : List UInt8) (c : UInt8) (w : World) (h : Bd b l w) (hl : l.length + 1 ≤ 140737488355328) :
    Calls Tryz.prog 153 #[bdP b, .int .u8 (c.toNat : Int)] w fun e w' => e = .returned .nilIface ∧ Bd b (l ++ [c]) w' ∧ Below b w w' := by
  refine (Any.Builder_WriteByte bld167 bldX b b (Lib.byteCells l) (c.toNat : Int) w h (by simpa [Lib.byteCells] using hl) (Nat.le_of_lt h.size)).mono ?_
  rintro e w1 ⟨rfl, h1, b1⟩
  have h2 : Lib.BuilderAt (bldRen.t 72) (bldRen.t 5) b b (bdP b) (Lib.byteCells (l ++ [c])) w1 := by simpa [Lib.byteCells] using h1
  exact ⟨rfl, Or.inr h2, b1⟩
theorem bstring_any (b : Nat) (l : List UInt8) (s : ByteArray) (w : World) (h : Bd b l w) (hl : l.length + s.size ≤ 140737488355328) :
    Calls Tryz.prog 159 #[bdP b, .string s] w fun e w' => e = .returned (.tuple #[.int .i64 s.size, .nilIface]) ∧ Bd b (l ++ s.data.toList) w' ∧ Below b w w' := by
  refine (Any.Builder_WriteString bld166 bldX b b (Lib.byteCells l) s w h (by simpa [Lib.byteCells] using hl) (Nat.le_of_lt h.size)).mono ?_
  rintro e w1 ⟨rfl, h1, b1⟩
  have h2 : Lib.BuilderAt (bldRen.t 72) (bldRen.t 5) b b (bdP b) (Lib.byteCells (l ++ s.data.toList)) w1 := by simpa [Lib.byteCells, Lib.strCells] using h1
  exact ⟨rfl, Or.inr h2, b1⟩
theorem btext_any (b : Nat) (l : List UInt8) (w : World) (h : Bd b l w) :
    Calls Tryz.prog 155 #[bdP b] w fun e w' => e = .returned (.string ⟨l.toArray⟩) ∧ Below b w w' := by
  refine (Any.Builder_String_any bld169 bldX b b l w h (Nat.le_of_lt h.size)).mono ?_
  rintro e w1 ⟨rfl, b1⟩
  exact ⟨rfl, b1⟩

end Go.Proofs.YtgkddimijmnpcaaGreatDoor

