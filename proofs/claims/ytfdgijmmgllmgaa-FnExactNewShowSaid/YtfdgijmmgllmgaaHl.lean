/-
  Colours as they lie in memory.
-/
import Derived.Test.YtfdgijmmgllmgaaGrow
import Derived.Test.YtfdgijmmgllmgaaFa
import Derived.Test.YtfdgijmmgllmgaaLall
namespace Go.Proofs.Ytfdgijmmgllmgaa
open Go.ChangeShapes Go.WideShapes Go.ChangeAt Go.RowKit Go.Joins
set_option linter.unusedSimpArgs false
set_option linter.unusedVariables false
set_option maxRecDepth 100000
attribute [local go_sem] store_f

/-- Light: a colour of parts. -/
structure Lit where
  r : Nat
  g : Nat
  b : Nat
instance : Inhabited Lit := ⟨⟨0, 0, 0⟩⟩
structure Lit.Ok (c : Lit) : Prop where
  r : c.r ≤ 1065353216
  g : c.g ≤ 1065353216
  b : c.b ≤ 1065353216
def Lit.cells (c : Lit) : List Value := [.float .f32 c.r, .float .f32 c.g, .float .f32 c.b]
def litCells (l : List Lit) : List Value := l.flatMap Lit.cells
theorem litCells_len (l : List Lit) : (litCells l).length = l.length * 3 := by
  induction l with
  | nil => rfl
  | cons p l ih => simp [litCells, Lit.cells] at ih ⊢; omega
theorem litCells_snoc (l : List Lit) (s : Lit) : litCells (l ++ [s]) = litCells l ++ s.cells := by simp [litCells]

/-- The cells of a list of colours, from a place of a block on. -/
def LitRow (W : World) (b off : Nat) (l : List Lit) : Prop :=
  ∀ k, k < l.length → W.cell? ⟨b, (off + k * 3), Option.none⟩ = some (.float .f32 (l.getD k default).r) ∧ W.cell? ⟨b, (off + k * 3) + 1, Option.none⟩ = some (.float .f32 (l.getD k default).g) ∧ W.cell? ⟨b, (off + k * 3) + 2, Option.none⟩ = some (.float .f32 (l.getD k default).b)
/-- A list of colours as a slice shows it. -/
def LitsAt (W : World) (a : Option Addr) (l : List Lit) : Prop :=
  l = [] ∨ ∃ b off, a = some ⟨b, off, Option.none⟩ ∧ LitRow W b off l

theorem LitRow.below {W w1 : World} {b off : Nat} {l : List Lit} (h : LitRow W b off l) (hb : Below W.heap.size W w1) : LitRow w1 b off l := fun k hk => by
  obtain ⟨h0, h1, h2⟩ := h k hk
  exact ⟨cBelow hb h0, cBelow hb h1, cBelow hb h2⟩
theorem LitRow.grown {W w1 : World} {b off : Nat} {l : List Lit} {r : Option Nat} (h : LitRow W b off l) (hg : W.grownBy w1 r) (hne : r ≠ some b) : LitRow w1 b off l := fun k hk => by
  obtain ⟨h0, h1, h2⟩ := h k hk
  have hl := cell_lt h0
  have e : ∀ i, w1.cell? ⟨b, i, Option.none⟩ = W.cell? ⟨b, i, Option.none⟩ := fun i => World.cell?_of_block (hg.block b hl (fun e => hne e.symm))
  rw [e, e, e]
  exact ⟨h0, h1, h2⟩
theorem LitRow.set {W : World} {b off : Nat} {a : Addr} {v : Value} {l : List Lit} (h : LitRow W b off l) (hne : b ≠ a.block) : LitRow (W.setCell a v) b off l := fun k hk => by
  obtain ⟨h0, h1, h2⟩ := h k hk
  exact ⟨cSet hne h0, cSet hne h1, cSet hne h2⟩
theorem LitRow.alloc {W : World} {b off : Nat} {o : Obj} {l : List Lit} (h : LitRow W b off l) : LitRow (W.alloc o) b off l := fun k hk => by
  obtain ⟨h0, h1, h2⟩ := h k hk
  exact ⟨cAlloc h0, cAlloc h1, cAlloc h2⟩
theorem LitRow.drew {W : World} {b off : Nat} {l : List Lit} (h : LitRow W b off l) : LitRow W.drew b off l := h
theorem LitsAt.below {W w1 : World} {a : Option Addr} {l : List Lit} (h : LitsAt W a l) (hb : Below W.heap.size W w1) : LitsAt w1 a l := by
  rcases h with h | ⟨b, off, e, h⟩
  · exact .inl h
  · exact .inr ⟨b, off, e, h.below hb⟩
theorem LitsAt.alloc {W : World} {a : Option Addr} {o : Obj} {l : List Lit} (h : LitsAt W a l) : LitsAt (W.alloc o) a l := by
  rcases h with h | ⟨b, off, e, h⟩
  · exact .inl h
  · exact .inr ⟨b, off, e, h.alloc⟩
theorem LitsAt.drew {W : World} {a : Option Addr} {l : List Lit} (h : LitsAt W a l) : LitsAt W.drew a l := h

theorem litCells_get : ∀ (l : List Lit) (k : Nat), k < l.length → ∀ j, j < 3 → (litCells l)[k * 3 + j]? = (l.getD k default).cells[j]?
  | p :: l, 0, _, j, hj => by
    have e : litCells (p :: l) = p.cells ++ litCells l := rfl
    rw [e, Nat.zero_mul, Nat.zero_add, List.getElem?_append_left (by simp [Lit.cells]; omega)]
    rfl
  | p :: l, k + 1, h, j, hj => by
    have ih := litCells_get l k (by simpa using h) j hj
    have e : litCells (p :: l) = p.cells ++ litCells l := rfl
    have hl : p.cells.length = 3 := rfl
    rw [e, List.getElem?_append_right (by omega), hl, show (k + 1) * 3 + j - 3 = k * 3 + j by omega, ih]
    rfl
theorem litRow_of {W : World} {base g n cap : Nat} {l : List Lit} (h : W.ownsRow base 47 3 (.slice (some ⟨g, 0, Option.none⟩) n cap) n (litCells l)) (hn : l.length = n) : LitRow W g 0 l := fun k hk => by
  have hg := litCells_get l k hk
  simp only [Nat.zero_add]
  rw [h.cellAt _ (by omega), h.cellAt _ (by omega), h.cellAt _ (by omega)]
  exact ⟨hg 0 (by omega), hg 1 (by omega), hg 2 (by omega)⟩
theorem infoC : (Try.prog.info? 47).map (fun i => (i.zero, i.size, i.bytes)) = some (some (.agg #[.float .f32 0, .float .f32 0, .float .f32 0]), 3, 12) := by kernel_rfl
end Go.Proofs.Ytfdgijmmgllmgaa
