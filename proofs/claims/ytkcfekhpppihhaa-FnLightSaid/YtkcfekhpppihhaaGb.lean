/-
  Shards as they lie in memory; which points and shards are valid.
-/
import Derived.Test.YtkcfekhpppihhaaGa
import Derived.Test.YtkcfekhpppihhaaCd
import Derived.Test.YtkcfekhpppihhaaLall
namespace Go.Proofs.Ytkcfekhpppihhaa
open Go.ChangeShapes Go.WideShapes Go.ChangeAt Go.RowKit Go.Joins
set_option linter.unusedSimpArgs false
set_option linter.unusedVariables false
set_option maxRecDepth 100000
attribute [local go_sem] store_f
open Ieee

/-- A shard: the parts of its corners, its glass. -/
structure Shd where
  a1 : Nat
  a2 : Nat
  b1 : Nat
  b2 : Nat
  c1 : Nat
  c2 : Nat
  r : Nat
  g : Nat
  b : Nat
  k : Nat
instance : Inhabited Shd := ⟨⟨0, 0, 0, 0, 0, 0, 0, 0, 0, 0⟩⟩
def Shd.cells (s : Shd) : List Value := [.complex .f32 s.a1 s.a2, .complex .f32 s.b1 s.b2, .complex .f32 s.c1 s.c2, .float .f32 s.r, .float .f32 s.g, .float .f32 s.b, .float .f32 s.k]
def shCells (l : List Shd) : List Value := l.flatMap Shd.cells
theorem shCells_len (l : List Shd) : (shCells l).length = l.length * 7 := by
  induction l with
  | nil => rfl
  | cons p l ih => simp [shCells, Shd.cells] at ih ⊢; omega
theorem shCells_snoc (l : List Shd) (s : Shd) : shCells (l ++ [s]) = shCells l ++ s.cells := by simp [shCells]

/-- The cells of a list of shards, from a place of a block on. -/
def ShRow (W : World) (b off : Nat) (l : List Shd) : Prop :=
  ∀ k, k < l.length → W.cell? ⟨b, (off + k * 7), Option.none⟩ = some (.complex .f32 (l.getD k default).a1 (l.getD k default).a2) ∧ W.cell? ⟨b, (off + k * 7) + 1, Option.none⟩ = some (.complex .f32 (l.getD k default).b1 (l.getD k default).b2) ∧ W.cell? ⟨b, (off + k * 7) + 2, Option.none⟩ = some (.complex .f32 (l.getD k default).c1 (l.getD k default).c2) ∧ W.cell? ⟨b, (off + k * 7) + 3, Option.none⟩ = some (.float .f32 (l.getD k default).r) ∧ W.cell? ⟨b, (off + k * 7) + 4, Option.none⟩ = some (.float .f32 (l.getD k default).g) ∧ W.cell? ⟨b, (off + k * 7) + 5, Option.none⟩ = some (.float .f32 (l.getD k default).b) ∧ W.cell? ⟨b, (off + k * 7) + 6, Option.none⟩ = some (.float .f32 (l.getD k default).k)
/-- A list of shards as a slice shows it. -/
def RowAt (W : World) (a : Option Addr) (l : List Shd) : Prop :=
  l = [] ∨ ∃ b off, a = some ⟨b, off, Option.none⟩ ∧ ShRow W b off l

theorem ShRow.below {W w1 : World} {b off : Nat} {l : List Shd} (h : ShRow W b off l) (hb : Below W.heap.size W w1) : ShRow w1 b off l := fun k hk => by
  obtain ⟨h0, h1, h2, h3, h4, h5, h6⟩ := h k hk
  exact ⟨cBelow hb h0, cBelow hb h1, cBelow hb h2, cBelow hb h3, cBelow hb h4, cBelow hb h5, cBelow hb h6⟩
theorem ShRow.grown {W w1 : World} {b off : Nat} {l : List Shd} {r : Option Nat} (h : ShRow W b off l) (hg : W.grownBy w1 r) (hne : r ≠ some b) : ShRow w1 b off l := fun k hk => by
  obtain ⟨h0, h1, h2, h3, h4, h5, h6⟩ := h k hk
  have hl := cell_lt h0
  have e : ∀ i, w1.cell? ⟨b, i, Option.none⟩ = W.cell? ⟨b, i, Option.none⟩ := fun i => World.cell?_of_block (hg.block b hl (fun e => hne e.symm))
  rw [e, e, e, e, e, e, e]
  exact ⟨h0, h1, h2, h3, h4, h5, h6⟩
theorem ShRow.set {W : World} {b off : Nat} {a : Addr} {v : Value} {l : List Shd} (h : ShRow W b off l) (hne : b ≠ a.block) : ShRow (W.setCell a v) b off l := fun k hk => by
  obtain ⟨h0, h1, h2, h3, h4, h5, h6⟩ := h k hk
  exact ⟨cSet hne h0, cSet hne h1, cSet hne h2, cSet hne h3, cSet hne h4, cSet hne h5, cSet hne h6⟩
theorem RowAt.below {W w1 : World} {a : Option Addr} {l : List Shd} (h : RowAt W a l) (hb : Below W.heap.size W w1) : RowAt w1 a l := by
  rcases h with h | ⟨b, off, e, h⟩
  · exact .inl h
  · exact .inr ⟨b, off, e, h.below hb⟩

theorem shCells_get : ∀ (l : List Shd) (k : Nat), k < l.length → ∀ j, j < 7 → (shCells l)[k * 7 + j]? = (l.getD k default).cells[j]?
  | p :: l, 0, _, j, hj => by
    have e : shCells (p :: l) = p.cells ++ shCells l := rfl
    rw [e, Nat.zero_mul, Nat.zero_add, List.getElem?_append_left (by simp [Shd.cells]; omega)]
    rfl
  | p :: l, k + 1, h, j, hj => by
    have ih := shCells_get l k (by simpa using h) j hj
    have e : shCells (p :: l) = p.cells ++ shCells l := rfl
    have hl : p.cells.length = 7 := rfl
    rw [e, List.getElem?_append_right (by omega), hl, show (k + 1) * 7 + j - 7 = k * 7 + j by omega, ih]
    rfl
theorem shRow_of {W : World} {base g n cap : Nat} {l : List Shd} (h : W.ownsRow base 37 7 (.slice (some ⟨g, 0, Option.none⟩) n cap) n (shCells l)) (hn : l.length = n) : ShRow W g 0 l := fun k hk => by
  have hg := shCells_get l k hk
  simp only [Nat.zero_add]
  rw [h.cellAt _ (by omega), h.cellAt _ (by omega), h.cellAt _ (by omega), h.cellAt _ (by omega), h.cellAt _ (by omega), h.cellAt _ (by omega), h.cellAt _ (by omega)]
  exact ⟨hg 0 (by omega), hg 1 (by omega), hg 2 (by omega), hg 3 (by omega), hg 4 (by omega), hg 5 (by omega), hg 6 (by omega)⟩
theorem ShRow.left {W : World} {b off : Nat} {l : List Shd} (h : ShRow W b off l) (n : Nat) : ShRow W b off (l.take n) := fun k hk => by
  have h1 : k < l.length := by simp at hk; omega
  have h2 : k < n := by simp at hk; omega
  have e : (l.take n).getD k default = l.getD k default := by simp [List.getD, h2]
  rw [e]; exact h k h1
theorem ShRow.right {W : World} {b off : Nat} {l : List Shd} (h : ShRow W b off l) (n : Nat) : ShRow W b (off + n * 7) (l.drop n) := fun k hk => by
  have h1 : n + k < l.length := by simp at hk; omega
  have e : (l.drop n).getD k default = l.getD (n + k) default := by simp [List.getD]
  have e2 : off + n * 7 + k * 7 = off + (n + k) * 7 := by omega
  rw [e, e2]; exact h (n + k) h1

/-- Is it a point? -/
def ptB (x y : Nat) : Bool := inB x && inB y
def shardB (s : Shd) : Bool := ptB s.a1 s.a2 && ptB s.b1 s.b2 && ptB s.c1 s.c2 && colB s.r s.g s.b && shareB s.k
/-- A shard of 32-bit words that is valid. -/
structure Shd.Ok (s : Shd) : Prop where
  a1 : Rch s.a1
  a2 : Rch s.a2
  b1 : Rch s.b1
  b2 : Rch s.b2
  c1 : Rch s.c1
  c2 : Rch s.c2
  r : Part s.r
  g : Part s.g
  b : Part s.b
  k : Part s.k
theorem parts_col {r g b : Nat} (hr : Part r) (hg : Part g) (hb : Part b) : colB r g b = true := by
  unfold colB; rw [part_share hr, part_share hg, part_share hb]; rfl
theorem Shd.Ok.yes {s : Shd} (h : s.Ok) : shardB s = true := by
  unfold shardB ptB
  rw [h.a1.inb, h.a2.inb, h.b1.inb, h.b2.inb, h.c1.inb, h.c2.inb, parts_col h.r h.g h.b, part_share h.k]; rfl

structure PtIs (x y : Nat) (p : Bool) : Prop where
  call : ∀ w : World, Calls Try.prog 17 #[.complex .f32 x y] w fun e w' => e = .returned (.bool p) ∧ w' = w
theorem ptIs (x y : Nat) : PtIs x y (ptB x y) := ⟨fun w => by
  unfold ptB
  cases hx : inB x
  all_goals
    go_enter Try.func17, Try.ntmps17
    go_wp2_with (go_at_call 45; refine (inReach_i _ _).mono ?_; rintro e w1 ⟨rfl, rfl⟩)
    all_goals (go_ret; exact ⟨by simp_all, rfl⟩)⟩

theorem cornersOf_i (s : Shd) (w : World) :
    Calls Try.prog 38 #[.agg #[.complex .f32 s.a1 s.a2, .complex .f32 s.b1 s.b2, .complex .f32 s.c1 s.c2, .float .f32 s.r, .float .f32 s.g, .float .f32 s.b, .float .f32 s.k]] w fun e w' => e = .returned (.slice (some ⟨w.heap.size + 1, 0, Option.none⟩) 3 3) ∧ Blk w' (w.heap.size + 1) #[.complex .f32 s.a1 s.a2, .complex .f32 s.b1 s.b2, .complex .f32 s.c1 s.c2] 25 ∧ Below w.heap.size w w' := by
  go_enter Try.func38, Try.ntmps38
  go_wp2
  go_returns
  exact ⟨by first | rfl | (simp; done), Blk.newAt (by simp), by (repeat' (first | (with_reducible exact Below.refl _ _) | (with_reducible assumption) | (with_reducible refine Below.alloc ?_ ?_ _) | (with_reducible refine Below.drew ?_) | (with_reducible refine Below.setCell ?_ ?_ _) | (with_reducible refine Below.trans ?_ (Below.mono (by assumption) ?_)) | (with_reducible exact Nat.le_refl _) | omega | (simp only [World.size_alloc, World.size_setCell, World.size_drew]; omega) | (simp; omega) | (simp; done)))⟩
end Go.Proofs.Ytkcfekhpppihhaa
