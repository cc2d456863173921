/-
  A list of symmetries as it lies in memory.
-/
import Derived.Test.YtlnikapkheldeaaStwo
namespace Go.Proofs.Ytlnikapkheldeaa
open Go.ChangeShapes Go.WideShapes Go.ChangeAt Go.RowKit Go.Joins 
set_option linter.unusedSimpArgs false
set_option linter.unusedVariables false
/-- The cells of a list of symmetries, from a block's head on. -/
def SymRow (W : World) (g : Nat) (l : List (Int × Bool)) : Prop :=
  ∀ k, k < l.length → W.cell? ⟨g, k * 2, Option.none⟩ = some (.int .i64 (l.getD k (0, false)).1) ∧ W.cell? ⟨g, k * 2 + 1, Option.none⟩ = some (.bool (l.getD k (0, false)).2)

theorem symCells_get : ∀ (l : List (Int × Bool)) (k : Nat), k < l.length → (symCells l)[k * 2]? = some (.int .i64 (l.getD k (0, false)).1) ∧ (symCells l)[k * 2 + 1]? = some (.bool (l.getD k (0, false)).2)
  | p :: l, 0, _ => ⟨rfl, rfl⟩
  | p :: l, k + 1, h => by
    have ih := symCells_get l k (by simpa using h)
    have e : symCells (p :: l) = .int .i64 p.1 :: .bool p.2 :: symCells l := rfl
    rw [e, show (k + 1) * 2 = k * 2 + 1 + 1 by omega]
    simpa using ih

theorem symRow_of {W : World} {base g n cap : Nat} {l : List (Int × Bool)} (h : W.ownsRow base 25 2 (.slice (some ⟨g, 0, Option.none⟩) n cap) n (symCells l)) (hn : l.length = n) : SymRow W g l := fun k hk => by
  have hg := symCells_get l k hk
  rw [h.cellAt _ (by omega), h.cellAt _ (by omega)]
  exact hg

theorem SymRow.below {W w1 : World} {g : Nat} {l : List (Int × Bool)} (h : SymRow W g l) (hb : Below W.heap.size W w1) : SymRow w1 g l :=
  fun k hk => ⟨cBelow hb (h k hk).1, cBelow hb (h k hk).2⟩

theorem SymRow.set {W : World} {g : Nat} {a : Addr} {v : Value} {l : List (Int × Bool)} (h : SymRow W g l) (hne : g ≠ a.block) : SymRow (W.setCell a v) g l :=
  fun k hk => ⟨cSet hne (h k hk).1, cSet hne (h k hk).2⟩
theorem SymRow.alloc {W : World} {g : Nat} {o : Obj} {l : List (Int × Bool)} (h : SymRow W g l) : SymRow (W.alloc o) g l :=
  fun k hk => ⟨cAlloc (h k hk).1, cAlloc (h k hk).2⟩

end Go.Proofs.Ytlnikapkheldeaa
