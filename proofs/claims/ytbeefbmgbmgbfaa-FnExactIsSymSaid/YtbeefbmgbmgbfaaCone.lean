/-
  Contracts of the small functions on symmetries: what each call gives, and that nothing that was there is written.
-/
import Derived.Test.YtbeefbmgbmgbfaaOpen
namespace Go.Proofs.Ytbeefbmgbmgbfaa
open Go.ChangeShapes Go.WideShapes Go.ChangeAt Go.RowKit Go.Joins

/-- A symmetry as a value. -/
def symV (t : Int) (f : Bool) : Value := .agg #[.int .i64 t, .bool f]

/-- Is the number of turns one of a symmetry? -/
def isSymB (t : Int) : Bool := decide (0 ≤ t) && decide (t < 4)

theorem isSymB_yes {t : Int} (h : 0 ≤ t) (h' : t < 4) : isSymB t = true := by simp [isSymB, h, h']
theorem isSymB_neg {t : Int} (h : t < 0) : isSymB t = false := by simp [isSymB]; omega
theorem isSymB_big {t : Int} (h : 4 ≤ t) : isSymB t = false := by simp [isSymB]; omega

theorem bcell {B : Nat} {W w1 : World} (hb : Below B W w1) : (∀ b o, b < B → w1.cell? ⟨b, o, Option.none⟩ = W.cell? ⟨b, o, Option.none⟩) ∧ (∀ b o, b < B → w1.frozen? ⟨b, o, Option.none⟩ = W.frozen? ⟨b, o, Option.none⟩) :=
  ⟨fun b o h => hb.cell (p := ⟨b, o, Option.none⟩) h, fun b o h => hb.frozen (p := ⟨b, o, Option.none⟩) h⟩

theorem toSym_any (t : Int) (f : Bool) (w : World) :
    Calls Try.prog 31 #[.agg #[.int .i64 t, .bool f]] w fun e w' => e = .returned (.agg #[.int .i64 t, .bool f]) ∧ Below w.heap.size w w' := by
  go_enter Try.func31, Try.ntmps31
  go_wp2
  go_returns
  exact ⟨rfl, by go_grown⟩

theorem isSym_i (t : Int) (f : Bool) (w : World) :
    Calls Try.prog 23 #[.agg #[.int .i64 t, .bool f]] w fun e w' => e = .returned (.bool (isSymB t)) ∧ Below w.heap.size w w' := by
  rcases (by omega : t < 0 ∨ (0 ≤ t ∧ t < 4) ∨ (0 ≤ t ∧ 4 ≤ t)) with h | ⟨h, h'⟩ | ⟨h, h'⟩
  · rw [isSymB_neg h]
    go_enter Try.func23, Try.ntmps23
    go_wp2
    go_returns
    exact ⟨rfl, by go_grown⟩
  · rw [isSymB_yes h h']
    go_enter Try.func23, Try.ntmps23
    go_wp2
    go_returns
    exact ⟨rfl, by go_grown⟩
  · rw [isSymB_big h']
    have h2 : decide (t < 4) = false := by simp; omega
    go_enter Try.func23, Try.ntmps23
    go_wp2
    go_returns
    exact ⟨rfl, by go_grown⟩

theorem isSym_s (t : Int) (f : Bool) (w : World) :
    Calls Try.prog 30 #[.agg #[.int .i64 t, .bool f]] w fun e w' => e = .returned (.bool (isSymB t)) ∧ Below w.heap.size w w' := by
  rcases (by omega : t < 0 ∨ (0 ≤ t ∧ t ≤ 3) ∨ (0 ≤ t ∧ 4 ≤ t)) with h | ⟨h, h'⟩ | ⟨h, h'⟩
  · rw [isSymB_neg h]
    go_enter Try.func30, Try.ntmps30
    go_wp2
    go_returns
    exact ⟨rfl, by go_grown⟩
  · rw [isSymB_yes h (by omega)]
    go_enter Try.func30, Try.ntmps30
    go_wp2
    go_returns
    exact ⟨rfl, by go_grown⟩
  · rw [isSymB_big h']
    have h2 : decide (t ≤ 3) = false := by simp; omega
    go_enter Try.func30, Try.ntmps30
    go_wp2
    go_returns
    exact ⟨rfl, by go_grown⟩
end Go.Proofs.Ytbeefbmgbmgbfaa
