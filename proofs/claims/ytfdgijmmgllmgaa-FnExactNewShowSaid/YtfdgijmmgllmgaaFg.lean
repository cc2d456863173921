/-
  The draw of a point.
-/
import Derived.Test.YtfdgijmmgllmgaaFe
namespace Go.Proofs.Ytfdgijmmgllmgaa
open Go.ChangeShapes Go.WideShapes Go.ChangeAt Go.RowKit Go.Joins
set_option linter.unusedSimpArgs false
set_option linter.unusedVariables false
set_option maxRecDepth 100000
attribute [local go_sem] store_f
open Ieee

theorem run_negf (P : Program) (w : World) (k : FloatKind) (b : Nat) : (Op.unary .neg (.float k b)).run P w = .ok (.float k (Op.negFloat k b)) w := rfl
theorem neg_word (x : Nat) : Op.negFloat .f32 x = x ^^^ 2 ^ 31 := rfl
theorem ok_neg {x : Nat} (h : okB x = true) : okB (Op.negFloat .f32 x) = true := by
  rw [neg_word]
  simp only [okB, Bool.and_eq_true, decide_eq_true_eq] at h ⊢
  have e : (x ^^^ 2 ^ 31) % 2147483648 = x % 2147483648 := by
    have := Nat.xor_mod_two_pow (a := x) (b := 2 ^ 31) (n := 31)
    simpa using this
  refine ⟨?_, by rw [e]; exact h.2⟩
  have := Nat.xor_lt_two_pow (x := x) (y := 2 ^ 31) (n := 32) (by omega) (by omega)
  simpa using this

structure PointDrawn (B q : Nat) (w : World) (e : Ending) (w' : World) (x y : Nat) : Prop where
  ret : e = .returned (.complex .f32 x y)
  okx : okB x = true
  oky : okB y = true
  cur : Cur B w' q
  grown : w.grownBy w' (some q)

/-- What the draw of a kind and a point gives. -/
structure PlaceDrawn (w : World) (e : Ending) (w' : World) (k : Nat) (x y : Nat) : Prop where
  ret : e = .returned (.tuple #[.int .i64 k, .complex .f32 x y])
  lt : k < 4
  okx : okB x = true
  oky : okB y = true
  below : Below w.heap.size w w'

end Go.Proofs.Ytfdgijmmgllmgaa
