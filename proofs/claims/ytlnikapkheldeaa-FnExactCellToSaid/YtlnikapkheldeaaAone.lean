/-
  A symmetry as the law's own type.
-/
import Derived.Test.YtlnikapkheldeaaOpen
import Derived.Test.YtlnikapkheldeaaAtwo
namespace Go.Proofs.Ytlnikapkheldeaa
open Go.ChangeShapes Go.WideShapes Go.ChangeAt Go.RowKit Go.Joins 
set_option linter.unusedSimpArgs false
set_option linter.unusedVariables false

theorem toSym_any (t : Int) (f : Bool) (w : World) :
    Calls Try.prog 50 #[.agg #[.int .i64 t, .bool f]] w fun e w' => e = .returned (.agg #[.int .i64 t, .bool f]) ∧ Below w.heap.size w w' := by
  go_enter Try.func50, Try.ntmps50
  go_wp2
  go_returns
  exact ⟨rfl, by go_grown⟩

end Go.Proofs.Ytlnikapkheldeaa
