/-
  Contract of the model's ThenSym.
-/
import Derived.Test.YtlnikapkheldeaaCone
namespace Go.Proofs.Ytlnikapkheldeaa
open Go.ChangeShapes Go.WideShapes Go.ChangeAt Go.RowKit Go.Joins 
set_option linter.unusedSimpArgs false
set_option linter.unusedVariables false
end Go.Proofs.Ytlnikapkheldeaa
