/-
  Contracts of the program's ThenSym and BackSym: what each call gives, and that nothing that was there is written.
-/
import Derived.Test.YtfdgijmmgllmgaaAsym
namespace Go.Proofs.Ytfdgijmmgllmgaa
open Go.ChangeShapes Go.WideShapes Go.ChangeAt Go.RowKit Go.Joins 
set_option linter.unusedSimpArgs false
set_option linter.unusedVariables false

/-- One symmetry behind another: the turns. -/
def thenT (t u : Int) (g : Bool) : Int := if isSymB t && isSymB u then (if g then (u - t) % 4 else (t + u) % 4) else 0
/-- One symmetry behind another: the flip. -/
def thenF (t u : Int) (f g : Bool) : Bool := isSymB t && isSymB u && (f != g)
/-- The symmetry that takes one back: the turns. -/
def backT (t : Int) (f : Bool) : Int := if isSymB t then (if f then t else (-t) % 4) else 0
/-- The symmetry that takes one back: the flip. -/
def backF (t : Int) (f : Bool) : Bool := isSymB t && f


end Go.Proofs.Ytfdgijmmgllmgaa
