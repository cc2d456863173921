/-
  Texts Up, joined.
-/
import Derived.Test.YtfdgijmmgllmgaaV02
import Derived.Test.YtfdgijmmgllmgaaV01
namespace Go.Proofs.Ytfdgijmmgllmgaa
open Go.ChangeShapes Go.WideShapes Go.ChangeAt Go.RowKit Go.Joins
set_option linter.unusedSimpArgs false
set_option linter.unusedVariables false
set_option maxRecDepth 100000
attribute [local go_sem] store_f
open Ieee
theorem store_c (P : Program) (w : World) (a : Addr) (m : Mode) (k : FloatKind) (b c : Nat) : (store a (.complex k b c) m).run P w = stored P w a (.complex k b c) m := run_store P w a _ m rfl
attribute [local go_sem] store_c
end Go.Proofs.Ytfdgijmmgllmgaa
