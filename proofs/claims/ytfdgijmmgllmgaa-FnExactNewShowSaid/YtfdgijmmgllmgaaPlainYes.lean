/-
  A closed fact of the rows: the keys of maps (a seat whose program has maps with plain keys alone).
-/
import Derived.Test.YtfdgijmmgllmgaaLift
namespace Go.Proofs.Ytfdgijmmgllmgaa
theorem plain_yes : (true == Try.prog.plainKeys) = true := by kernel_rfl
end Go.Proofs.Ytfdgijmmgllmgaa
