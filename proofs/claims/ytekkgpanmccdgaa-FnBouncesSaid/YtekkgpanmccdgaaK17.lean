/-
  Texts of this proof, joined: PlainYes.
-/
import Derived.Test.YtekkgpanmccdgaaK01
/-
  A closed fact of the rows: the keys of maps (a seat whose program has maps with plain keys alone).
-/
namespace Go.Proofs.Ytekkgpanmccdgaa
theorem plain_yes : (true == Try.prog.plainKeys) = true := by kernel_rfl
end Go.Proofs.Ytekkgpanmccdgaa
