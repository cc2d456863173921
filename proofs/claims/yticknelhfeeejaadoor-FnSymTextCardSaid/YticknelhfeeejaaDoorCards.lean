/-
  DERIVED. GIVEN WITH THE SEED: THE CARDS: each row of YticknelhfeeejaaDoorRows.lean that lists a variable, with what it lists TIED to the program's text (the seventh form; the later family's looks); each row that meets fmt, with fmt's text TOLD by the authors' own Lean function (tested against real Go, not proved from fmt's source: count such statements apart). THE CARD IS WHAT COUNTS. Prove the row's statement (the work); the ties are given (YticknelhfeeejaaDoorTie.lean); close each card by the builder's one call (the guide's Derived/Test/ToyasCard.lean, 'card_holds'). Laid BY PROGRAM, IN A SANDBOX (cutbox-door.mjs). By AI agents, Wed Nov 11 2026. No macro, syntax, notation, axiom, sorry.
-/
import Derived.Test.YticknelhfeeejaaDoorRows
import GoSem.ClaimSeven
namespace Go.Proofs.YticknelhfeeejaaDoor
namespace Rows

/-- THE TIED CARD OF 'laws.FnSymText'. -/
def fnSymTextCard : Claim7 := { stood := { row := fnSymTextRow, standIns := [], harness := (true, "5154ce842730187d85f8034ea4cf70ef37e1729fffa4b4dfd9372e3615c6773a"), looks := false }, kinds := [], alts := [], laidByText := true, laidKinds := [.data, .data, .data], laidTests := true, laidLooks := .later }
def FnSymTextCardSaid : Prop := Claim7.holds Tryd.pinned (.plain (OpenSpec.ofChange fnSymTextSpec)) fnSymTextCard

/-- THE TIED CARD OF 'laws.FnExactParseSym'. -/
def fnExactParseSymCard : Claim7 := { stood := { row := fnExactParseSymRow, standIns := [], harness := (true, "5154ce842730187d85f8034ea4cf70ef37e1729fffa4b4dfd9372e3615c6773a"), looks := false }, kinds := [], alts := [], laidByText := true, laidKinds := [.data, .data, .data], laidTests := true, laidLooks := .later }
def FnExactParseSymCardSaid : Prop := Claim7.holds Tryd.pinned (.plain (OpenSpec.ofChange fnExactParseSymSpec)) fnExactParseSymCard

/-- THE SECOND FORM's CARD OF 'laws.FnSymText'. -/
def fnSymTextUptoCard : Claim7 := { stood := { row := fnSymTextUptoRow, standIns := [], harness := (true, "5154ce842730187d85f8034ea4cf70ef37e1729fffa4b4dfd9372e3615c6773a"), looks := false }, kinds := [], alts := [], laidByText := true, laidKinds := [.data, .data, .data], laidTests := true, laidLooks := .later }
def FnSymTextUptoCardSaid : Prop := Claim7.holds Tryd.pinned (.plain (OpenSpec.upto fnSymTextSpec)) fnSymTextUptoCard

/-- THE SECOND FORM's CARD OF 'laws.FnExactParseSym'. -/
def fnExactParseSymUptoCard : Claim7 := { stood := { row := fnExactParseSymUptoRow, standIns := [], harness := (true, "5154ce842730187d85f8034ea4cf70ef37e1729fffa4b4dfd9372e3615c6773a"), looks := false }, kinds := [], alts := [], laidByText := true, laidKinds := [.data, .data, .data], laidTests := true, laidLooks := .later }
def FnExactParseSymUptoCardSaid : Prop := Claim7.holds Tryd.pinned (.plain (OpenSpec.upto fnExactParseSymSpec)) fnExactParseSymUptoCard
end Rows
end Go.Proofs.YticknelhfeeejaaDoor
