/-
  No cell of these rows narrows 'for every input' (looked for: loops, veiled, ifaces, maps, wideKeys, modest, calm, conditions, laid).
  DERIVED. THE GIVEN ROWS OF THIS SEAT. 13 by the template 'for every input the law returns true; each argument reads behind the call as it read before'; 0 by the template 'total and deterministic' (their statements: YtljilmekmfnkbaaTotals.lean).
  GIVEN WITH THE SEED: the statements are not yours to turn. If you find one false, say at which input.
  Laid BY PROGRAM, IN A SANDBOX (cutbox-rows.mjs): the forced cells as the released guide's own fill.sh prints them over the translation 51fc77875b6ab5b9… (all of the seat's roots in one cut). By AI agents, Wed Nov 11 2026. No macro, syntax, notation, axiom, sorry.
-/
import Derived.Test.YtljilmekmfnkbaaChecked
import GoSem.Claim
import GoSem.ClaimJoined
import GoSem.ClaimMapViews
import Derived.JoinedTies
import Derived.KernelRfl
namespace Go.Proofs.Ytljilmekmfnkbaa
/- THE CELL 'sum', in the pinned program and in every row, IS THE sha256 OF THE DUMP (.gsa) THAT YtljilmekmfnkbaaProg.lean LOADS. Nothing in Lean hashes anything: it is a label: what it is worth is what the hold of that sum in a sandbox is worth. -/
noncomputable def Try.pinned : Pinned := { name := "ytljilmekmfnkbaa", sum := "51fc77875b6ab5b9eb0a84a2bf79230d18be2b59d7193713b4815e7d622ac740", checked := Try.checked }
namespace Rows
def none {H : Type} : Left H := { results := [], args := [] }

/-- 'laws.FnMixed': WHATEVER THE INPUT: true; the input reads as it did. -/
def fnMixedSpec : ChangeSpec := { name := "fnMixed", fn := fun _ => fun
  | [d] => { results := [.lit (.bool true)], args := [d] }
  | _ => none }
def fnMixedRow : OpenClaim := { program := "ytljilmekmfnkbaa", sum := "51fc77875b6ab5b9eb0a84a2bf79230d18be2b59d7193713b4815e7d622ac740", func := "loop.example/g03020/laws.FnMixed", spec := "fnMixed", unfollowed := true, recurses := true, apart := false }
def FnMixedSaid : Prop := fnMixedRow.holds Try.pinned (OpenSpec.ofChange fnMixedSpec)

/-- ITS FALSE NEIGHBOUR: 'it returns false'. Refute it at one input. -/
def fnMixedWrong : ChangeSpec := { name := "fnMixed", fn := fun _ => fun
  | [d] => { results := [.lit (.bool false)], args := [d] }
  | _ => none }
def FnMixedWrongFalsely : Prop := fnMixedRow.holds Try.pinned (OpenSpec.ofChange fnMixedWrong)

/-- 'laws.FnInverted': WHATEVER THE INPUT: true; the input reads as it did. -/
def fnInvertedSpec : ChangeSpec := { name := "fnInverted", fn := fun _ => fun
  | [d] => { results := [.lit (.bool true)], args := [d] }
  | _ => none }
def fnInvertedRow : OpenClaim := { program := "ytljilmekmfnkbaa", sum := "51fc77875b6ab5b9eb0a84a2bf79230d18be2b59d7193713b4815e7d622ac740", func := "loop.example/g03020/laws.FnInverted", spec := "fnInverted", unfollowed := true, recurses := true, apart := false }
def FnInvertedSaid : Prop := fnInvertedRow.holds Try.pinned (OpenSpec.ofChange fnInvertedSpec)

/-- ITS FALSE NEIGHBOUR: 'it returns false'. Refute it at one input. -/
def fnInvertedWrong : ChangeSpec := { name := "fnInverted", fn := fun _ => fun
  | [d] => { results := [.lit (.bool false)], args := [d] }
  | _ => none }
def FnInvertedWrongFalsely : Prop := fnInvertedRow.holds Try.pinned (OpenSpec.ofChange fnInvertedWrong)

/-- 'laws.FnFar': WHATEVER THE INPUT: true; the input reads as it did. -/
def fnFarSpec : ChangeSpec := { name := "fnFar", fn := fun _ => fun
  | [d] => { results := [.lit (.bool true)], args := [d] }
  | _ => none }
def fnFarRow : OpenClaim := { program := "ytljilmekmfnkbaa", sum := "51fc77875b6ab5b9eb0a84a2bf79230d18be2b59d7193713b4815e7d622ac740", func := "loop.example/g03020/laws.FnFar", spec := "fnFar", unfollowed := true, recurses := true, apart := false }
def FnFarSaid : Prop := fnFarRow.holds Try.pinned (OpenSpec.ofChange fnFarSpec)

/-- ITS FALSE NEIGHBOUR: 'it returns false'. Refute it at one input. -/
def fnFarWrong : ChangeSpec := { name := "fnFar", fn := fun _ => fun
  | [d] => { results := [.lit (.bool false)], args := [d] }
  | _ => none }
def FnFarWrongFalsely : Prop := fnFarRow.holds Try.pinned (OpenSpec.ofChange fnFarWrong)

/-- 'laws.FnColourText': WHATEVER THE INPUT: true; the input reads as it did. -/
def fnColourTextSpec : ChangeSpec := { name := "fnColourText", fn := fun _ => fun
  | [d] => { results := [.lit (.bool true)], args := [d] }
  | _ => none }
def fnColourTextRow : OpenClaim := { program := "ytljilmekmfnkbaa", sum := "51fc77875b6ab5b9eb0a84a2bf79230d18be2b59d7193713b4815e7d622ac740", func := "loop.example/g03020/laws.FnColourText", spec := "fnColourText", inPlace := ["internal/bytealg.IndexByteString"], unfollowed := true, recurses := true, apart := false }
def FnColourTextSaid : Prop := fnColourTextRow.holds Try.pinned (OpenSpec.ofChange fnColourTextSpec)

/-- ITS FALSE NEIGHBOUR: 'it returns false'. Refute it at one input. -/
def fnColourTextWrong : ChangeSpec := { name := "fnColourText", fn := fun _ => fun
  | [d] => { results := [.lit (.bool false)], args := [d] }
  | _ => none }
def FnColourTextWrongFalsely : Prop := fnColourTextRow.holds Try.pinned (OpenSpec.ofChange fnColourTextWrong)

/-- 'laws.FnExactIsColour': WHATEVER THE INPUT: true; the input reads as it did. -/
def fnExactIsColourSpec : ChangeSpec := { name := "fnExactIsColour", fn := fun _ => fun
  | [d] => { results := [.lit (.bool true)], args := [d] }
  | _ => none }
def fnExactIsColourRow : OpenClaim := { program := "ytljilmekmfnkbaa", sum := "51fc77875b6ab5b9eb0a84a2bf79230d18be2b59d7193713b4815e7d622ac740", func := "loop.example/g03020/laws.FnExactIsColour", spec := "fnExactIsColour", unfollowed := true, recurses := true, apart := false }
def FnExactIsColourSaid : Prop := fnExactIsColourRow.holds Try.pinned (OpenSpec.ofChange fnExactIsColourSpec)

/-- ITS FALSE NEIGHBOUR: 'it returns false'. Refute it at one input. -/
def fnExactIsColourWrong : ChangeSpec := { name := "fnExactIsColour", fn := fun _ => fun
  | [d] => { results := [.lit (.bool false)], args := [d] }
  | _ => none }
def FnExactIsColourWrongFalsely : Prop := fnExactIsColourRow.holds Try.pinned (OpenSpec.ofChange fnExactIsColourWrong)

/-- 'laws.FnExactMixColours': WHATEVER THE INPUT: true; the input reads as it did. -/
def fnExactMixColoursSpec : ChangeSpec := { name := "fnExactMixColours", fn := fun _ => fun
  | [d1, d2, d3] => { results := [.lit (.bool true)], args := [d1, d2, d3] }
  | _ => none }
def fnExactMixColoursRow : OpenClaim := { program := "ytljilmekmfnkbaa", sum := "51fc77875b6ab5b9eb0a84a2bf79230d18be2b59d7193713b4815e7d622ac740", func := "loop.example/g03020/laws.FnExactMixColours", spec := "fnExactMixColours", unfollowed := true, recurses := true, apart := false }
def FnExactMixColoursSaid : Prop := fnExactMixColoursRow.holds Try.pinned (OpenSpec.ofChange fnExactMixColoursSpec)

/-- ITS FALSE NEIGHBOUR: 'it returns false'. Refute it at one input. -/
def fnExactMixColoursWrong : ChangeSpec := { name := "fnExactMixColours", fn := fun _ => fun
  | [d1, d2, d3] => { results := [.lit (.bool false)], args := [d1, d2, d3] }
  | _ => none }
def FnExactMixColoursWrongFalsely : Prop := fnExactMixColoursRow.holds Try.pinned (OpenSpec.ofChange fnExactMixColoursWrong)

/-- 'laws.FnExactFilterColour': WHATEVER THE INPUT: true; the input reads as it did. -/
def fnExactFilterColourSpec : ChangeSpec := { name := "fnExactFilterColour", fn := fun _ => fun
  | [d1, d2] => { results := [.lit (.bool true)], args := [d1, d2] }
  | _ => none }
def fnExactFilterColourRow : OpenClaim := { program := "ytljilmekmfnkbaa", sum := "51fc77875b6ab5b9eb0a84a2bf79230d18be2b59d7193713b4815e7d622ac740", func := "loop.example/g03020/laws.FnExactFilterColour", spec := "fnExactFilterColour", unfollowed := true, recurses := true, apart := false }
def FnExactFilterColourSaid : Prop := fnExactFilterColourRow.holds Try.pinned (OpenSpec.ofChange fnExactFilterColourSpec)

/-- ITS FALSE NEIGHBOUR: 'it returns false'. Refute it at one input. -/
def fnExactFilterColourWrong : ChangeSpec := { name := "fnExactFilterColour", fn := fun _ => fun
  | [d1, d2] => { results := [.lit (.bool false)], args := [d1, d2] }
  | _ => none }
def FnExactFilterColourWrongFalsely : Prop := fnExactFilterColourRow.holds Try.pinned (OpenSpec.ofChange fnExactFilterColourWrong)

/-- 'laws.FnExactInverseColour': WHATEVER THE INPUT: true; the input reads as it did. -/
def fnExactInverseColourSpec : ChangeSpec := { name := "fnExactInverseColour", fn := fun _ => fun
  | [d] => { results := [.lit (.bool true)], args := [d] }
  | _ => none }
def fnExactInverseColourRow : OpenClaim := { program := "ytljilmekmfnkbaa", sum := "51fc77875b6ab5b9eb0a84a2bf79230d18be2b59d7193713b4815e7d622ac740", func := "loop.example/g03020/laws.FnExactInverseColour", spec := "fnExactInverseColour", unfollowed := true, recurses := true, apart := false }
def FnExactInverseColourSaid : Prop := fnExactInverseColourRow.holds Try.pinned (OpenSpec.ofChange fnExactInverseColourSpec)

/-- ITS FALSE NEIGHBOUR: 'it returns false'. Refute it at one input. -/
def fnExactInverseColourWrong : ChangeSpec := { name := "fnExactInverseColour", fn := fun _ => fun
  | [d] => { results := [.lit (.bool false)], args := [d] }
  | _ => none }
def FnExactInverseColourWrongFalsely : Prop := fnExactInverseColourRow.holds Try.pinned (OpenSpec.ofChange fnExactInverseColourWrong)

/-- 'laws.FnExactScreenColours': WHATEVER THE INPUT: true; the input reads as it did. -/
def fnExactScreenColoursSpec : ChangeSpec := { name := "fnExactScreenColours", fn := fun _ => fun
  | [d1, d2] => { results := [.lit (.bool true)], args := [d1, d2] }
  | _ => none }
def fnExactScreenColoursRow : OpenClaim := { program := "ytljilmekmfnkbaa", sum := "51fc77875b6ab5b9eb0a84a2bf79230d18be2b59d7193713b4815e7d622ac740", func := "loop.example/g03020/laws.FnExactScreenColours", spec := "fnExactScreenColours", unfollowed := true, recurses := true, apart := false }
def FnExactScreenColoursSaid : Prop := fnExactScreenColoursRow.holds Try.pinned (OpenSpec.ofChange fnExactScreenColoursSpec)

/-- ITS FALSE NEIGHBOUR: 'it returns false'. Refute it at one input. -/
def fnExactScreenColoursWrong : ChangeSpec := { name := "fnExactScreenColours", fn := fun _ => fun
  | [d1, d2] => { results := [.lit (.bool false)], args := [d1, d2] }
  | _ => none }
def FnExactScreenColoursWrongFalsely : Prop := fnExactScreenColoursRow.holds Try.pinned (OpenSpec.ofChange fnExactScreenColoursWrong)

/-- 'laws.FnExactBrightOf': WHATEVER THE INPUT: true; the input reads as it did. -/
def fnExactBrightOfSpec : ChangeSpec := { name := "fnExactBrightOf", fn := fun _ => fun
  | [d] => { results := [.lit (.bool true)], args := [d] }
  | _ => none }
def fnExactBrightOfRow : OpenClaim := { program := "ytljilmekmfnkbaa", sum := "51fc77875b6ab5b9eb0a84a2bf79230d18be2b59d7193713b4815e7d622ac740", func := "loop.example/g03020/laws.FnExactBrightOf", spec := "fnExactBrightOf", unfollowed := true, recurses := true, apart := false }
def FnExactBrightOfSaid : Prop := fnExactBrightOfRow.holds Try.pinned (OpenSpec.ofChange fnExactBrightOfSpec)

/-- ITS FALSE NEIGHBOUR: 'it returns false'. Refute it at one input. -/
def fnExactBrightOfWrong : ChangeSpec := { name := "fnExactBrightOf", fn := fun _ => fun
  | [d] => { results := [.lit (.bool false)], args := [d] }
  | _ => none }
def FnExactBrightOfWrongFalsely : Prop := fnExactBrightOfRow.holds Try.pinned (OpenSpec.ofChange fnExactBrightOfWrong)

/-- 'laws.FnExactFarColours': WHATEVER THE INPUT: true; the input reads as it did. -/
def fnExactFarColoursSpec : ChangeSpec := { name := "fnExactFarColours", fn := fun _ => fun
  | [d1, d2] => { results := [.lit (.bool true)], args := [d1, d2] }
  | _ => none }
def fnExactFarColoursRow : OpenClaim := { program := "ytljilmekmfnkbaa", sum := "51fc77875b6ab5b9eb0a84a2bf79230d18be2b59d7193713b4815e7d622ac740", func := "loop.example/g03020/laws.FnExactFarColours", spec := "fnExactFarColours", unfollowed := true, recurses := true, apart := false }
def FnExactFarColoursSaid : Prop := fnExactFarColoursRow.holds Try.pinned (OpenSpec.ofChange fnExactFarColoursSpec)

/-- ITS FALSE NEIGHBOUR: 'it returns false'. Refute it at one input. -/
def fnExactFarColoursWrong : ChangeSpec := { name := "fnExactFarColours", fn := fun _ => fun
  | [d1, d2] => { results := [.lit (.bool false)], args := [d1, d2] }
  | _ => none }
def FnExactFarColoursWrongFalsely : Prop := fnExactFarColoursRow.holds Try.pinned (OpenSpec.ofChange fnExactFarColoursWrong)

/-- 'laws.FnExactFormatColour': WHATEVER THE INPUT: true; the input reads as it did. -/
def fnExactFormatColourSpec : ChangeSpec := { name := "fnExactFormatColour", fn := fun _ => fun
  | [d] => { results := [.lit (.bool true)], args := [d] }
  | _ => none }
def fnExactFormatColourRow : OpenClaim := { program := "ytljilmekmfnkbaa", sum := "51fc77875b6ab5b9eb0a84a2bf79230d18be2b59d7193713b4815e7d622ac740", func := "loop.example/g03020/laws.FnExactFormatColour", spec := "fnExactFormatColour", unfollowed := true, recurses := true, apart := false }
def FnExactFormatColourSaid : Prop := fnExactFormatColourRow.holds Try.pinned (OpenSpec.ofChange fnExactFormatColourSpec)

/-- ITS FALSE NEIGHBOUR: 'it returns false'. Refute it at one input. -/
def fnExactFormatColourWrong : ChangeSpec := { name := "fnExactFormatColour", fn := fun _ => fun
  | [d] => { results := [.lit (.bool false)], args := [d] }
  | _ => none }
def FnExactFormatColourWrongFalsely : Prop := fnExactFormatColourRow.holds Try.pinned (OpenSpec.ofChange fnExactFormatColourWrong)

/-- 'laws.FnExactParseColour': WHATEVER THE INPUT: true; the input reads as it did. -/
def fnExactParseColourSpec : ChangeSpec := { name := "fnExactParseColour", fn := fun _ => fun
  | [d] => { results := [.lit (.bool true)], args := [d] }
  | _ => none }
def fnExactParseColourRow : OpenClaim := { program := "ytljilmekmfnkbaa", sum := "51fc77875b6ab5b9eb0a84a2bf79230d18be2b59d7193713b4815e7d622ac740", func := "loop.example/g03020/laws.FnExactParseColour", spec := "fnExactParseColour", inPlace := ["internal/bytealg.IndexByteString"], unfollowed := true, recurses := true, apart := false }
def FnExactParseColourSaid : Prop := fnExactParseColourRow.holds Try.pinned (OpenSpec.ofChange fnExactParseColourSpec)

/-- ITS FALSE NEIGHBOUR: 'it returns false'. Refute it at one input. -/
def fnExactParseColourWrong : ChangeSpec := { name := "fnExactParseColour", fn := fun _ => fun
  | [d] => { results := [.lit (.bool false)], args := [d] }
  | _ => none }
def FnExactParseColourWrongFalsely : Prop := fnExactParseColourRow.holds Try.pinned (OpenSpec.ofChange fnExactParseColourWrong)

/- THE SECOND FORM. 'bulk': how many values and letters a reading holds, each counted each time it is reached (what is shared counts as often as it is met; a slice's spare places count too). A statement '..UptoSaid' is the law's where the arguments, and the package variables that the reading takes, are together of bulk at most 1048576: NARROWER than '..Said'. Prove '..Said' where nothing that the law and all that it calls make is longer than what came in: it says more and counts as full. Else prove '..UptoSaid'. A law counts once. -/
mutual
def uptoBulk {H : Type} : DataW H → Nat
  | .lit (.string bytes) => bytes.length + 1
  | .lit _ => 1
  | .nil => 1
  | .ptr d => uptoBulk d + 1
  | .slice elems spare => uptoBulkAll elems + uptoBulkAll spare + 1
  | .agg parts => uptoBulkAll parts + 1
  | .iface _ d => uptoBulk d + 1
  | .map entries => uptoBulkEntries entries + 1
  | .held _ => 1
def uptoBulkAll {H : Type} : List (DataW H) → Nat
  | [] => 0
  | d :: r => uptoBulk d + uptoBulkAll r
def uptoBulkEntries {H : Type} : List (Lit × DataW H) → Nat
  | [] => 0
  | x :: r => uptoBulkEntry x + uptoBulkEntries r
def uptoBulkEntry {H : Type} : Lit × DataW H → Nat
  | (.string bytes, d) => bytes.length + uptoBulk d + 1
  | (_, d) => uptoBulk d + 1
 end
def uptoSmall : (H : Type) → List (DataW H) → Bool := fun _ ds => decide (uptoBulkAll ds ≤ 1048576)
def OpenSpec.upto (s : _root_.Go.ChangeSpec) : _root_.Go.OpenSpec := { _root_.Go.OpenSpec.ofChange s with cond := some uptoSmall }

/-- 'laws.FnMixed', WHERE WHAT IT READS IS OF BULK AT MOST 1048576: true; the input reads as it did. -/
def fnMixedUptoRow : OpenClaim := { program := "ytljilmekmfnkbaa", sum := "51fc77875b6ab5b9eb0a84a2bf79230d18be2b59d7193713b4815e7d622ac740", func := "loop.example/g03020/laws.FnMixed", spec := "fnMixed", unfollowed := true, recurses := true, apart := false, narrowed := true }
def FnMixedUptoSaid : Prop := fnMixedUptoRow.holds Try.pinned (OpenSpec.upto fnMixedSpec)

/-- 'laws.FnInverted', WHERE WHAT IT READS IS OF BULK AT MOST 1048576: true; the input reads as it did. -/
def fnInvertedUptoRow : OpenClaim := { program := "ytljilmekmfnkbaa", sum := "51fc77875b6ab5b9eb0a84a2bf79230d18be2b59d7193713b4815e7d622ac740", func := "loop.example/g03020/laws.FnInverted", spec := "fnInverted", unfollowed := true, recurses := true, apart := false, narrowed := true }
def FnInvertedUptoSaid : Prop := fnInvertedUptoRow.holds Try.pinned (OpenSpec.upto fnInvertedSpec)

/-- 'laws.FnFar', WHERE WHAT IT READS IS OF BULK AT MOST 1048576: true; the input reads as it did. -/
def fnFarUptoRow : OpenClaim := { program := "ytljilmekmfnkbaa", sum := "51fc77875b6ab5b9eb0a84a2bf79230d18be2b59d7193713b4815e7d622ac740", func := "loop.example/g03020/laws.FnFar", spec := "fnFar", unfollowed := true, recurses := true, apart := false, narrowed := true }
def FnFarUptoSaid : Prop := fnFarUptoRow.holds Try.pinned (OpenSpec.upto fnFarSpec)

/-- 'laws.FnColourText', WHERE WHAT IT READS IS OF BULK AT MOST 1048576: true; the input reads as it did. -/
def fnColourTextUptoRow : OpenClaim := { program := "ytljilmekmfnkbaa", sum := "51fc77875b6ab5b9eb0a84a2bf79230d18be2b59d7193713b4815e7d622ac740", func := "loop.example/g03020/laws.FnColourText", spec := "fnColourText", inPlace := ["internal/bytealg.IndexByteString"], unfollowed := true, recurses := true, apart := false, narrowed := true }
def FnColourTextUptoSaid : Prop := fnColourTextUptoRow.holds Try.pinned (OpenSpec.upto fnColourTextSpec)

/-- 'laws.FnExactIsColour', WHERE WHAT IT READS IS OF BULK AT MOST 1048576: true; the input reads as it did. -/
def fnExactIsColourUptoRow : OpenClaim := { program := "ytljilmekmfnkbaa", sum := "51fc77875b6ab5b9eb0a84a2bf79230d18be2b59d7193713b4815e7d622ac740", func := "loop.example/g03020/laws.FnExactIsColour", spec := "fnExactIsColour", unfollowed := true, recurses := true, apart := false, narrowed := true }
def FnExactIsColourUptoSaid : Prop := fnExactIsColourUptoRow.holds Try.pinned (OpenSpec.upto fnExactIsColourSpec)

/-- 'laws.FnExactMixColours', WHERE WHAT IT READS IS OF BULK AT MOST 1048576: true; the input reads as it did. -/
def fnExactMixColoursUptoRow : OpenClaim := { program := "ytljilmekmfnkbaa", sum := "51fc77875b6ab5b9eb0a84a2bf79230d18be2b59d7193713b4815e7d622ac740", func := "loop.example/g03020/laws.FnExactMixColours", spec := "fnExactMixColours", unfollowed := true, recurses := true, apart := false, narrowed := true }
def FnExactMixColoursUptoSaid : Prop := fnExactMixColoursUptoRow.holds Try.pinned (OpenSpec.upto fnExactMixColoursSpec)

/-- 'laws.FnExactFilterColour', WHERE WHAT IT READS IS OF BULK AT MOST 1048576: true; the input reads as it did. -/
def fnExactFilterColourUptoRow : OpenClaim := { program := "ytljilmekmfnkbaa", sum := "51fc77875b6ab5b9eb0a84a2bf79230d18be2b59d7193713b4815e7d622ac740", func := "loop.example/g03020/laws.FnExactFilterColour", spec := "fnExactFilterColour", unfollowed := true, recurses := true, apart := false, narrowed := true }
def FnExactFilterColourUptoSaid : Prop := fnExactFilterColourUptoRow.holds Try.pinned (OpenSpec.upto fnExactFilterColourSpec)

/-- 'laws.FnExactInverseColour', WHERE WHAT IT READS IS OF BULK AT MOST 1048576: true; the input reads as it did. -/
def fnExactInverseColourUptoRow : OpenClaim := { program := "ytljilmekmfnkbaa", sum := "51fc77875b6ab5b9eb0a84a2bf79230d18be2b59d7193713b4815e7d622ac740", func := "loop.example/g03020/laws.FnExactInverseColour", spec := "fnExactInverseColour", unfollowed := true, recurses := true, apart := false, narrowed := true }
def FnExactInverseColourUptoSaid : Prop := fnExactInverseColourUptoRow.holds Try.pinned (OpenSpec.upto fnExactInverseColourSpec)

/-- 'laws.FnExactScreenColours', WHERE WHAT IT READS IS OF BULK AT MOST 1048576: true; the input reads as it did. -/
def fnExactScreenColoursUptoRow : OpenClaim := { program := "ytljilmekmfnkbaa", sum := "51fc77875b6ab5b9eb0a84a2bf79230d18be2b59d7193713b4815e7d622ac740", func := "loop.example/g03020/laws.FnExactScreenColours", spec := "fnExactScreenColours", unfollowed := true, recurses := true, apart := false, narrowed := true }
def FnExactScreenColoursUptoSaid : Prop := fnExactScreenColoursUptoRow.holds Try.pinned (OpenSpec.upto fnExactScreenColoursSpec)

/-- 'laws.FnExactBrightOf', WHERE WHAT IT READS IS OF BULK AT MOST 1048576: true; the input reads as it did. -/
def fnExactBrightOfUptoRow : OpenClaim := { program := "ytljilmekmfnkbaa", sum := "51fc77875b6ab5b9eb0a84a2bf79230d18be2b59d7193713b4815e7d622ac740", func := "loop.example/g03020/laws.FnExactBrightOf", spec := "fnExactBrightOf", unfollowed := true, recurses := true, apart := false, narrowed := true }
def FnExactBrightOfUptoSaid : Prop := fnExactBrightOfUptoRow.holds Try.pinned (OpenSpec.upto fnExactBrightOfSpec)

/-- 'laws.FnExactFarColours', WHERE WHAT IT READS IS OF BULK AT MOST 1048576: true; the input reads as it did. -/
def fnExactFarColoursUptoRow : OpenClaim := { program := "ytljilmekmfnkbaa", sum := "51fc77875b6ab5b9eb0a84a2bf79230d18be2b59d7193713b4815e7d622ac740", func := "loop.example/g03020/laws.FnExactFarColours", spec := "fnExactFarColours", unfollowed := true, recurses := true, apart := false, narrowed := true }
def FnExactFarColoursUptoSaid : Prop := fnExactFarColoursUptoRow.holds Try.pinned (OpenSpec.upto fnExactFarColoursSpec)

/-- 'laws.FnExactFormatColour', WHERE WHAT IT READS IS OF BULK AT MOST 1048576: true; the input reads as it did. -/
def fnExactFormatColourUptoRow : OpenClaim := { program := "ytljilmekmfnkbaa", sum := "51fc77875b6ab5b9eb0a84a2bf79230d18be2b59d7193713b4815e7d622ac740", func := "loop.example/g03020/laws.FnExactFormatColour", spec := "fnExactFormatColour", unfollowed := true, recurses := true, apart := false, narrowed := true }
def FnExactFormatColourUptoSaid : Prop := fnExactFormatColourUptoRow.holds Try.pinned (OpenSpec.upto fnExactFormatColourSpec)

/-- 'laws.FnExactParseColour', WHERE WHAT IT READS IS OF BULK AT MOST 1048576: true; the input reads as it did. -/
def fnExactParseColourUptoRow : OpenClaim := { program := "ytljilmekmfnkbaa", sum := "51fc77875b6ab5b9eb0a84a2bf79230d18be2b59d7193713b4815e7d622ac740", func := "loop.example/g03020/laws.FnExactParseColour", spec := "fnExactParseColour", inPlace := ["internal/bytealg.IndexByteString"], unfollowed := true, recurses := true, apart := false, narrowed := true }
def FnExactParseColourUptoSaid : Prop := fnExactParseColourUptoRow.holds Try.pinned (OpenSpec.upto fnExactParseColourSpec)

end Rows
end Go.Proofs.Ytljilmekmfnkbaa
