/-
  No cell of these rows narrows 'for every input' (looked for: loops, veiled, ifaces, maps, wideKeys, modest, calm, conditions, laid).
  DERIVED. THE GIVEN ROWS OF THIS SEAT. 11 by the template 'for every input the law returns true; each argument reads behind the call as it read before'; 0 by the template 'total and deterministic' (their statements: YtbeefbmgbmgbfaaTotals.lean).
  GIVEN WITH THE SEED: the statements are not yours to turn. If you find one false, say at which input.
  Laid BY PROGRAM, IN A SANDBOX (cutbox-rows.mjs): the forced cells as the released guide's own fill.sh prints them over the translation 97199baffa98b077… (all of the seat's roots in one cut). By AI agents, Wed Nov 11 2026. No macro, syntax, notation, axiom, sorry.
-/
import Derived.Test.YtbeefbmgbmgbfaaChecked
import GoSem.Claim
import GoSem.ClaimJoined
import GoSem.ClaimMapViews
import Derived.JoinedTies
import Derived.KernelRfl
namespace Go.Proofs.Ytbeefbmgbmgbfaa
/- THE CELL 'sum', in the pinned program and in every row, IS THE sha256 OF THE DUMP (.gsa) THAT YtbeefbmgbmgbfaaProg.lean LOADS. Nothing in Lean hashes anything: it is a label: what it is worth is what the hold of that sum in a sandbox is worth. -/
noncomputable def Try.pinned : Pinned := { name := "ytbeefbmgbmgbfaa", sum := "97199baffa98b0779600a267bb938540812db739d6ca0dd299caf9828a9293a3", checked := Try.checked }
namespace Rows
def none {H : Type} : Left H := { results := [], args := [] }

/-- 'laws.FnProducts': WHATEVER THE INPUT: true; the input reads as it did. -/
def fnProductsSpec : ChangeSpec := { name := "fnProducts", fn := fun _ => fun
  | [d] => { results := [.lit (.bool true)], args := [d] }
  | _ => none }
def fnProductsRow : OpenClaim := { program := "ytbeefbmgbmgbfaa", sum := "97199baffa98b0779600a267bb938540812db739d6ca0dd299caf9828a9293a3", func := "loop.example/g03020/laws.FnProducts", spec := "fnProducts", apart := false }
def FnProductsSaid : Prop := fnProductsRow.holds Try.pinned (OpenSpec.ofChange fnProductsSpec)

/-- ITS FALSE NEIGHBOUR: 'it returns false'. Refute it at one input. -/
def fnProductsWrong : ChangeSpec := { name := "fnProducts", fn := fun _ => fun
  | [d] => { results := [.lit (.bool false)], args := [d] }
  | _ => none }
def FnProductsWrongFalsely : Prop := fnProductsRow.holds Try.pinned (OpenSpec.ofChange fnProductsWrong)

/-- 'laws.FnClosed': WHATEVER THE INPUT: true; the input reads as it did. -/
def fnClosedSpec : ChangeSpec := { name := "fnClosed", fn := fun _ => fun
  | [d] => { results := [.lit (.bool true)], args := [d] }
  | _ => none }
def fnClosedRow : OpenClaim := { program := "ytbeefbmgbmgbfaa", sum := "97199baffa98b0779600a267bb938540812db739d6ca0dd299caf9828a9293a3", func := "loop.example/g03020/laws.FnClosed", spec := "fnClosed", apart := false }
def FnClosedSaid : Prop := fnClosedRow.holds Try.pinned (OpenSpec.ofChange fnClosedSpec)

/-- ITS FALSE NEIGHBOUR: 'it returns false'. Refute it at one input. -/
def fnClosedWrong : ChangeSpec := { name := "fnClosed", fn := fun _ => fun
  | [d] => { results := [.lit (.bool false)], args := [d] }
  | _ => none }
def FnClosedWrongFalsely : Prop := fnClosedRow.holds Try.pinned (OpenSpec.ofChange fnClosedWrong)

/-- 'laws.FnFold': WHATEVER THE INPUT: true; the input reads as it did. -/
def fnFoldSpec : ChangeSpec := { name := "fnFold", fn := fun _ => fun
  | [d] => { results := [.lit (.bool true)], args := [d] }
  | _ => none }
def fnFoldRow : OpenClaim := { program := "ytbeefbmgbmgbfaa", sum := "97199baffa98b0779600a267bb938540812db739d6ca0dd299caf9828a9293a3", func := "loop.example/g03020/laws.FnFold", spec := "fnFold", unfollowed := true, recurses := true, apart := false }
def FnFoldSaid : Prop := fnFoldRow.holds Try.pinned (OpenSpec.ofChange fnFoldSpec)

/-- ITS FALSE NEIGHBOUR: 'it returns false'. Refute it at one input. -/
def fnFoldWrong : ChangeSpec := { name := "fnFold", fn := fun _ => fun
  | [d] => { results := [.lit (.bool false)], args := [d] }
  | _ => none }
def FnFoldWrongFalsely : Prop := fnFoldRow.holds Try.pinned (OpenSpec.ofChange fnFoldWrong)

/-- 'laws.FnOrbit': WHATEVER THE INPUT: true; the input reads as it did. -/
def fnOrbitSpec : ChangeSpec := { name := "fnOrbit", fn := fun _ => fun
  | [d] => { results := [.lit (.bool true)], args := [d] }
  | _ => none }
def fnOrbitRow : OpenClaim := { program := "ytbeefbmgbmgbfaa", sum := "97199baffa98b0779600a267bb938540812db739d6ca0dd299caf9828a9293a3", func := "loop.example/g03020/laws.FnOrbit", spec := "fnOrbit", unfollowed := true, recurses := true, apart := false }
def FnOrbitSaid : Prop := fnOrbitRow.holds Try.pinned (OpenSpec.ofChange fnOrbitSpec)

/-- ITS FALSE NEIGHBOUR: 'it returns false'. Refute it at one input. -/
def fnOrbitWrong : ChangeSpec := { name := "fnOrbit", fn := fun _ => fun
  | [d] => { results := [.lit (.bool false)], args := [d] }
  | _ => none }
def FnOrbitWrongFalsely : Prop := fnOrbitRow.holds Try.pinned (OpenSpec.ofChange fnOrbitWrong)

/-- 'laws.FnWords': WHATEVER THE INPUT: true; the input reads as it did. -/
def fnWordsSpec : ChangeSpec := { name := "fnWords", fn := fun _ => fun
  | [d] => { results := [.lit (.bool true)], args := [d] }
  | _ => none }
def fnWordsRow : OpenClaim := { program := "ytbeefbmgbmgbfaa", sum := "97199baffa98b0779600a267bb938540812db739d6ca0dd299caf9828a9293a3", func := "loop.example/g03020/laws.FnWords", spec := "fnWords", apart := false }
def FnWordsSaid : Prop := fnWordsRow.holds Try.pinned (OpenSpec.ofChange fnWordsSpec)

/-- ITS FALSE NEIGHBOUR: 'it returns false'. Refute it at one input. -/
def fnWordsWrong : ChangeSpec := { name := "fnWords", fn := fun _ => fun
  | [d] => { results := [.lit (.bool false)], args := [d] }
  | _ => none }
def FnWordsWrongFalsely : Prop := fnWordsRow.holds Try.pinned (OpenSpec.ofChange fnWordsWrong)

/-- 'laws.FnExactIsSym': WHATEVER THE INPUT: true; the input reads as it did. -/
def fnExactIsSymSpec : ChangeSpec := { name := "fnExactIsSym", fn := fun _ => fun
  | [d] => { results := [.lit (.bool true)], args := [d] }
  | _ => none }
def fnExactIsSymRow : OpenClaim := { program := "ytbeefbmgbmgbfaa", sum := "97199baffa98b0779600a267bb938540812db739d6ca0dd299caf9828a9293a3", func := "loop.example/g03020/laws.FnExactIsSym", spec := "fnExactIsSym", apart := false }
def FnExactIsSymSaid : Prop := fnExactIsSymRow.holds Try.pinned (OpenSpec.ofChange fnExactIsSymSpec)

/-- ITS FALSE NEIGHBOUR: 'it returns false'. Refute it at one input. -/
def fnExactIsSymWrong : ChangeSpec := { name := "fnExactIsSym", fn := fun _ => fun
  | [d] => { results := [.lit (.bool false)], args := [d] }
  | _ => none }
def FnExactIsSymWrongFalsely : Prop := fnExactIsSymRow.holds Try.pinned (OpenSpec.ofChange fnExactIsSymWrong)

/-- 'laws.FnExactThenSym': WHATEVER THE INPUT: true; the input reads as it did. -/
def fnExactThenSymSpec : ChangeSpec := { name := "fnExactThenSym", fn := fun _ => fun
  | [d1, d2] => { results := [.lit (.bool true)], args := [d1, d2] }
  | _ => none }
def fnExactThenSymRow : OpenClaim := { program := "ytbeefbmgbmgbfaa", sum := "97199baffa98b0779600a267bb938540812db739d6ca0dd299caf9828a9293a3", func := "loop.example/g03020/laws.FnExactThenSym", spec := "fnExactThenSym", apart := false }
def FnExactThenSymSaid : Prop := fnExactThenSymRow.holds Try.pinned (OpenSpec.ofChange fnExactThenSymSpec)

/-- ITS FALSE NEIGHBOUR: 'it returns false'. Refute it at one input. -/
def fnExactThenSymWrong : ChangeSpec := { name := "fnExactThenSym", fn := fun _ => fun
  | [d1, d2] => { results := [.lit (.bool false)], args := [d1, d2] }
  | _ => none }
def FnExactThenSymWrongFalsely : Prop := fnExactThenSymRow.holds Try.pinned (OpenSpec.ofChange fnExactThenSymWrong)

/-- 'laws.FnExactBackSym': WHATEVER THE INPUT: true; the input reads as it did. -/
def fnExactBackSymSpec : ChangeSpec := { name := "fnExactBackSym", fn := fun _ => fun
  | [d] => { results := [.lit (.bool true)], args := [d] }
  | _ => none }
def fnExactBackSymRow : OpenClaim := { program := "ytbeefbmgbmgbfaa", sum := "97199baffa98b0779600a267bb938540812db739d6ca0dd299caf9828a9293a3", func := "loop.example/g03020/laws.FnExactBackSym", spec := "fnExactBackSym", apart := false }
def FnExactBackSymSaid : Prop := fnExactBackSymRow.holds Try.pinned (OpenSpec.ofChange fnExactBackSymSpec)

/-- ITS FALSE NEIGHBOUR: 'it returns false'. Refute it at one input. -/
def fnExactBackSymWrong : ChangeSpec := { name := "fnExactBackSym", fn := fun _ => fun
  | [d] => { results := [.lit (.bool false)], args := [d] }
  | _ => none }
def FnExactBackSymWrongFalsely : Prop := fnExactBackSymRow.holds Try.pinned (OpenSpec.ofChange fnExactBackSymWrong)

/-- 'laws.FnExactSymsOf': WHATEVER THE INPUT: true; the input reads as it did. -/
def fnExactSymsOfSpec : ChangeSpec := { name := "fnExactSymsOf", fn := fun _ => fun
  | [d] => { results := [.lit (.bool true)], args := [d] }
  | _ => none }
def fnExactSymsOfRow : OpenClaim := { program := "ytbeefbmgbmgbfaa", sum := "97199baffa98b0779600a267bb938540812db739d6ca0dd299caf9828a9293a3", func := "loop.example/g03020/laws.FnExactSymsOf", spec := "fnExactSymsOf", apart := false }
def FnExactSymsOfSaid : Prop := fnExactSymsOfRow.holds Try.pinned (OpenSpec.ofChange fnExactSymsOfSpec)

/-- ITS FALSE NEIGHBOUR: 'it returns false'. Refute it at one input. -/
def fnExactSymsOfWrong : ChangeSpec := { name := "fnExactSymsOf", fn := fun _ => fun
  | [d] => { results := [.lit (.bool false)], args := [d] }
  | _ => none }
def FnExactSymsOfWrongFalsely : Prop := fnExactSymsOfRow.holds Try.pinned (OpenSpec.ofChange fnExactSymsOfWrong)

/-- 'laws.FnExactSymOfWord': WHATEVER THE INPUT: true; the input reads as it did. -/
def fnExactSymOfWordSpec : ChangeSpec := { name := "fnExactSymOfWord", fn := fun _ => fun
  | [d1, d2] => { results := [.lit (.bool true)], args := [d1, d2] }
  | _ => none }
def fnExactSymOfWordRow : OpenClaim := { program := "ytbeefbmgbmgbfaa", sum := "97199baffa98b0779600a267bb938540812db739d6ca0dd299caf9828a9293a3", func := "loop.example/g03020/laws.FnExactSymOfWord", spec := "fnExactSymOfWord", apart := false }
def FnExactSymOfWordSaid : Prop := fnExactSymOfWordRow.holds Try.pinned (OpenSpec.ofChange fnExactSymOfWordSpec)

/-- ITS FALSE NEIGHBOUR: 'it returns false'. Refute it at one input. -/
def fnExactSymOfWordWrong : ChangeSpec := { name := "fnExactSymOfWord", fn := fun _ => fun
  | [d1, d2] => { results := [.lit (.bool false)], args := [d1, d2] }
  | _ => none }
def FnExactSymOfWordWrongFalsely : Prop := fnExactSymOfWordRow.holds Try.pinned (OpenSpec.ofChange fnExactSymOfWordWrong)

/-- 'laws.FnExactWordOfSym': WHATEVER THE INPUT: true; the input reads as it did. -/
def fnExactWordOfSymSpec : ChangeSpec := { name := "fnExactWordOfSym", fn := fun _ => fun
  | [d1, d2] => { results := [.lit (.bool true)], args := [d1, d2] }
  | _ => none }
def fnExactWordOfSymRow : OpenClaim := { program := "ytbeefbmgbmgbfaa", sum := "97199baffa98b0779600a267bb938540812db739d6ca0dd299caf9828a9293a3", func := "loop.example/g03020/laws.FnExactWordOfSym", spec := "fnExactWordOfSym", apart := false }
def FnExactWordOfSymSaid : Prop := fnExactWordOfSymRow.holds Try.pinned (OpenSpec.ofChange fnExactWordOfSymSpec)

/-- ITS FALSE NEIGHBOUR: 'it returns false'. Refute it at one input. -/
def fnExactWordOfSymWrong : ChangeSpec := { name := "fnExactWordOfSym", fn := fun _ => fun
  | [d1, d2] => { results := [.lit (.bool false)], args := [d1, d2] }
  | _ => none }
def FnExactWordOfSymWrongFalsely : Prop := fnExactWordOfSymRow.holds Try.pinned (OpenSpec.ofChange fnExactWordOfSymWrong)

/- THE SECOND FORM. 'bulk': how many values and letters a reading holds, each counted each time it is reached (what is shared counts as often as it is met; a slice's spare places count too). A statement '..UptoSaid' is the law's where the arguments, and the package variables that the reading takes, are together of bulk at most 1048576: NARROWER than '..Said'. Prove '..Said' where nothing that the law and all that it calls make is longer than what came in: it says more and counts as full. Else prove '..UptoSaid'. A law counts once. -/
mutual
def uptoBulk {H : Type} : DataW H → Nat
  | .lit (.string bytes) => bytes.length + 1
  | .lit _ => 1
  | .nil => 1
  | .ptr d => uptoBulk d + 1
  | .slice elems spare => uptoBulkAll elems + uptoBulkAll spare + 1
  | .agg parts => uptoBulkAll parts + 1
  | .iface _ d => uptoBulk d + 1
  | .map entries => uptoBulkEntries entries + 1
  | .held _ => 1
def uptoBulkAll {H : Type} : List (DataW H) → Nat
  | [] => 0
  | d :: r => uptoBulk d + uptoBulkAll r
def uptoBulkEntries {H : Type} : List (Lit × DataW H) → Nat
  | [] => 0
  | x :: r => uptoBulkEntry x + uptoBulkEntries r
def uptoBulkEntry {H : Type} : Lit × DataW H → Nat
  | (.string bytes, d) => bytes.length + uptoBulk d + 1
  | (_, d) => uptoBulk d + 1
 end
def uptoSmall : (H : Type) → List (DataW H) → Bool := fun _ ds => decide (uptoBulkAll ds ≤ 1048576)
def OpenSpec.upto (s : _root_.Go.ChangeSpec) : _root_.Go.OpenSpec := { _root_.Go.OpenSpec.ofChange s with cond := some uptoSmall }

/-- 'laws.FnProducts', WHERE WHAT IT READS IS OF BULK AT MOST 1048576: true; the input reads as it did. -/
def fnProductsUptoRow : OpenClaim := { program := "ytbeefbmgbmgbfaa", sum := "97199baffa98b0779600a267bb938540812db739d6ca0dd299caf9828a9293a3", func := "loop.example/g03020/laws.FnProducts", spec := "fnProducts", apart := false, narrowed := true }
def FnProductsUptoSaid : Prop := fnProductsUptoRow.holds Try.pinned (OpenSpec.upto fnProductsSpec)

/-- 'laws.FnClosed', WHERE WHAT IT READS IS OF BULK AT MOST 1048576: true; the input reads as it did. -/
def fnClosedUptoRow : OpenClaim := { program := "ytbeefbmgbmgbfaa", sum := "97199baffa98b0779600a267bb938540812db739d6ca0dd299caf9828a9293a3", func := "loop.example/g03020/laws.FnClosed", spec := "fnClosed", apart := false, narrowed := true }
def FnClosedUptoSaid : Prop := fnClosedUptoRow.holds Try.pinned (OpenSpec.upto fnClosedSpec)

/-- 'laws.FnFold', WHERE WHAT IT READS IS OF BULK AT MOST 1048576: true; the input reads as it did. -/
def fnFoldUptoRow : OpenClaim := { program := "ytbeefbmgbmgbfaa", sum := "97199baffa98b0779600a267bb938540812db739d6ca0dd299caf9828a9293a3", func := "loop.example/g03020/laws.FnFold", spec := "fnFold", unfollowed := true, recurses := true, apart := false, narrowed := true }
def FnFoldUptoSaid : Prop := fnFoldUptoRow.holds Try.pinned (OpenSpec.upto fnFoldSpec)

/-- 'laws.FnOrbit', WHERE WHAT IT READS IS OF BULK AT MOST 1048576: true; the input reads as it did. -/
def fnOrbitUptoRow : OpenClaim := { program := "ytbeefbmgbmgbfaa", sum := "97199baffa98b0779600a267bb938540812db739d6ca0dd299caf9828a9293a3", func := "loop.example/g03020/laws.FnOrbit", spec := "fnOrbit", unfollowed := true, recurses := true, apart := false, narrowed := true }
def FnOrbitUptoSaid : Prop := fnOrbitUptoRow.holds Try.pinned (OpenSpec.upto fnOrbitSpec)

/-- 'laws.FnWords', WHERE WHAT IT READS IS OF BULK AT MOST 1048576: true; the input reads as it did. -/
def fnWordsUptoRow : OpenClaim := { program := "ytbeefbmgbmgbfaa", sum := "97199baffa98b0779600a267bb938540812db739d6ca0dd299caf9828a9293a3", func := "loop.example/g03020/laws.FnWords", spec := "fnWords", apart := false, narrowed := true }
def FnWordsUptoSaid : Prop := fnWordsUptoRow.holds Try.pinned (OpenSpec.upto fnWordsSpec)

/-- 'laws.FnExactIsSym', WHERE WHAT IT READS IS OF BULK AT MOST 1048576: true; the input reads as it did. -/
def fnExactIsSymUptoRow : OpenClaim := { program := "ytbeefbmgbmgbfaa", sum := "97199baffa98b0779600a267bb938540812db739d6ca0dd299caf9828a9293a3", func := "loop.example/g03020/laws.FnExactIsSym", spec := "fnExactIsSym", apart := false, narrowed := true }
def FnExactIsSymUptoSaid : Prop := fnExactIsSymUptoRow.holds Try.pinned (OpenSpec.upto fnExactIsSymSpec)

/-- 'laws.FnExactThenSym', WHERE WHAT IT READS IS OF BULK AT MOST 1048576: true; the input reads as it did. -/
def fnExactThenSymUptoRow : OpenClaim := { program := "ytbeefbmgbmgbfaa", sum := "97199baffa98b0779600a267bb938540812db739d6ca0dd299caf9828a9293a3", func := "loop.example/g03020/laws.FnExactThenSym", spec := "fnExactThenSym", apart := false, narrowed := true }
def FnExactThenSymUptoSaid : Prop := fnExactThenSymUptoRow.holds Try.pinned (OpenSpec.upto fnExactThenSymSpec)

/-- 'laws.FnExactBackSym', WHERE WHAT IT READS IS OF BULK AT MOST 1048576: true; the input reads as it did. -/
def fnExactBackSymUptoRow : OpenClaim := { program := "ytbeefbmgbmgbfaa", sum := "97199baffa98b0779600a267bb938540812db739d6ca0dd299caf9828a9293a3", func := "loop.example/g03020/laws.FnExactBackSym", spec := "fnExactBackSym", apart := false, narrowed := true }
def FnExactBackSymUptoSaid : Prop := fnExactBackSymUptoRow.holds Try.pinned (OpenSpec.upto fnExactBackSymSpec)

/-- 'laws.FnExactSymsOf', WHERE WHAT IT READS IS OF BULK AT MOST 1048576: true; the input reads as it did. -/
def fnExactSymsOfUptoRow : OpenClaim := { program := "ytbeefbmgbmgbfaa", sum := "97199baffa98b0779600a267bb938540812db739d6ca0dd299caf9828a9293a3", func := "loop.example/g03020/laws.FnExactSymsOf", spec := "fnExactSymsOf", apart := false, narrowed := true }
def FnExactSymsOfUptoSaid : Prop := fnExactSymsOfUptoRow.holds Try.pinned (OpenSpec.upto fnExactSymsOfSpec)

/-- 'laws.FnExactSymOfWord', WHERE WHAT IT READS IS OF BULK AT MOST 1048576: true; the input reads as it did. -/
def fnExactSymOfWordUptoRow : OpenClaim := { program := "ytbeefbmgbmgbfaa", sum := "97199baffa98b0779600a267bb938540812db739d6ca0dd299caf9828a9293a3", func := "loop.example/g03020/laws.FnExactSymOfWord", spec := "fnExactSymOfWord", apart := false, narrowed := true }
def FnExactSymOfWordUptoSaid : Prop := fnExactSymOfWordUptoRow.holds Try.pinned (OpenSpec.upto fnExactSymOfWordSpec)

/-- 'laws.FnExactWordOfSym', WHERE WHAT IT READS IS OF BULK AT MOST 1048576: true; the input reads as it did. -/
def fnExactWordOfSymUptoRow : OpenClaim := { program := "ytbeefbmgbmgbfaa", sum := "97199baffa98b0779600a267bb938540812db739d6ca0dd299caf9828a9293a3", func := "loop.example/g03020/laws.FnExactWordOfSym", spec := "fnExactWordOfSym", apart := false, narrowed := true }
def FnExactWordOfSymUptoSaid : Prop := fnExactWordOfSymUptoRow.holds Try.pinned (OpenSpec.upto fnExactWordOfSymSpec)

end Rows
end Go.Proofs.Ytbeefbmgbmgbfaa
