/-
  No cell of these rows narrows 'for every input' (looked for: loops, veiled, ifaces, maps, wideKeys, modest, calm, conditions, laid).
  DERIVED. THE GIVEN ROWS OF THIS SEAT. 7 by the template 'for every input the law returns true; each argument reads behind the call as it read before'; 0 by the template 'total and deterministic' (their statements: YtekkgpanmccdgaaTotals.lean).
  GIVEN WITH THE SEED: the statements are not yours to turn. If you find one false, say at which input.
  Laid BY PROGRAM, IN A SANDBOX (cutbox-rows.mjs): the forced cells as the released guide's own fill.sh prints them over the translation 0145371fba4ed02f… (all of the seat's roots in one cut). By AI agents, Wed Nov 11 2026. No macro, syntax, notation, axiom, sorry.
-/
import Derived.Test.YtekkgpanmccdgaaChecked
import GoSem.Claim
import GoSem.ClaimJoined
import GoSem.ClaimMapViews
import Derived.JoinedTies
import Derived.KernelRfl
namespace Go.Proofs.Ytekkgpanmccdgaa
/- THE CELL 'sum', in the pinned program and in every row, IS THE sha256 OF THE DUMP (.gsa) THAT YtekkgpanmccdgaaProg.lean LOADS. Nothing in Lean hashes anything: it is a label: what it is worth is what the hold of that sum in a sandbox is worth. -/
noncomputable def Try.pinned : Pinned := { name := "ytekkgpanmccdgaa", sum := "0145371fba4ed02f8cf8fa9eae1003c6d9a8f61d4de650dc0700ef72b4885f56", checked := Try.checked }
namespace Rows
def none {H : Type} : Left H := { results := [], args := [] }

/-- 'laws.FnDiffer': WHATEVER THE INPUT: true; the input reads as it did. -/
def fnDifferSpec : ChangeSpec := { name := "fnDiffer", fn := fun _ => fun
  | [d] => { results := [.lit (.bool true)], args := [d] }
  | _ => none }
def fnDifferRow : OpenClaim := { program := "ytekkgpanmccdgaa", sum := "0145371fba4ed02f8cf8fa9eae1003c6d9a8f61d4de650dc0700ef72b4885f56", func := "loop.example/g03020/laws.FnDiffer", spec := "fnDiffer", inPlace := ["internal/abi.NoEscape", "internal/bytealg.MakeNoZero"], unfollowed := true, recurses := true, apart := false }
def FnDifferSaid : Prop := fnDifferRow.holds Try.pinned (OpenSpec.ofChange fnDifferSpec)

/-- ITS FALSE NEIGHBOUR: 'it returns false'. Refute it at one input. -/
def fnDifferWrong : ChangeSpec := { name := "fnDiffer", fn := fun _ => fun
  | [d] => { results := [.lit (.bool false)], args := [d] }
  | _ => none }
def FnDifferWrongFalsely : Prop := fnDifferRow.holds Try.pinned (OpenSpec.ofChange fnDifferWrong)

/-- 'laws.FnTumbles': WHATEVER THE INPUT: true; the input reads as it did. -/
def fnTumblesSpec : ChangeSpec := { name := "fnTumbles", fn := fun _ => fun
  | [d] => { results := [.lit (.bool true)], args := [d] }
  | _ => none }
def fnTumblesRow : OpenClaim := { program := "ytekkgpanmccdgaa", sum := "0145371fba4ed02f8cf8fa9eae1003c6d9a8f61d4de650dc0700ef72b4885f56", func := "loop.example/g03020/laws.FnTumbles", spec := "fnTumbles", unfollowed := true, recurses := true, apart := false }
def FnTumblesSaid : Prop := fnTumblesRow.holds Try.pinned (OpenSpec.ofChange fnTumblesSpec)

/-- ITS FALSE NEIGHBOUR: 'it returns false'. Refute it at one input. -/
def fnTumblesWrong : ChangeSpec := { name := "fnTumbles", fn := fun _ => fun
  | [d] => { results := [.lit (.bool false)], args := [d] }
  | _ => none }
def FnTumblesWrongFalsely : Prop := fnTumblesRow.holds Try.pinned (OpenSpec.ofChange fnTumblesWrong)

/-- 'laws.FnFoldedWay': WHATEVER THE INPUT: true; the input reads as it did. -/
def fnFoldedWaySpec : ChangeSpec := { name := "fnFoldedWay", fn := fun _ => fun
  | [d] => { results := [.lit (.bool true)], args := [d] }
  | _ => none }
def fnFoldedWayRow : OpenClaim := { program := "ytekkgpanmccdgaa", sum := "0145371fba4ed02f8cf8fa9eae1003c6d9a8f61d4de650dc0700ef72b4885f56", func := "loop.example/g03020/laws.FnFoldedWay", spec := "fnFoldedWay", unfollowed := true, recurses := true, apart := false }
def FnFoldedWaySaid : Prop := fnFoldedWayRow.holds Try.pinned (OpenSpec.ofChange fnFoldedWaySpec)

/-- ITS FALSE NEIGHBOUR: 'it returns false'. Refute it at one input. -/
def fnFoldedWayWrong : ChangeSpec := { name := "fnFoldedWay", fn := fun _ => fun
  | [d] => { results := [.lit (.bool false)], args := [d] }
  | _ => none }
def FnFoldedWayWrongFalsely : Prop := fnFoldedWayRow.holds Try.pinned (OpenSpec.ofChange fnFoldedWayWrong)

/-- 'laws.FnLost': WHATEVER THE INPUT: true; the input reads as it did. -/
def fnLostSpec : ChangeSpec := { name := "fnLost", fn := fun _ => fun
  | [d] => { results := [.lit (.bool true)], args := [d] }
  | _ => none }
def fnLostRow : OpenClaim := { program := "ytekkgpanmccdgaa", sum := "0145371fba4ed02f8cf8fa9eae1003c6d9a8f61d4de650dc0700ef72b4885f56", func := "loop.example/g03020/laws.FnLost", spec := "fnLost", unfollowed := true, recurses := true, apart := false }
def FnLostSaid : Prop := fnLostRow.holds Try.pinned (OpenSpec.ofChange fnLostSpec)

/-- ITS FALSE NEIGHBOUR: 'it returns false'. Refute it at one input. -/
def fnLostWrong : ChangeSpec := { name := "fnLost", fn := fun _ => fun
  | [d] => { results := [.lit (.bool false)], args := [d] }
  | _ => none }
def FnLostWrongFalsely : Prop := fnLostRow.holds Try.pinned (OpenSpec.ofChange fnLostWrong)

/-- 'laws.FnBounces': WHATEVER THE INPUT: true; the input reads as it did. -/
def fnBouncesSpec : ChangeSpec := { name := "fnBounces", fn := fun _ => fun
  | [d] => { results := [.lit (.bool true)], args := [d] }
  | _ => none }
def fnBouncesRow : OpenClaim := { program := "ytekkgpanmccdgaa", sum := "0145371fba4ed02f8cf8fa9eae1003c6d9a8f61d4de650dc0700ef72b4885f56", func := "loop.example/g03020/laws.FnBounces", spec := "fnBounces", unfollowed := true, recurses := true, apart := false }
def FnBouncesSaid : Prop := fnBouncesRow.holds Try.pinned (OpenSpec.ofChange fnBouncesSpec)

/-- ITS FALSE NEIGHBOUR: 'it returns false'. Refute it at one input. -/
def fnBouncesWrong : ChangeSpec := { name := "fnBounces", fn := fun _ => fun
  | [d] => { results := [.lit (.bool false)], args := [d] }
  | _ => none }
def FnBouncesWrongFalsely : Prop := fnBouncesRow.holds Try.pinned (OpenSpec.ofChange fnBouncesWrong)

/-- 'laws.FnTurnedTumble': WHATEVER THE INPUT: true; the input reads as it did. -/
def fnTurnedTumbleSpec : ChangeSpec := { name := "fnTurnedTumble", fn := fun _ => fun
  | [d] => { results := [.lit (.bool true)], args := [d] }
  | _ => none }
def fnTurnedTumbleRow : OpenClaim := { program := "ytekkgpanmccdgaa", sum := "0145371fba4ed02f8cf8fa9eae1003c6d9a8f61d4de650dc0700ef72b4885f56", func := "loop.example/g03020/laws.FnTurnedTumble", spec := "fnTurnedTumble", unfollowed := true, recurses := true, apart := false }
def FnTurnedTumbleSaid : Prop := fnTurnedTumbleRow.holds Try.pinned (OpenSpec.ofChange fnTurnedTumbleSpec)

/-- ITS FALSE NEIGHBOUR: 'it returns false'. Refute it at one input. -/
def fnTurnedTumbleWrong : ChangeSpec := { name := "fnTurnedTumble", fn := fun _ => fun
  | [d] => { results := [.lit (.bool false)], args := [d] }
  | _ => none }
def FnTurnedTumbleWrongFalsely : Prop := fnTurnedTumbleRow.holds Try.pinned (OpenSpec.ofChange fnTurnedTumbleWrong)

/-- 'laws.FnExactFormatPicture': WHATEVER THE INPUT: true; the input reads as it did. -/
def fnExactFormatPictureSpec : ChangeSpec := { name := "fnExactFormatPicture", fn := fun _ => fun
  | [d] => { results := [.lit (.bool true)], args := [d] }
  | _ => none }
def fnExactFormatPictureRow : OpenClaim := { program := "ytekkgpanmccdgaa", sum := "0145371fba4ed02f8cf8fa9eae1003c6d9a8f61d4de650dc0700ef72b4885f56", func := "loop.example/g03020/laws.FnExactFormatPicture", spec := "fnExactFormatPicture", inPlace := ["internal/abi.NoEscape", "internal/bytealg.MakeNoZero"], unfollowed := true, recurses := true, apart := false }
def FnExactFormatPictureSaid : Prop := fnExactFormatPictureRow.holds Try.pinned (OpenSpec.ofChange fnExactFormatPictureSpec)

/-- ITS FALSE NEIGHBOUR: 'it returns false'. Refute it at one input. -/
def fnExactFormatPictureWrong : ChangeSpec := { name := "fnExactFormatPicture", fn := fun _ => fun
  | [d] => { results := [.lit (.bool false)], args := [d] }
  | _ => none }
def FnExactFormatPictureWrongFalsely : Prop := fnExactFormatPictureRow.holds Try.pinned (OpenSpec.ofChange fnExactFormatPictureWrong)

/- THE SECOND FORM. 'bulk': how many values and letters a reading holds, each counted each time it is reached (what is shared counts as often as it is met; a slice's spare places count too). A statement '..UptoSaid' is the law's where the arguments, and the package variables that the reading takes, are together of bulk at most 1048576: NARROWER than '..Said'. Prove '..Said' where nothing that the law and all that it calls make is longer than what came in: it says more and counts as full. Else prove '..UptoSaid'. A law counts once. -/
mutual
def uptoBulk {H : Type} : DataW H → Nat
  | .lit (.string bytes) => bytes.length + 1
  | .lit _ => 1
  | .nil => 1
  | .ptr d => uptoBulk d + 1
  | .slice elems spare => uptoBulkAll elems + uptoBulkAll spare + 1
  | .agg parts => uptoBulkAll parts + 1
  | .iface _ d => uptoBulk d + 1
  | .map entries => uptoBulkEntries entries + 1
  | .held _ => 1
def uptoBulkAll {H : Type} : List (DataW H) → Nat
  | [] => 0
  | d :: r => uptoBulk d + uptoBulkAll r
def uptoBulkEntries {H : Type} : List (Lit × DataW H) → Nat
  | [] => 0
  | x :: r => uptoBulkEntry x + uptoBulkEntries r
def uptoBulkEntry {H : Type} : Lit × DataW H → Nat
  | (.string bytes, d) => bytes.length + uptoBulk d + 1
  | (_, d) => uptoBulk d + 1
 end
def uptoSmall : (H : Type) → List (DataW H) → Bool := fun _ ds => decide (uptoBulkAll ds ≤ 1048576)
def OpenSpec.upto (s : _root_.Go.ChangeSpec) : _root_.Go.OpenSpec := { _root_.Go.OpenSpec.ofChange s with cond := some uptoSmall }

/-- 'laws.FnDiffer', WHERE WHAT IT READS IS OF BULK AT MOST 1048576: true; the input reads as it did. -/
def fnDifferUptoRow : OpenClaim := { program := "ytekkgpanmccdgaa", sum := "0145371fba4ed02f8cf8fa9eae1003c6d9a8f61d4de650dc0700ef72b4885f56", func := "loop.example/g03020/laws.FnDiffer", spec := "fnDiffer", inPlace := ["internal/abi.NoEscape", "internal/bytealg.MakeNoZero"], unfollowed := true, recurses := true, apart := false, narrowed := true }
def FnDifferUptoSaid : Prop := fnDifferUptoRow.holds Try.pinned (OpenSpec.upto fnDifferSpec)

/-- 'laws.FnTumbles', WHERE WHAT IT READS IS OF BULK AT MOST 1048576: true; the input reads as it did. -/
def fnTumblesUptoRow : OpenClaim := { program := "ytekkgpanmccdgaa", sum := "0145371fba4ed02f8cf8fa9eae1003c6d9a8f61d4de650dc0700ef72b4885f56", func := "loop.example/g03020/laws.FnTumbles", spec := "fnTumbles", unfollowed := true, recurses := true, apart := false, narrowed := true }
def FnTumblesUptoSaid : Prop := fnTumblesUptoRow.holds Try.pinned (OpenSpec.upto fnTumblesSpec)

/-- 'laws.FnFoldedWay', WHERE WHAT IT READS IS OF BULK AT MOST 1048576: true; the input reads as it did. -/
def fnFoldedWayUptoRow : OpenClaim := { program := "ytekkgpanmccdgaa", sum := "0145371fba4ed02f8cf8fa9eae1003c6d9a8f61d4de650dc0700ef72b4885f56", func := "loop.example/g03020/laws.FnFoldedWay", spec := "fnFoldedWay", unfollowed := true, recurses := true, apart := false, narrowed := true }
def FnFoldedWayUptoSaid : Prop := fnFoldedWayUptoRow.holds Try.pinned (OpenSpec.upto fnFoldedWaySpec)

/-- 'laws.FnLost', WHERE WHAT IT READS IS OF BULK AT MOST 1048576: true; the input reads as it did. -/
def fnLostUptoRow : OpenClaim := { program := "ytekkgpanmccdgaa", sum := "0145371fba4ed02f8cf8fa9eae1003c6d9a8f61d4de650dc0700ef72b4885f56", func := "loop.example/g03020/laws.FnLost", spec := "fnLost", unfollowed := true, recurses := true, apart := false, narrowed := true }
def FnLostUptoSaid : Prop := fnLostUptoRow.holds Try.pinned (OpenSpec.upto fnLostSpec)

/-- 'laws.FnBounces', WHERE WHAT IT READS IS OF BULK AT MOST 1048576: true; the input reads as it did. -/
def fnBouncesUptoRow : OpenClaim := { program := "ytekkgpanmccdgaa", sum := "0145371fba4ed02f8cf8fa9eae1003c6d9a8f61d4de650dc0700ef72b4885f56", func := "loop.example/g03020/laws.FnBounces", spec := "fnBounces", unfollowed := true, recurses := true, apart := false, narrowed := true }
def FnBouncesUptoSaid : Prop := fnBouncesUptoRow.holds Try.pinned (OpenSpec.upto fnBouncesSpec)

/-- 'laws.FnTurnedTumble', WHERE WHAT IT READS IS OF BULK AT MOST 1048576: true; the input reads as it did. -/
def fnTurnedTumbleUptoRow : OpenClaim := { program := "ytekkgpanmccdgaa", sum := "0145371fba4ed02f8cf8fa9eae1003c6d9a8f61d4de650dc0700ef72b4885f56", func := "loop.example/g03020/laws.FnTurnedTumble", spec := "fnTurnedTumble", unfollowed := true, recurses := true, apart := false, narrowed := true }
def FnTurnedTumbleUptoSaid : Prop := fnTurnedTumbleUptoRow.holds Try.pinned (OpenSpec.upto fnTurnedTumbleSpec)

/-- 'laws.FnExactFormatPicture', WHERE WHAT IT READS IS OF BULK AT MOST 1048576: true; the input reads as it did. -/
def fnExactFormatPictureUptoRow : OpenClaim := { program := "ytekkgpanmccdgaa", sum := "0145371fba4ed02f8cf8fa9eae1003c6d9a8f61d4de650dc0700ef72b4885f56", func := "loop.example/g03020/laws.FnExactFormatPicture", spec := "fnExactFormatPicture", inPlace := ["internal/abi.NoEscape", "internal/bytealg.MakeNoZero"], unfollowed := true, recurses := true, apart := false, narrowed := true }
def FnExactFormatPictureUptoSaid : Prop := fnExactFormatPictureUptoRow.holds Try.pinned (OpenSpec.upto fnExactFormatPictureSpec)

end Rows
end Go.Proofs.Ytekkgpanmccdgaa
