/-
  No cell of these rows narrows 'for every input' (looked for: loops, veiled, ifaces, maps, wideKeys, modest, calm, conditions, laid).
  DERIVED. THE GIVEN ROWS OF THIS SEAT. 3 by the template 'for every input the law returns true; each argument reads behind the call as it read before'; 0 by the template 'total and deterministic' (their statements: YtfdgijmmgllmgaaTotals.lean).
  GIVEN WITH THE SEED: the statements are not yours to turn. If you find one false, say at which input.
  Laid BY PROGRAM, IN A SANDBOX (cutbox-rows.mjs): the forced cells as the released guide's own fill.sh prints them over the translation 31549026726d1667… (all of the seat's roots in one cut). By AI agents, Wed Nov 11 2026. No macro, syntax, notation, axiom, sorry.
-/
import Derived.Test.YtfdgijmmgllmgaaChecked
import GoSem.Claim
import GoSem.ClaimJoined
import GoSem.ClaimMapViews
import Derived.JoinedTies
import Derived.KernelRfl
namespace Go.Proofs.Ytfdgijmmgllmgaa
/- THE CELL 'sum', in the pinned program and in every row, IS THE sha256 OF THE DUMP (.gsa) THAT YtfdgijmmgllmgaaProg.lean LOADS. Nothing in Lean hashes anything: it is a label: what it is worth is what the hold of that sum in a sandbox is worth. -/
noncomputable def Try.pinned : Pinned := { name := "ytfdgijmmgllmgaa", sum := "31549026726d16679dfd1d46566511c09996c20c2b46116b9002cd51cc448a26", checked := Try.checked }
namespace Rows
def none {H : Type} : Left H := { results := [], args := [] }

/-- 'laws.FnDiffer': WHATEVER THE INPUT: true; the input reads as it did. -/
def fnDifferSpec : ChangeSpec := { name := "fnDiffer", fn := fun _ => fun
  | [d] => { results := [.lit (.bool true)], args := [d] }
  | _ => none }
def fnDifferRow : OpenClaim := { program := "ytfdgijmmgllmgaa", sum := "31549026726d16679dfd1d46566511c09996c20c2b46116b9002cd51cc448a26", func := "loop.example/g03020/laws.FnDiffer", spec := "fnDiffer", inPlace := ["internal/abi.NoEscape", "internal/bytealg.MakeNoZero"], unfollowed := true, recurses := true, apart := false }
def FnDifferSaid : Prop := fnDifferRow.holds Try.pinned (OpenSpec.ofChange fnDifferSpec)

/-- ITS FALSE NEIGHBOUR: 'it returns false'. Refute it at one input. -/
def fnDifferWrong : ChangeSpec := { name := "fnDiffer", fn := fun _ => fun
  | [d] => { results := [.lit (.bool false)], args := [d] }
  | _ => none }
def FnDifferWrongFalsely : Prop := fnDifferRow.holds Try.pinned (OpenSpec.ofChange fnDifferWrong)

/-- 'laws.FnExactFormatPicture': WHATEVER THE INPUT: true; the input reads as it did. -/
def fnExactFormatPictureSpec : ChangeSpec := { name := "fnExactFormatPicture", fn := fun _ => fun
  | [d] => { results := [.lit (.bool true)], args := [d] }
  | _ => none }
def fnExactFormatPictureRow : OpenClaim := { program := "ytfdgijmmgllmgaa", sum := "31549026726d16679dfd1d46566511c09996c20c2b46116b9002cd51cc448a26", func := "loop.example/g03020/laws.FnExactFormatPicture", spec := "fnExactFormatPicture", inPlace := ["internal/abi.NoEscape", "internal/bytealg.MakeNoZero"], unfollowed := true, recurses := true, apart := false }
def FnExactFormatPictureSaid : Prop := fnExactFormatPictureRow.holds Try.pinned (OpenSpec.ofChange fnExactFormatPictureSpec)

/-- ITS FALSE NEIGHBOUR: 'it returns false'. Refute it at one input. -/
def fnExactFormatPictureWrong : ChangeSpec := { name := "fnExactFormatPicture", fn := fun _ => fun
  | [d] => { results := [.lit (.bool false)], args := [d] }
  | _ => none }
def FnExactFormatPictureWrongFalsely : Prop := fnExactFormatPictureRow.holds Try.pinned (OpenSpec.ofChange fnExactFormatPictureWrong)

/-- 'laws.FnExactNewShow': WHATEVER THE INPUT: true; the input reads as it did. -/
def fnExactNewShowSpec : ChangeSpec := { name := "fnExactNewShow", fn := fun _ => fun
  | [d1, d2, d3, d4] => { results := [.lit (.bool true)], args := [d1, d2, d3, d4] }
  | _ => none }
def fnExactNewShowRow : OpenClaim := { program := "ytfdgijmmgllmgaa", sum := "31549026726d16679dfd1d46566511c09996c20c2b46116b9002cd51cc448a26", func := "loop.example/g03020/laws.FnExactNewShow", spec := "fnExactNewShow", unfollowed := true, recurses := true, apart := false }
def FnExactNewShowSaid : Prop := fnExactNewShowRow.holds Try.pinned (OpenSpec.ofChange fnExactNewShowSpec)

/-- ITS FALSE NEIGHBOUR: 'it returns false'. Refute it at one input. -/
def fnExactNewShowWrong : ChangeSpec := { name := "fnExactNewShow", fn := fun _ => fun
  | [d1, d2, d3, d4] => { results := [.lit (.bool false)], args := [d1, d2, d3, d4] }
  | _ => none }
def FnExactNewShowWrongFalsely : Prop := fnExactNewShowRow.holds Try.pinned (OpenSpec.ofChange fnExactNewShowWrong)

/- THE SECOND FORM. 'bulk': how many values and letters a reading holds, each counted each time it is reached (what is shared counts as often as it is met; a slice's spare places count too). A statement '..UptoSaid' is the law's where the arguments, and the package variables that the reading takes, are together of bulk at most 1048576: NARROWER than '..Said'. Prove '..Said' where nothing that the law and all that it calls make is longer than what came in: it says more and counts as full. Else prove '..UptoSaid'. A law counts once. -/
mutual
def uptoBulk {H : Type} : DataW H → Nat
  | .lit (.string bytes) => bytes.length + 1
  | .lit _ => 1
  | .nil => 1
  | .ptr d => uptoBulk d + 1
  | .slice elems spare => uptoBulkAll elems + uptoBulkAll spare + 1
  | .agg parts => uptoBulkAll parts + 1
  | .iface _ d => uptoBulk d + 1
  | .map entries => uptoBulkEntries entries + 1
  | .held _ => 1
def uptoBulkAll {H : Type} : List (DataW H) → Nat
  | [] => 0
  | d :: r => uptoBulk d + uptoBulkAll r
def uptoBulkEntries {H : Type} : List (Lit × DataW H) → Nat
  | [] => 0
  | x :: r => uptoBulkEntry x + uptoBulkEntries r
def uptoBulkEntry {H : Type} : Lit × DataW H → Nat
  | (.string bytes, d) => bytes.length + uptoBulk d + 1
  | (_, d) => uptoBulk d + 1
 end
def uptoSmall : (H : Type) → List (DataW H) → Bool := fun _ ds => decide (uptoBulkAll ds ≤ 1048576)
def OpenSpec.upto (s : _root_.Go.ChangeSpec) : _root_.Go.OpenSpec := { _root_.Go.OpenSpec.ofChange s with cond := some uptoSmall }

/-- 'laws.FnDiffer', WHERE WHAT IT READS IS OF BULK AT MOST 1048576: true; the input reads as it did. -/
def fnDifferUptoRow : OpenClaim := { program := "ytfdgijmmgllmgaa", sum := "31549026726d16679dfd1d46566511c09996c20c2b46116b9002cd51cc448a26", func := "loop.example/g03020/laws.FnDiffer", spec := "fnDiffer", inPlace := ["internal/abi.NoEscape", "internal/bytealg.MakeNoZero"], unfollowed := true, recurses := true, apart := false, narrowed := true }
def FnDifferUptoSaid : Prop := fnDifferUptoRow.holds Try.pinned (OpenSpec.upto fnDifferSpec)

/-- 'laws.FnExactFormatPicture', WHERE WHAT IT READS IS OF BULK AT MOST 1048576: true; the input reads as it did. -/
def fnExactFormatPictureUptoRow : OpenClaim := { program := "ytfdgijmmgllmgaa", sum := "31549026726d16679dfd1d46566511c09996c20c2b46116b9002cd51cc448a26", func := "loop.example/g03020/laws.FnExactFormatPicture", spec := "fnExactFormatPicture", inPlace := ["internal/abi.NoEscape", "internal/bytealg.MakeNoZero"], unfollowed := true, recurses := true, apart := false, narrowed := true }
def FnExactFormatPictureUptoSaid : Prop := fnExactFormatPictureUptoRow.holds Try.pinned (OpenSpec.upto fnExactFormatPictureSpec)

/-- 'laws.FnExactNewShow', WHERE WHAT IT READS IS OF BULK AT MOST 1048576: true; the input reads as it did. -/
def fnExactNewShowUptoRow : OpenClaim := { program := "ytfdgijmmgllmgaa", sum := "31549026726d16679dfd1d46566511c09996c20c2b46116b9002cd51cc448a26", func := "loop.example/g03020/laws.FnExactNewShow", spec := "fnExactNewShow", unfollowed := true, recurses := true, apart := false, narrowed := true }
def FnExactNewShowUptoSaid : Prop := fnExactNewShowUptoRow.holds Try.pinned (OpenSpec.upto fnExactNewShowSpec)

end Rows
end Go.Proofs.Ytfdgijmmgllmgaa
