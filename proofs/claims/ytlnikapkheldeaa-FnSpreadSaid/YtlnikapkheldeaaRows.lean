/-
  No cell of these rows narrows 'for every input' (looked for: loops, veiled, ifaces, maps, wideKeys, modest, calm, conditions, laid).
  DERIVED. THE GIVEN ROWS OF THIS SEAT. 17 by the template 'for every input the law returns true; each argument reads behind the call as it read before'; 0 by the template 'total and deterministic' (their statements: YtlnikapkheldeaaTotals.lean).
  GIVEN WITH THE SEED: the statements are not yours to turn. If you find one false, say at which input.
  Laid BY PROGRAM, IN A SANDBOX (cutbox-rows.mjs): the forced cells as the released guide's own fill.sh prints them over the translation 057911f2b6036231… (all of the seat's roots in one cut). By AI agents, Wed Nov 11 2026. No macro, syntax, notation, axiom, sorry.
-/
import Derived.Test.YtlnikapkheldeaaChecked
import GoSem.Claim
import GoSem.ClaimJoined
import GoSem.ClaimMapViews
import Derived.JoinedTies
import Derived.KernelRfl
namespace Go.Proofs.Ytlnikapkheldeaa
/- THE CELL 'sum', in the pinned program and in every row, IS THE sha256 OF THE DUMP (.gsa) THAT YtlnikapkheldeaaProg.lean LOADS. Nothing in Lean hashes anything: it is a label: what it is worth is what the hold of that sum in a sandbox is worth. -/
noncomputable def Try.pinned : Pinned := { name := "ytlnikapkheldeaa", sum := "057911f2b6036231f3881dbf73815bf7ca3b1eb78a44f0878cc8e237864abe9c", checked := Try.checked }
namespace Rows
def none {H : Type} : Left H := { results := [], args := [] }

/-- 'laws.FnCells': WHATEVER THE INPUT: true; the input reads as it did. -/
def fnCellsSpec : ChangeSpec := { name := "fnCells", fn := fun _ => fun
  | [d] => { results := [.lit (.bool true)], args := [d] }
  | _ => none }
def fnCellsRow : OpenClaim := { program := "ytlnikapkheldeaa", sum := "057911f2b6036231f3881dbf73815bf7ca3b1eb78a44f0878cc8e237864abe9c", func := "loop.example/g03020/laws.FnCells", spec := "fnCells", plainKeys := false, apart := false }
def FnCellsSaid : Prop := fnCellsRow.holds Try.pinned (OpenSpec.ofChange fnCellsSpec)

/-- ITS FALSE NEIGHBOUR: 'it returns false'. Refute it at one input. -/
def fnCellsWrong : ChangeSpec := { name := "fnCells", fn := fun _ => fun
  | [d] => { results := [.lit (.bool false)], args := [d] }
  | _ => none }
def FnCellsWrongFalsely : Prop := fnCellsRow.holds Try.pinned (OpenSpec.ofChange fnCellsWrong)

/-- 'laws.FnPictures': WHATEVER THE INPUT: true; the input reads as it did. -/
def fnPicturesSpec : ChangeSpec := { name := "fnPictures", fn := fun _ => fun
  | [d] => { results := [.lit (.bool true)], args := [d] }
  | _ => none }
def fnPicturesRow : OpenClaim := { program := "ytlnikapkheldeaa", sum := "057911f2b6036231f3881dbf73815bf7ca3b1eb78a44f0878cc8e237864abe9c", func := "loop.example/g03020/laws.FnPictures", spec := "fnPictures", unfollowed := true, recurses := true, plainKeys := false, apart := false }
def FnPicturesSaid : Prop := fnPicturesRow.holds Try.pinned (OpenSpec.ofChange fnPicturesSpec)

/-- ITS FALSE NEIGHBOUR: 'it returns false'. Refute it at one input. -/
def fnPicturesWrong : ChangeSpec := { name := "fnPictures", fn := fun _ => fun
  | [d] => { results := [.lit (.bool false)], args := [d] }
  | _ => none }
def FnPicturesWrongFalsely : Prop := fnPicturesRow.holds Try.pinned (OpenSpec.ofChange fnPicturesWrong)

/-- 'laws.FnTaken': WHATEVER THE INPUT: true; the input reads as it did. -/
def fnTakenSpec : ChangeSpec := { name := "fnTaken", fn := fun _ => fun
  | [d] => { results := [.lit (.bool true)], args := [d] }
  | _ => none }
def fnTakenRow : OpenClaim := { program := "ytlnikapkheldeaa", sum := "057911f2b6036231f3881dbf73815bf7ca3b1eb78a44f0878cc8e237864abe9c", func := "loop.example/g03020/laws.FnTaken", spec := "fnTaken", unfollowed := true, recurses := true, plainKeys := false, apart := false }
def FnTakenSaid : Prop := fnTakenRow.holds Try.pinned (OpenSpec.ofChange fnTakenSpec)

/-- ITS FALSE NEIGHBOUR: 'it returns false'. Refute it at one input. -/
def fnTakenWrong : ChangeSpec := { name := "fnTaken", fn := fun _ => fun
  | [d] => { results := [.lit (.bool false)], args := [d] }
  | _ => none }
def FnTakenWrongFalsely : Prop := fnTakenRow.holds Try.pinned (OpenSpec.ofChange fnTakenWrong)

/-- 'laws.FnTurnedGlass': WHATEVER THE INPUT: true; the input reads as it did. -/
def fnTurnedGlassSpec : ChangeSpec := { name := "fnTurnedGlass", fn := fun _ => fun
  | [d] => { results := [.lit (.bool true)], args := [d] }
  | _ => none }
def fnTurnedGlassRow : OpenClaim := { program := "ytlnikapkheldeaa", sum := "057911f2b6036231f3881dbf73815bf7ca3b1eb78a44f0878cc8e237864abe9c", func := "loop.example/g03020/laws.FnTurnedGlass", spec := "fnTurnedGlass", unfollowed := true, recurses := true, plainKeys := false, apart := false }
def FnTurnedGlassSaid : Prop := fnTurnedGlassRow.holds Try.pinned (OpenSpec.ofChange fnTurnedGlassSpec)

/-- ITS FALSE NEIGHBOUR: 'it returns false'. Refute it at one input. -/
def fnTurnedGlassWrong : ChangeSpec := { name := "fnTurnedGlass", fn := fun _ => fun
  | [d] => { results := [.lit (.bool false)], args := [d] }
  | _ => none }
def FnTurnedGlassWrongFalsely : Prop := fnTurnedGlassRow.holds Try.pinned (OpenSpec.ofChange fnTurnedGlassWrong)

/-- 'laws.FnSpread': WHATEVER THE INPUT: true; the input reads as it did. -/
def fnSpreadSpec : ChangeSpec := { name := "fnSpread", fn := fun _ => fun
  | [d] => { results := [.lit (.bool true)], args := [d] }
  | _ => none }
def fnSpreadRow : OpenClaim := { program := "ytlnikapkheldeaa", sum := "057911f2b6036231f3881dbf73815bf7ca3b1eb78a44f0878cc8e237864abe9c", func := "loop.example/g03020/laws.FnSpread", spec := "fnSpread", unfollowed := true, recurses := true, plainKeys := false, apart := false }
def FnSpreadSaid : Prop := fnSpreadRow.holds Try.pinned (OpenSpec.ofChange fnSpreadSpec)

/-- ITS FALSE NEIGHBOUR: 'it returns false'. Refute it at one input. -/
def fnSpreadWrong : ChangeSpec := { name := "fnSpread", fn := fun _ => fun
  | [d] => { results := [.lit (.bool false)], args := [d] }
  | _ => none }
def FnSpreadWrongFalsely : Prop := fnSpreadRow.holds Try.pinned (OpenSpec.ofChange fnSpreadWrong)

/-- 'laws.FnDiffer': WHATEVER THE INPUT: true; the input reads as it did. -/
def fnDifferSpec : ChangeSpec := { name := "fnDiffer", fn := fun _ => fun
  | [d] => { results := [.lit (.bool true)], args := [d] }
  | _ => none }
def fnDifferRow : OpenClaim := { program := "ytlnikapkheldeaa", sum := "057911f2b6036231f3881dbf73815bf7ca3b1eb78a44f0878cc8e237864abe9c", func := "loop.example/g03020/laws.FnDiffer", spec := "fnDiffer", inPlace := ["internal/abi.NoEscape", "internal/bytealg.MakeNoZero"], unfollowed := true, recurses := true, plainKeys := false, apart := false }
def FnDifferSaid : Prop := fnDifferRow.holds Try.pinned (OpenSpec.ofChange fnDifferSpec)

/-- ITS FALSE NEIGHBOUR: 'it returns false'. Refute it at one input. -/
def fnDifferWrong : ChangeSpec := { name := "fnDiffer", fn := fun _ => fun
  | [d] => { results := [.lit (.bool false)], args := [d] }
  | _ => none }
def FnDifferWrongFalsely : Prop := fnDifferRow.holds Try.pinned (OpenSpec.ofChange fnDifferWrong)

/-- 'laws.FnExactIsPicture': WHATEVER THE INPUT: true; the input reads as it did. -/
def fnExactIsPictureSpec : ChangeSpec := { name := "fnExactIsPicture", fn := fun _ => fun
  | [d] => { results := [.lit (.bool true)], args := [d] }
  | _ => none }
def fnExactIsPictureRow : OpenClaim := { program := "ytlnikapkheldeaa", sum := "057911f2b6036231f3881dbf73815bf7ca3b1eb78a44f0878cc8e237864abe9c", func := "loop.example/g03020/laws.FnExactIsPicture", spec := "fnExactIsPicture", unfollowed := true, recurses := true, plainKeys := false, apart := false }
def FnExactIsPictureSaid : Prop := fnExactIsPictureRow.holds Try.pinned (OpenSpec.ofChange fnExactIsPictureSpec)

/-- ITS FALSE NEIGHBOUR: 'it returns false'. Refute it at one input. -/
def fnExactIsPictureWrong : ChangeSpec := { name := "fnExactIsPicture", fn := fun _ => fun
  | [d] => { results := [.lit (.bool false)], args := [d] }
  | _ => none }
def FnExactIsPictureWrongFalsely : Prop := fnExactIsPictureRow.holds Try.pinned (OpenSpec.ofChange fnExactIsPictureWrong)

/-- 'laws.FnExactPlaceOf': WHATEVER THE INPUT: true; the input reads as it did. -/
def fnExactPlaceOfSpec : ChangeSpec := { name := "fnExactPlaceOf", fn := fun _ => fun
  | [d1, d2] => { results := [.lit (.bool true)], args := [d1, d2] }
  | _ => none }
def fnExactPlaceOfRow : OpenClaim := { program := "ytlnikapkheldeaa", sum := "057911f2b6036231f3881dbf73815bf7ca3b1eb78a44f0878cc8e237864abe9c", func := "loop.example/g03020/laws.FnExactPlaceOf", spec := "fnExactPlaceOf", plainKeys := false, apart := false }
def FnExactPlaceOfSaid : Prop := fnExactPlaceOfRow.holds Try.pinned (OpenSpec.ofChange fnExactPlaceOfSpec)

/-- ITS FALSE NEIGHBOUR: 'it returns false'. Refute it at one input. -/
def fnExactPlaceOfWrong : ChangeSpec := { name := "fnExactPlaceOf", fn := fun _ => fun
  | [d1, d2] => { results := [.lit (.bool false)], args := [d1, d2] }
  | _ => none }
def FnExactPlaceOfWrongFalsely : Prop := fnExactPlaceOfRow.holds Try.pinned (OpenSpec.ofChange fnExactPlaceOfWrong)

/-- 'laws.FnExactCellTo': WHATEVER THE INPUT: true; the input reads as it did. -/
def fnExactCellToSpec : ChangeSpec := { name := "fnExactCellTo", fn := fun _ => fun
  | [d1, d2, d3] => { results := [.lit (.bool true)], args := [d1, d2, d3] }
  | _ => none }
def fnExactCellToRow : OpenClaim := { program := "ytlnikapkheldeaa", sum := "057911f2b6036231f3881dbf73815bf7ca3b1eb78a44f0878cc8e237864abe9c", func := "loop.example/g03020/laws.FnExactCellTo", spec := "fnExactCellTo", plainKeys := false, apart := false }
def FnExactCellToSaid : Prop := fnExactCellToRow.holds Try.pinned (OpenSpec.ofChange fnExactCellToSpec)

/-- ITS FALSE NEIGHBOUR: 'it returns false'. Refute it at one input. -/
def fnExactCellToWrong : ChangeSpec := { name := "fnExactCellTo", fn := fun _ => fun
  | [d1, d2, d3] => { results := [.lit (.bool false)], args := [d1, d2, d3] }
  | _ => none }
def FnExactCellToWrongFalsely : Prop := fnExactCellToRow.holds Try.pinned (OpenSpec.ofChange fnExactCellToWrong)

/-- 'laws.FnExactActPicture': WHATEVER THE INPUT: true; the input reads as it did. -/
def fnExactActPictureSpec : ChangeSpec := { name := "fnExactActPicture", fn := fun _ => fun
  | [d1, d2] => { results := [.lit (.bool true)], args := [d1, d2] }
  | _ => none }
def fnExactActPictureRow : OpenClaim := { program := "ytlnikapkheldeaa", sum := "057911f2b6036231f3881dbf73815bf7ca3b1eb78a44f0878cc8e237864abe9c", func := "loop.example/g03020/laws.FnExactActPicture", spec := "fnExactActPicture", unfollowed := true, recurses := true, plainKeys := false, apart := false }
def FnExactActPictureSaid : Prop := fnExactActPictureRow.holds Try.pinned (OpenSpec.ofChange fnExactActPictureSpec)

/-- ITS FALSE NEIGHBOUR: 'it returns false'. Refute it at one input. -/
def fnExactActPictureWrong : ChangeSpec := { name := "fnExactActPicture", fn := fun _ => fun
  | [d1, d2] => { results := [.lit (.bool false)], args := [d1, d2] }
  | _ => none }
def FnExactActPictureWrongFalsely : Prop := fnExactActPictureRow.holds Try.pinned (OpenSpec.ofChange fnExactActPictureWrong)

/-- 'laws.FnExactSamePicture': WHATEVER THE INPUT: true; the input reads as it did. -/
def fnExactSamePictureSpec : ChangeSpec := { name := "fnExactSamePicture", fn := fun _ => fun
  | [d1, d2] => { results := [.lit (.bool true)], args := [d1, d2] }
  | _ => none }
def fnExactSamePictureRow : OpenClaim := { program := "ytlnikapkheldeaa", sum := "057911f2b6036231f3881dbf73815bf7ca3b1eb78a44f0878cc8e237864abe9c", func := "loop.example/g03020/laws.FnExactSamePicture", spec := "fnExactSamePicture", plainKeys := false, apart := false }
def FnExactSamePictureSaid : Prop := fnExactSamePictureRow.holds Try.pinned (OpenSpec.ofChange fnExactSamePictureSpec)

/-- ITS FALSE NEIGHBOUR: 'it returns false'. Refute it at one input. -/
def fnExactSamePictureWrong : ChangeSpec := { name := "fnExactSamePicture", fn := fun _ => fun
  | [d1, d2] => { results := [.lit (.bool false)], args := [d1, d2] }
  | _ => none }
def FnExactSamePictureWrongFalsely : Prop := fnExactSamePictureRow.holds Try.pinned (OpenSpec.ofChange fnExactSamePictureWrong)

/-- 'laws.FnExactSymsOfPicture': WHATEVER THE INPUT: true; the input reads as it did. -/
def fnExactSymsOfPictureSpec : ChangeSpec := { name := "fnExactSymsOfPicture", fn := fun _ => fun
  | [d] => { results := [.lit (.bool true)], args := [d] }
  | _ => none }
def fnExactSymsOfPictureRow : OpenClaim := { program := "ytlnikapkheldeaa", sum := "057911f2b6036231f3881dbf73815bf7ca3b1eb78a44f0878cc8e237864abe9c", func := "loop.example/g03020/laws.FnExactSymsOfPicture", spec := "fnExactSymsOfPicture", unfollowed := true, recurses := true, plainKeys := false, apart := false }
def FnExactSymsOfPictureSaid : Prop := fnExactSymsOfPictureRow.holds Try.pinned (OpenSpec.ofChange fnExactSymsOfPictureSpec)

/-- ITS FALSE NEIGHBOUR: 'it returns false'. Refute it at one input. -/
def fnExactSymsOfPictureWrong : ChangeSpec := { name := "fnExactSymsOfPicture", fn := fun _ => fun
  | [d] => { results := [.lit (.bool false)], args := [d] }
  | _ => none }
def FnExactSymsOfPictureWrongFalsely : Prop := fnExactSymsOfPictureRow.holds Try.pinned (OpenSpec.ofChange fnExactSymsOfPictureWrong)

/-- 'laws.FnExactMirrorsOfPicture': WHATEVER THE INPUT: true; the input reads as it did. -/
def fnExactMirrorsOfPictureSpec : ChangeSpec := { name := "fnExactMirrorsOfPicture", fn := fun _ => fun
  | [d] => { results := [.lit (.bool true)], args := [d] }
  | _ => none }
def fnExactMirrorsOfPictureRow : OpenClaim := { program := "ytlnikapkheldeaa", sum := "057911f2b6036231f3881dbf73815bf7ca3b1eb78a44f0878cc8e237864abe9c", func := "loop.example/g03020/laws.FnExactMirrorsOfPicture", spec := "fnExactMirrorsOfPicture", unfollowed := true, recurses := true, plainKeys := false, apart := false }
def FnExactMirrorsOfPictureSaid : Prop := fnExactMirrorsOfPictureRow.holds Try.pinned (OpenSpec.ofChange fnExactMirrorsOfPictureSpec)

/-- ITS FALSE NEIGHBOUR: 'it returns false'. Refute it at one input. -/
def fnExactMirrorsOfPictureWrong : ChangeSpec := { name := "fnExactMirrorsOfPicture", fn := fun _ => fun
  | [d] => { results := [.lit (.bool false)], args := [d] }
  | _ => none }
def FnExactMirrorsOfPictureWrongFalsely : Prop := fnExactMirrorsOfPictureRow.holds Try.pinned (OpenSpec.ofChange fnExactMirrorsOfPictureWrong)

/-- 'laws.FnExactFirstCells': WHATEVER THE INPUT: true; the input reads as it did. -/
def fnExactFirstCellsSpec : ChangeSpec := { name := "fnExactFirstCells", fn := fun _ => fun
  | [d1, d2] => { results := [.lit (.bool true)], args := [d1, d2] }
  | _ => none }
def fnExactFirstCellsRow : OpenClaim := { program := "ytlnikapkheldeaa", sum := "057911f2b6036231f3881dbf73815bf7ca3b1eb78a44f0878cc8e237864abe9c", func := "loop.example/g03020/laws.FnExactFirstCells", spec := "fnExactFirstCells", plainKeys := false, apart := false }
def FnExactFirstCellsSaid : Prop := fnExactFirstCellsRow.holds Try.pinned (OpenSpec.ofChange fnExactFirstCellsSpec)

/-- ITS FALSE NEIGHBOUR: 'it returns false'. Refute it at one input. -/
def fnExactFirstCellsWrong : ChangeSpec := { name := "fnExactFirstCells", fn := fun _ => fun
  | [d1, d2] => { results := [.lit (.bool false)], args := [d1, d2] }
  | _ => none }
def FnExactFirstCellsWrongFalsely : Prop := fnExactFirstCellsRow.holds Try.pinned (OpenSpec.ofChange fnExactFirstCellsWrong)

/-- 'laws.FnExactSpreadPicture': WHATEVER THE INPUT: true; the input reads as it did. -/
def fnExactSpreadPictureSpec : ChangeSpec := { name := "fnExactSpreadPicture", fn := fun _ => fun
  | [d1, d2] => { results := [.lit (.bool true)], args := [d1, d2] }
  | _ => none }
def fnExactSpreadPictureRow : OpenClaim := { program := "ytlnikapkheldeaa", sum := "057911f2b6036231f3881dbf73815bf7ca3b1eb78a44f0878cc8e237864abe9c", func := "loop.example/g03020/laws.FnExactSpreadPicture", spec := "fnExactSpreadPicture", unfollowed := true, recurses := true, plainKeys := false, apart := false }
def FnExactSpreadPictureSaid : Prop := fnExactSpreadPictureRow.holds Try.pinned (OpenSpec.ofChange fnExactSpreadPictureSpec)

/-- ITS FALSE NEIGHBOUR: 'it returns false'. Refute it at one input. -/
def fnExactSpreadPictureWrong : ChangeSpec := { name := "fnExactSpreadPicture", fn := fun _ => fun
  | [d1, d2] => { results := [.lit (.bool false)], args := [d1, d2] }
  | _ => none }
def FnExactSpreadPictureWrongFalsely : Prop := fnExactSpreadPictureRow.holds Try.pinned (OpenSpec.ofChange fnExactSpreadPictureWrong)

/-- 'laws.FnExactDifferOf': WHATEVER THE INPUT: true; the input reads as it did. -/
def fnExactDifferOfSpec : ChangeSpec := { name := "fnExactDifferOf", fn := fun _ => fun
  | [d1, d2] => { results := [.lit (.bool true)], args := [d1, d2] }
  | _ => none }
def fnExactDifferOfRow : OpenClaim := { program := "ytlnikapkheldeaa", sum := "057911f2b6036231f3881dbf73815bf7ca3b1eb78a44f0878cc8e237864abe9c", func := "loop.example/g03020/laws.FnExactDifferOf", spec := "fnExactDifferOf", unfollowed := true, recurses := true, plainKeys := false, apart := false }
def FnExactDifferOfSaid : Prop := fnExactDifferOfRow.holds Try.pinned (OpenSpec.ofChange fnExactDifferOfSpec)

/-- ITS FALSE NEIGHBOUR: 'it returns false'. Refute it at one input. -/
def fnExactDifferOfWrong : ChangeSpec := { name := "fnExactDifferOf", fn := fun _ => fun
  | [d1, d2] => { results := [.lit (.bool false)], args := [d1, d2] }
  | _ => none }
def FnExactDifferOfWrongFalsely : Prop := fnExactDifferOfRow.holds Try.pinned (OpenSpec.ofChange fnExactDifferOfWrong)

/-- 'laws.FnExactFormatPicture': WHATEVER THE INPUT: true; the input reads as it did. -/
def fnExactFormatPictureSpec : ChangeSpec := { name := "fnExactFormatPicture", fn := fun _ => fun
  | [d] => { results := [.lit (.bool true)], args := [d] }
  | _ => none }
def fnExactFormatPictureRow : OpenClaim := { program := "ytlnikapkheldeaa", sum := "057911f2b6036231f3881dbf73815bf7ca3b1eb78a44f0878cc8e237864abe9c", func := "loop.example/g03020/laws.FnExactFormatPicture", spec := "fnExactFormatPicture", inPlace := ["internal/abi.NoEscape", "internal/bytealg.MakeNoZero"], unfollowed := true, recurses := true, plainKeys := false, apart := false }
def FnExactFormatPictureSaid : Prop := fnExactFormatPictureRow.holds Try.pinned (OpenSpec.ofChange fnExactFormatPictureSpec)

/-- ITS FALSE NEIGHBOUR: 'it returns false'. Refute it at one input. -/
def fnExactFormatPictureWrong : ChangeSpec := { name := "fnExactFormatPicture", fn := fun _ => fun
  | [d] => { results := [.lit (.bool false)], args := [d] }
  | _ => none }
def FnExactFormatPictureWrongFalsely : Prop := fnExactFormatPictureRow.holds Try.pinned (OpenSpec.ofChange fnExactFormatPictureWrong)

/- THE SECOND FORM. 'bulk': how many values and letters a reading holds, each counted each time it is reached (what is shared counts as often as it is met; a slice's spare places count too). A statement '..UptoSaid' is the law's where the arguments, and the package variables that the reading takes, are together of bulk at most 1048576: NARROWER than '..Said'. Prove '..Said' where nothing that the law and all that it calls make is longer than what came in: it says more and counts as full. Else prove '..UptoSaid'. A law counts once. -/
mutual
def uptoBulk {H : Type} : DataW H → Nat
  | .lit (.string bytes) => bytes.length + 1
  | .lit _ => 1
  | .nil => 1
  | .ptr d => uptoBulk d + 1
  | .slice elems spare => uptoBulkAll elems + uptoBulkAll spare + 1
  | .agg parts => uptoBulkAll parts + 1
  | .iface _ d => uptoBulk d + 1
  | .map entries => uptoBulkEntries entries + 1
  | .held _ => 1
def uptoBulkAll {H : Type} : List (DataW H) → Nat
  | [] => 0
  | d :: r => uptoBulk d + uptoBulkAll r
def uptoBulkEntries {H : Type} : List (Lit × DataW H) → Nat
  | [] => 0
  | x :: r => uptoBulkEntry x + uptoBulkEntries r
def uptoBulkEntry {H : Type} : Lit × DataW H → Nat
  | (.string bytes, d) => bytes.length + uptoBulk d + 1
  | (_, d) => uptoBulk d + 1
 end
def uptoSmall : (H : Type) → List (DataW H) → Bool := fun _ ds => decide (uptoBulkAll ds ≤ 1048576)
def OpenSpec.upto (s : _root_.Go.ChangeSpec) : _root_.Go.OpenSpec := { _root_.Go.OpenSpec.ofChange s with cond := some uptoSmall }

/-- 'laws.FnCells', WHERE WHAT IT READS IS OF BULK AT MOST 1048576: true; the input reads as it did. -/
def fnCellsUptoRow : OpenClaim := { program := "ytlnikapkheldeaa", sum := "057911f2b6036231f3881dbf73815bf7ca3b1eb78a44f0878cc8e237864abe9c", func := "loop.example/g03020/laws.FnCells", spec := "fnCells", plainKeys := false, apart := false, narrowed := true }
def FnCellsUptoSaid : Prop := fnCellsUptoRow.holds Try.pinned (OpenSpec.upto fnCellsSpec)

/-- 'laws.FnPictures', WHERE WHAT IT READS IS OF BULK AT MOST 1048576: true; the input reads as it did. -/
def fnPicturesUptoRow : OpenClaim := { program := "ytlnikapkheldeaa", sum := "057911f2b6036231f3881dbf73815bf7ca3b1eb78a44f0878cc8e237864abe9c", func := "loop.example/g03020/laws.FnPictures", spec := "fnPictures", unfollowed := true, recurses := true, plainKeys := false, apart := false, narrowed := true }
def FnPicturesUptoSaid : Prop := fnPicturesUptoRow.holds Try.pinned (OpenSpec.upto fnPicturesSpec)

/-- 'laws.FnTaken', WHERE WHAT IT READS IS OF BULK AT MOST 1048576: true; the input reads as it did. -/
def fnTakenUptoRow : OpenClaim := { program := "ytlnikapkheldeaa", sum := "057911f2b6036231f3881dbf73815bf7ca3b1eb78a44f0878cc8e237864abe9c", func := "loop.example/g03020/laws.FnTaken", spec := "fnTaken", unfollowed := true, recurses := true, plainKeys := false, apart := false, narrowed := true }
def FnTakenUptoSaid : Prop := fnTakenUptoRow.holds Try.pinned (OpenSpec.upto fnTakenSpec)

/-- 'laws.FnTurnedGlass', WHERE WHAT IT READS IS OF BULK AT MOST 1048576: true; the input reads as it did. -/
def fnTurnedGlassUptoRow : OpenClaim := { program := "ytlnikapkheldeaa", sum := "057911f2b6036231f3881dbf73815bf7ca3b1eb78a44f0878cc8e237864abe9c", func := "loop.example/g03020/laws.FnTurnedGlass", spec := "fnTurnedGlass", unfollowed := true, recurses := true, plainKeys := false, apart := false, narrowed := true }
def FnTurnedGlassUptoSaid : Prop := fnTurnedGlassUptoRow.holds Try.pinned (OpenSpec.upto fnTurnedGlassSpec)

/-- 'laws.FnSpread', WHERE WHAT IT READS IS OF BULK AT MOST 1048576: true; the input reads as it did. -/
def fnSpreadUptoRow : OpenClaim := { program := "ytlnikapkheldeaa", sum := "057911f2b6036231f3881dbf73815bf7ca3b1eb78a44f0878cc8e237864abe9c", func := "loop.example/g03020/laws.FnSpread", spec := "fnSpread", unfollowed := true, recurses := true, plainKeys := false, apart := false, narrowed := true }
def FnSpreadUptoSaid : Prop := fnSpreadUptoRow.holds Try.pinned (OpenSpec.upto fnSpreadSpec)

/-- 'laws.FnDiffer', WHERE WHAT IT READS IS OF BULK AT MOST 1048576: true; the input reads as it did. -/
def fnDifferUptoRow : OpenClaim := { program := "ytlnikapkheldeaa", sum := "057911f2b6036231f3881dbf73815bf7ca3b1eb78a44f0878cc8e237864abe9c", func := "loop.example/g03020/laws.FnDiffer", spec := "fnDiffer", inPlace := ["internal/abi.NoEscape", "internal/bytealg.MakeNoZero"], unfollowed := true, recurses := true, plainKeys := false, apart := false, narrowed := true }
def FnDifferUptoSaid : Prop := fnDifferUptoRow.holds Try.pinned (OpenSpec.upto fnDifferSpec)

/-- 'laws.FnExactIsPicture', WHERE WHAT IT READS IS OF BULK AT MOST 1048576: true; the input reads as it did. -/
def fnExactIsPictureUptoRow : OpenClaim := { program := "ytlnikapkheldeaa", sum := "057911f2b6036231f3881dbf73815bf7ca3b1eb78a44f0878cc8e237864abe9c", func := "loop.example/g03020/laws.FnExactIsPicture", spec := "fnExactIsPicture", unfollowed := true, recurses := true, plainKeys := false, apart := false, narrowed := true }
def FnExactIsPictureUptoSaid : Prop := fnExactIsPictureUptoRow.holds Try.pinned (OpenSpec.upto fnExactIsPictureSpec)

/-- 'laws.FnExactPlaceOf', WHERE WHAT IT READS IS OF BULK AT MOST 1048576: true; the input reads as it did. -/
def fnExactPlaceOfUptoRow : OpenClaim := { program := "ytlnikapkheldeaa", sum := "057911f2b6036231f3881dbf73815bf7ca3b1eb78a44f0878cc8e237864abe9c", func := "loop.example/g03020/laws.FnExactPlaceOf", spec := "fnExactPlaceOf", plainKeys := false, apart := false, narrowed := true }
def FnExactPlaceOfUptoSaid : Prop := fnExactPlaceOfUptoRow.holds Try.pinned (OpenSpec.upto fnExactPlaceOfSpec)

/-- 'laws.FnExactCellTo', WHERE WHAT IT READS IS OF BULK AT MOST 1048576: true; the input reads as it did. -/
def fnExactCellToUptoRow : OpenClaim := { program := "ytlnikapkheldeaa", sum := "057911f2b6036231f3881dbf73815bf7ca3b1eb78a44f0878cc8e237864abe9c", func := "loop.example/g03020/laws.FnExactCellTo", spec := "fnExactCellTo", plainKeys := false, apart := false, narrowed := true }
def FnExactCellToUptoSaid : Prop := fnExactCellToUptoRow.holds Try.pinned (OpenSpec.upto fnExactCellToSpec)

/-- 'laws.FnExactActPicture', WHERE WHAT IT READS IS OF BULK AT MOST 1048576: true; the input reads as it did. -/
def fnExactActPictureUptoRow : OpenClaim := { program := "ytlnikapkheldeaa", sum := "057911f2b6036231f3881dbf73815bf7ca3b1eb78a44f0878cc8e237864abe9c", func := "loop.example/g03020/laws.FnExactActPicture", spec := "fnExactActPicture", unfollowed := true, recurses := true, plainKeys := false, apart := false, narrowed := true }
def FnExactActPictureUptoSaid : Prop := fnExactActPictureUptoRow.holds Try.pinned (OpenSpec.upto fnExactActPictureSpec)

/-- 'laws.FnExactSamePicture', WHERE WHAT IT READS IS OF BULK AT MOST 1048576: true; the input reads as it did. -/
def fnExactSamePictureUptoRow : OpenClaim := { program := "ytlnikapkheldeaa", sum := "057911f2b6036231f3881dbf73815bf7ca3b1eb78a44f0878cc8e237864abe9c", func := "loop.example/g03020/laws.FnExactSamePicture", spec := "fnExactSamePicture", plainKeys := false, apart := false, narrowed := true }
def FnExactSamePictureUptoSaid : Prop := fnExactSamePictureUptoRow.holds Try.pinned (OpenSpec.upto fnExactSamePictureSpec)

/-- 'laws.FnExactSymsOfPicture', WHERE WHAT IT READS IS OF BULK AT MOST 1048576: true; the input reads as it did. -/
def fnExactSymsOfPictureUptoRow : OpenClaim := { program := "ytlnikapkheldeaa", sum := "057911f2b6036231f3881dbf73815bf7ca3b1eb78a44f0878cc8e237864abe9c", func := "loop.example/g03020/laws.FnExactSymsOfPicture", spec := "fnExactSymsOfPicture", unfollowed := true, recurses := true, plainKeys := false, apart := false, narrowed := true }
def FnExactSymsOfPictureUptoSaid : Prop := fnExactSymsOfPictureUptoRow.holds Try.pinned (OpenSpec.upto fnExactSymsOfPictureSpec)

/-- 'laws.FnExactMirrorsOfPicture', WHERE WHAT IT READS IS OF BULK AT MOST 1048576: true; the input reads as it did. -/
def fnExactMirrorsOfPictureUptoRow : OpenClaim := { program := "ytlnikapkheldeaa", sum := "057911f2b6036231f3881dbf73815bf7ca3b1eb78a44f0878cc8e237864abe9c", func := "loop.example/g03020/laws.FnExactMirrorsOfPicture", spec := "fnExactMirrorsOfPicture", unfollowed := true, recurses := true, plainKeys := false, apart := false, narrowed := true }
def FnExactMirrorsOfPictureUptoSaid : Prop := fnExactMirrorsOfPictureUptoRow.holds Try.pinned (OpenSpec.upto fnExactMirrorsOfPictureSpec)

/-- 'laws.FnExactFirstCells', WHERE WHAT IT READS IS OF BULK AT MOST 1048576: true; the input reads as it did. -/
def fnExactFirstCellsUptoRow : OpenClaim := { program := "ytlnikapkheldeaa", sum := "057911f2b6036231f3881dbf73815bf7ca3b1eb78a44f0878cc8e237864abe9c", func := "loop.example/g03020/laws.FnExactFirstCells", spec := "fnExactFirstCells", plainKeys := false, apart := false, narrowed := true }
def FnExactFirstCellsUptoSaid : Prop := fnExactFirstCellsUptoRow.holds Try.pinned (OpenSpec.upto fnExactFirstCellsSpec)

/-- 'laws.FnExactSpreadPicture', WHERE WHAT IT READS IS OF BULK AT MOST 1048576: true; the input reads as it did. -/
def fnExactSpreadPictureUptoRow : OpenClaim := { program := "ytlnikapkheldeaa", sum := "057911f2b6036231f3881dbf73815bf7ca3b1eb78a44f0878cc8e237864abe9c", func := "loop.example/g03020/laws.FnExactSpreadPicture", spec := "fnExactSpreadPicture", unfollowed := true, recurses := true, plainKeys := false, apart := false, narrowed := true }
def FnExactSpreadPictureUptoSaid : Prop := fnExactSpreadPictureUptoRow.holds Try.pinned (OpenSpec.upto fnExactSpreadPictureSpec)

/-- 'laws.FnExactDifferOf', WHERE WHAT IT READS IS OF BULK AT MOST 1048576: true; the input reads as it did. -/
def fnExactDifferOfUptoRow : OpenClaim := { program := "ytlnikapkheldeaa", sum := "057911f2b6036231f3881dbf73815bf7ca3b1eb78a44f0878cc8e237864abe9c", func := "loop.example/g03020/laws.FnExactDifferOf", spec := "fnExactDifferOf", unfollowed := true, recurses := true, plainKeys := false, apart := false, narrowed := true }
def FnExactDifferOfUptoSaid : Prop := fnExactDifferOfUptoRow.holds Try.pinned (OpenSpec.upto fnExactDifferOfSpec)

/-- 'laws.FnExactFormatPicture', WHERE WHAT IT READS IS OF BULK AT MOST 1048576: true; the input reads as it did. -/
def fnExactFormatPictureUptoRow : OpenClaim := { program := "ytlnikapkheldeaa", sum := "057911f2b6036231f3881dbf73815bf7ca3b1eb78a44f0878cc8e237864abe9c", func := "loop.example/g03020/laws.FnExactFormatPicture", spec := "fnExactFormatPicture", inPlace := ["internal/abi.NoEscape", "internal/bytealg.MakeNoZero"], unfollowed := true, recurses := true, plainKeys := false, apart := false, narrowed := true }
def FnExactFormatPictureUptoSaid : Prop := fnExactFormatPictureUptoRow.holds Try.pinned (OpenSpec.upto fnExactFormatPictureSpec)

end Rows
end Go.Proofs.Ytlnikapkheldeaa
