/-
  Texts Hc Hg, joined.
-/
import Derived.Test.YtfdgijmmgllmgaaGreatS12
import Derived.Test.YtfdgijmmgllmgaaGreatS06
import Derived.Test.YtfdgijmmgllmgaaGreatS07
import Derived.WalkLawsBesides
import Derived.Deep.RegionHeld3
namespace Go.Proofs.YtfdgijmmgllmgaaGreat
open Go.ChangeShapes Go.WideShapes Go.ChangeAt Go.RowKit Go.Joins
set_option linter.unusedSimpArgs false
set_option linter.unusedVariables false
set_option maxRecDepth 100000
attribute [local go_sem] store_f
open Ieee
/-- Is it a colour? -/
def Lit.isB (c : Lit) : Bool := colB c.r c.g c.b
end Go.Proofs.YtfdgijmmgllmgaaGreat
namespace Go.Proofs.YtfdgijmmgllmgaaGreat
open Go.ChangeShapes Go.WideShapes Go.ChangeAt Go.RowKit Go.Joins
set_option linter.unusedSimpArgs false
set_option linter.unusedVariables false
set_option maxRecDepth 100000
attribute [local go_sem] store_f
open Ieee
/-- A picture as a box shows it. -/
structure PicBox (W : World) (b : Nat) (n : Int) (a : Option Addr) (cap : Nat) (l : List Lit) : Prop where
  blk : Blk W b #[.int .i64 n, .slice a l.length cap] 52
  row : LitsAt W a l
theorem PicBox.below {W w1 : World} {b : Nat} {n : Int} {a : Option Addr} {cap : Nat} {l : List Lit} (h : PicBox W b n a cap l) (hb : Below W.heap.size W w1) : PicBox w1 b n a cap l := ⟨h.blk.below hb, h.row.below hb⟩
end Go.Proofs.YtfdgijmmgllmgaaGreat
