/-
  Texts Vb, joined.
-/
import Derived.Test.YtfdgijmmgllmgaaGreatS12
import Derived.Deep.RegionLaw
import Derived.Deep.AppendLies
import Derived.Test.YtfdgijmmgllmgaaGreatS18
import Derived.Test.YtfdgijmmgllmgaaGreatS08
import Derived.Test.YtfdgijmmgllmgaaGreatS15
import Derived.Deep.RegionHeld3
namespace Go.Proofs.YtfdgijmmgllmgaaGreat
open Go.ChangeShapes Go.WideShapes Go.ChangeAt Go.RowKit Go.Joins
set_option linter.unusedSimpArgs false
set_option linter.unusedVariables false
set_option maxRecDepth 100000
attribute [local go_sem] store_f
open Ieee
attribute [local go_sem] store_c
structure StepIs (s : Nat) : Prop where
  call : ∀ w : World, Calls Tryz.prog 31 #[.float .f32 s] w fun e w' => e = .returned (.bool true) ∧ w' = w
theorem stepIs {i : Nat} (hi : i < 5) : StepIs (stepB i) := ⟨fun w => by
  have h1 : (FloatKind.f32.format.order (stepB i) 0 == some .gt) = true := by
    rcases (by omega : i = 0 ∨ i = 1 ∨ i = 2 ∨ i = 3 ∨ i = 4) with rfl | rfl | rfl | rfl | rfl <;> kernel_rfl
  have h2 : (FloatKind.f32.format.order (stepB i) 1132462080 == some .lt) = true := by
    rcases (by omega : i = 0 ∨ i = 1 ∨ i = 2 ∨ i = 3 ∨ i = 4) with rfl | rfl | rfl | rfl | rfl <;> kernel_rfl
  generalize stepB i = s at *
  go_enter Tryz.func31, Tryz.ntmps31
  go_wp2
  go_ret
  exact ⟨by simp [h1, h2], rfl⟩⟩
/-- The boxes of what TakePicture is given. -/
structure TakeBox (W : World) (b1 b2 b3 b4 b5 : Nat) (g lc : Nat) (l : List Shd) (kind : Int) (n s : Nat) (c : Lit) : Prop where
  k1 : Blk W b1 #[.slice (some ⟨g, 0, Option.none⟩) l.length lc] 27
  k2 : Blk W b2 #[.int .i64 kind] 3
  k3 : Blk W b3 #[.int .i64 n] 3
  k4 : Blk W b4 #[.float .f32 s] 24
  k5 : Blk W b5 #[.float .f32 c.r, .float .f32 c.g, .float .f32 c.b] 26
  row : ShRow W g 0 l
  lt : g < W.heap.size
theorem TakeBox.below {W w1 : World} {b1 b2 b3 b4 b5 g lc : Nat} {l : List Shd} {kind : Int} {n s : Nat} {c : Lit} (h : TakeBox W b1 b2 b3 b4 b5 g lc l kind n s c) (hb : Below W.heap.size W w1) : TakeBox w1 b1 b2 b3 b4 b5 g lc l kind n s c :=
  ⟨h.k1.below hb, h.k2.below hb, h.k3.below hb, h.k4.below hb, h.k5.below hb, h.row.below hb, Nat.lt_of_lt_of_le h.lt hb.size⟩
end Go.Proofs.YtfdgijmmgllmgaaGreat
