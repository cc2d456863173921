/-
  Texts Gfd, joined.
-/
import Derived.Test.YtfdgijmmgllmgaaGreatDoorS12
namespace Go.Proofs.YtfdgijmmgllmgaaGreatDoor
open Go.ChangeShapes Go.WideShapes Go.ChangeAt Go.RowKit Go.Joins
set_option linter.unusedSimpArgs false
set_option linter.unusedVariables false
set_option maxRecDepth 100000
attribute [local go_sem] store_f
open Ieee
structure Clo (F : FuncId) (q : Nat) (W : World) (x y p r : Nat) : Prop where
  call : ∀ w1 : World, Below W.heap.size W w1 → Calls Tryz.prog F #[.complex .f32 x y, .pointer (some ⟨q, 0, Option.none⟩)] w1 fun e w' => e = .returned (.complex .f32 p r) ∧ Below w1.heap.size w1 w'
def Shd.put (s : Shd) (x1 x2 y1 y2 z1 z2 : Nat) : Shd := ⟨x1, x2, y1, y2, z1, z2, s.r, s.g, s.b, s.k⟩
structure WithC (F : FuncId) (q : Nat) (W : World) (s t : Shd) : Prop where
  call : Calls Tryz.prog 86 #[.agg #[.complex .f32 s.a1 s.a2, .complex .f32 s.b1 s.b2, .complex .f32 s.c1 s.c2, .float .f32 s.r, .float .f32 s.g, .float .f32 s.b, .float .f32 s.k], .func (.func F) #[] #[.pointer (some ⟨q, 0, Option.none⟩)]] W fun e w' => e = .returned (.agg #[.complex .f32 t.a1 t.a2, .complex .f32 t.b1 t.b2, .complex .f32 t.c1 t.c2, .float .f32 t.r, .float .f32 t.g, .float .f32 t.b, .float .f32 t.k]) ∧ Below W.heap.size W w'
end Go.Proofs.YtfdgijmmgllmgaaGreatDoor
