/-
  Texts Uc, joined.
-/
import Derived.Test.YtfdgijmmgllmgaaGreatDoorS12
import Derived.Test.YtfdgijmmgllmgaaGreatDoorS08
import Derived.Deep.RegionHeld3
import Derived.Deep.DeepCutAuto
import Derived.Test.YtfdgijmmgllmgaaGreatDoorS01
import Derived.Deep.AppendLies
import Derived.WalkSpells
namespace Go.Proofs.YtfdgijmmgllmgaaGreatDoor
open Go.ChangeShapes Go.WideShapes Go.ChangeAt Go.RowKit Go.Joins
set_option linter.unusedSimpArgs false
set_option linter.unusedVariables false
set_option maxRecDepth 100000
attribute [local go_sem] store_f
open Ieee Go.Lib
attribute [local go_sem] store_c
theorem sh_one (l : List Shd) : ∀ u ∈ shCells l, u.oneCell' = true := fun u hu => by
  simp only [shCells, List.mem_flatMap, Shd.cells] at hu
  obtain ⟨b, _, hu⟩ := hu
  simp at hu
  rcases hu with rfl | rfl | rfl | rfl | rfl | rfl | rfl <;> rfl
theorem bw_one (l : List Bw) : ∀ u ∈ bwCells l, u.oneCell' = true := fun u hu => by
  simp only [bwCells, List.mem_flatMap, Bw.cells] at hu
  obtain ⟨b, _, hu⟩ := hu
  simp at hu
  rcases hu with rfl | rfl <;> rfl
theorem ev_one (l : List Evw) : ∀ u ∈ evCells l, u.oneCell' = true := fun u hu => by
  simp only [evCells, List.mem_flatMap, Evw.cells] at hu
  obtain ⟨b, _, hu⟩ := hu
  simp at hu
  rcases hu with rfl | rfl | rfl | rfl | rfl | rfl | rfl | rfl | rfl | rfl | rfl | rfl | rfl <;> rfl
structure ShoCop (B : Nat) (w : World) (e : Ending) (w' : World) (s : Sho) (N M K : Nat) (a b l : Option Addr) (ca cb cl : Nat) : Prop where
  ret : e = .returned (.agg #[.int .i64 s.size, .float .f32 s.step, .float .f32 s.lit.r, .float .f32 s.lit.g, .float .f32 s.lit.b, .slice a N ca, .int .i64 s.kind, .complex .f32 s.g1 s.g2, .float .f32 0, .slice b M cb, .int .i64 s.ticks, .slice l K cl])
  own : ShoOwn w' B s N M K a b l ca cb cl
  below : Below w.heap.size w w'
structure CopyS (F : FuncId) (s : Sho) (N M K : Nat) : Prop where
  call : ∀ (w : World) (a b l : Option Addr) (ca cb cl : Nat), ShoIn w s a b l → Calls Tryz.prog F #[.agg #[.int .i64 s.size, .float .f32 s.step, .float .f32 s.lit.r, .float .f32 s.lit.g, .float .f32 s.lit.b, .slice a N ca, .int .i64 s.kind, .complex .f32 s.g1 s.g2, .float .f32 0, .slice b M cb, .int .i64 s.ticks, .slice l K cl]] w fun e w' => ∃ a' b' l' ca' cb' cl', ShoCop w.heap.size w e w' s N M K a' b' l' ca' cb' cl'
theorem grown_set4' {W : World} {R i j k l : Nat} {u0 u1 u2 u3 : Value} : W.grownBy ((((W.setCell ⟨R, i, Option.none⟩ u0).setCell ⟨R, j, Option.none⟩ u1).setCell ⟨R, k, Option.none⟩ u2).setCell ⟨R, l, Option.none⟩ u3) (some R) :=
  grownBy_set (grownBy_set (grownBy_set (grownBy_set (grownBy_refl _ _))))
theorem ShoIn.setR {W : World} {s : Sho} {a b l : Option Addr} {R x i : Nat} {v : Value} (h : ShoIn W s a b l) (hc : W.cell? ⟨R, 1, Option.none⟩ = some (.float .f32 x)) : ShoIn (W.setCell ⟨R, i, Option.none⟩ v) s a b l :=
  h.grownAt (grownBy_set (grownBy_refl _ _)) hc
structure ShoLen (s : Sho) (N M K : Nat) : Prop where
  n : s.shs.length = N
  m : s.bds.length = M
  k : s.log.length = K
  n12 : N ≤ 12
  m8 : M ≤ 8
  k24 : K ≤ 25
end Go.Proofs.YtfdgijmmgllmgaaGreatDoor
