/-
  Texts Ut, joined.
-/
import Derived.Test.YtfdgijmmgllmgaaGreatDoorS23
namespace Go.Proofs.YtfdgijmmgllmgaaGreatDoor
open Go.ChangeShapes Go.WideShapes Go.ChangeAt Go.RowKit Go.Joins
set_option linter.unusedSimpArgs false
set_option linter.unusedVariables false
set_option maxRecDepth 100000
attribute [local go_sem] store_f
open Ieee Go.Lib
attribute [local go_sem] store_c
theorem put_sho {W : World} {P : Nat} {s t : Sho} {x y z x' y' z' : Value} (h : Blk W P #[.int .i64 s.size, .float .f32 s.step, .float .f32 s.lit.r, .float .f32 s.lit.g, .float .f32 s.lit.b, x, .int .i64 s.kind, .complex .f32 s.g1 s.g2, .float .f32 0, y, .int .i64 s.ticks, z] 34) :
    Blk ((((((((((((W.setCell ⟨P, 0, Option.none⟩ (.int .i64 t.size)).setCell ⟨P, 1, Option.none⟩ (.float .f32 t.step)).setCell ⟨P, 2, Option.none⟩ (.float .f32 t.lit.r)).setCell ⟨P, 3, Option.none⟩ (.float .f32 t.lit.g)).setCell ⟨P, 4, Option.none⟩ (.float .f32 t.lit.b)).setCell ⟨P, 5, Option.none⟩ x').setCell ⟨P, 6, Option.none⟩ (.int .i64 t.kind)).setCell ⟨P, 7, Option.none⟩ (.complex .f32 t.g1 t.g2)).setCell ⟨P, 8, Option.none⟩ (.float .f32 0)).setCell ⟨P, 9, Option.none⟩ y').setCell ⟨P, 10, Option.none⟩ (.int .i64 t.ticks)).setCell ⟨P, 11, Option.none⟩ z') P #[.int .i64 t.size, .float .f32 t.step, .float .f32 t.lit.r, .float .f32 t.lit.g, .float .f32 t.lit.b, x', .int .i64 t.kind, .complex .f32 t.g1 t.g2, .float .f32 0, y', .int .i64 t.ticks, z'] 34 :=
  by
  have RS := (((((((((((h.set (i := 0) (v := .int .i64 t.size)).set (i := 1) (v := .float .f32 t.step)).set (i := 2) (v := .float .f32 t.lit.r)).set (i := 3) (v := .float .f32 t.lit.g)).set (i := 4) (v := .float .f32 t.lit.b)).set (i := 5) (v := x')).set (i := 6) (v := .int .i64 t.kind)).set (i := 7) (v := .complex .f32 t.g1 t.g2)).set (i := 8) (v := .float .f32 0)).set (i := 9) (v := y')).set (i := 10) (v := .int .i64 t.ticks)).set (i := 11) (v := z')
  simp only [List.setIfInBounds_toArray, List.set_cons_zero, List.set_cons_succ] at RS
  exact RS
theorem grown12 {W : World} {P : Nat} {u0 u1 u2 u3 u4 u5 u6 u7 u8 u9 u10 u11 : Value} :
    W.grownBy ((((((((((((W.setCell ⟨P, 0, Option.none⟩ u0).setCell ⟨P, 1, Option.none⟩ u1).setCell ⟨P, 2, Option.none⟩ u2).setCell ⟨P, 3, Option.none⟩ u3).setCell ⟨P, 4, Option.none⟩ u4).setCell ⟨P, 5, Option.none⟩ u5).setCell ⟨P, 6, Option.none⟩ u6).setCell ⟨P, 7, Option.none⟩ u7).setCell ⟨P, 8, Option.none⟩ u8).setCell ⟨P, 9, Option.none⟩ u9).setCell ⟨P, 10, Option.none⟩ u10).setCell ⟨P, 11, Option.none⟩ u11) (some P) :=
  grownBy_set (grownBy_set (grownBy_set (grownBy_set (grownBy_set (grownBy_set (grownBy_set (grownBy_set (grownBy_set (grownBy_set (grownBy_set (grownBy_set (grownBy_refl _ _))))))))))))
theorem put_z {W : World} {P : Nat} {t : Sho} {x' y' z' : Value} (h : Blk W P #[.int .i64 0, .float .f32 0, .float .f32 0, .float .f32 0, .float .f32 0, .slice Option.none 0 0, .int .i64 0, .complex .f32 0 0, .float .f32 0, .slice Option.none 0 0, .int .i64 0, .slice Option.none 0 0] 34) :
    Blk ((((((((((((W.setCell ⟨P, 0, Option.none⟩ (.int .i64 t.size)).setCell ⟨P, 1, Option.none⟩ (.float .f32 t.step)).setCell ⟨P, 2, Option.none⟩ (.float .f32 t.lit.r)).setCell ⟨P, 3, Option.none⟩ (.float .f32 t.lit.g)).setCell ⟨P, 4, Option.none⟩ (.float .f32 t.lit.b)).setCell ⟨P, 5, Option.none⟩ x').setCell ⟨P, 6, Option.none⟩ (.int .i64 t.kind)).setCell ⟨P, 7, Option.none⟩ (.complex .f32 t.g1 t.g2)).setCell ⟨P, 8, Option.none⟩ (.float .f32 0)).setCell ⟨P, 9, Option.none⟩ y').setCell ⟨P, 10, Option.none⟩ (.int .i64 t.ticks)).setCell ⟨P, 11, Option.none⟩ z') P #[.int .i64 t.size, .float .f32 t.step, .float .f32 t.lit.r, .float .f32 t.lit.g, .float .f32 t.lit.b, x', .int .i64 t.kind, .complex .f32 t.g1 t.g2, .float .f32 0, y', .int .i64 t.ticks, z'] 34 := by
  have RS := (((((((((((h.set (i := 0) (v := .int .i64 t.size)).set (i := 1) (v := .float .f32 t.step)).set (i := 2) (v := .float .f32 t.lit.r)).set (i := 3) (v := .float .f32 t.lit.g)).set (i := 4) (v := .float .f32 t.lit.b)).set (i := 5) (v := x')).set (i := 6) (v := .int .i64 t.kind)).set (i := 7) (v := .complex .f32 t.g1 t.g2)).set (i := 8) (v := .float .f32 0)).set (i := 9) (v := y')).set (i := 10) (v := .int .i64 t.ticks)).set (i := 11) (v := z')
  simp only [List.setIfInBounds_toArray, List.set_cons_zero, List.set_cons_succ] at RS
  exact RS
theorem below12 {w W : World} {B P : Nat} {u0 u1 u2 u3 u4 u5 u6 u7 u8 u9 u10 u11 : Value} (h : Below B w W) (hP : B ≤ P) :
    Below B w ((((((((((((W.setCell ⟨P, 0, Option.none⟩ u0).setCell ⟨P, 1, Option.none⟩ u1).setCell ⟨P, 2, Option.none⟩ u2).setCell ⟨P, 3, Option.none⟩ u3).setCell ⟨P, 4, Option.none⟩ u4).setCell ⟨P, 5, Option.none⟩ u5).setCell ⟨P, 6, Option.none⟩ u6).setCell ⟨P, 7, Option.none⟩ u7).setCell ⟨P, 8, Option.none⟩ u8).setCell ⟨P, 9, Option.none⟩ u9).setCell ⟨P, 10, Option.none⟩ u10).setCell ⟨P, 11, Option.none⟩ u11) :=
  (((((((((((h.setCell hP _).setCell hP _).setCell hP _).setCell hP _).setCell hP _).setCell hP _).setCell hP _).setCell hP _).setCell hP _).setCell hP _).setCell hP _).setCell hP _
end Go.Proofs.YtfdgijmmgllmgaaGreatDoor
