/-
  For all colour values, NaN and infinities too: FarColours of the program answers as FarColours of the model, to the last bit. No condition.
-/
import Derived.Test.YtljilmekmfnkbaaFnExactFarColoursWalk
namespace Go.Proofs.Ytljilmekmfnkbaa.wFnExactFarColours
open Go.ChangeShapes Go.WideShapes Go.ChangeAt Go.RowKit Go.Joins

set_option maxRecDepth 100000 in
theorem holds : Rows.FnExactFarColoursSaid :=
  OpenClaim.holds_of_wide 13 Try.f13 rfl rfl rfl rfl rfl rfl rfl ⟨rfl, rfl, rfl, rfl, rfl⟩ rfl rfl rfl rfl rfl (by kernel_rfl) Try.func13 (by kernel_rfl)
    (of_decide_eq_true (by kernel_rfl)) (by unfold Func.isWrapper; rw [if_neg (of_decide_eq_false (by kernel_rfl))]; exact ⟨rfl, rfl⟩)
    (fun os started H enc _ => lift_true (H := H) (enc := enc) 13 Try.f13 Rows.fnExactFarColoursSpec started (by kernel_rfl) Try.func13 rfl (by kernel_rfl) (by kernel_rfl)
      (fun ds h => match ds, h with | [_, _], _ => rfl)
      (ChangeSpec.witness6 (enc := enc) (C := Try.checked) false ⟨#[], #[.agg #[.float .f32 0, .float .f32 0, .float .f32 0], .agg #[.float .f32 0, .float .f32 0, .float .f32 0]], []⟩ 8 (by kernel_rfl) (by kernel_rfl) (by kernel_rfl) (by kernel_rfl))
      (fun W base args ds p hval hA => by
        rw [Try.params13] at hA hval
        obtain ⟨v0, vs0, d0, ds0, p0, q0, hargs, rfl, rfl, h0, r0⟩ := trodAll_cons hA
        obtain ⟨v1, vs1, d1, ds1, p1, q1, rfl, rfl, rfl, h1, r1⟩ := trodAll_cons r0
        obtain ⟨rfl, rfl, rfl⟩ := trodAll_nil r1
        obtain rfl : args = #[v0, v1] := by cases args; simp_all
        obtain ⟨rr0, gg0, bb0, rfl, a0, c0, e0⟩ := open_lcol (hval 0 _ v0 rfl rfl) h0
        obtain ⟨rr1, gg1, bb1, rfl, a1, c1, e1⟩ := open_lcol (hval 1 _ v1 rfl rfl) h1
        exact walk rr0 gg0 bb0 rr1 gg1 bb1 W a0 c0 e0 a1 c1 e1))
#print axioms holds
end Go.Proofs.Ytljilmekmfnkbaa.wFnExactFarColours
