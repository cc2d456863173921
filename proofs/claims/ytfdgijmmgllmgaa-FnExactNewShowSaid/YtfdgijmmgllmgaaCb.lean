/-
  Is it a part? Contracts of both sides.
-/
import Derived.Test.YtfdgijmmgllmgaaCpart
namespace Go.Proofs.Ytfdgijmmgllmgaa
open Go.ChangeShapes Go.WideShapes Go.ChangeAt Go.RowKit Go.Joins
set_option linter.unusedSimpArgs false
set_option linter.unusedVariables false
set_option maxRecDepth 100000
attribute [local go_sem] store_f

theorem l1Single_yes (x : Nat) (w : World) (h : FloatKind.f32.format.sub x x = some 0) :
    Calls Try.prog 79 #[.float .f32 x] w fun e w' => e = .returned (.bool true) ∧ Below w.heap.size w w' := by
  have hop := fun t w => run_float_arith (P := Try.prog) w .sub t .f32 x x 0 h
  have h0 : (FloatKind.f32.format.order 0 0 == some .eq) = true := by kernel_rfl
  go_enter Try.func79, Try.ntmps79
  go_wp2_with (simp only [hop])
  all_goals (go_ret; exact ⟨by simp_all, Below.refl _ _⟩)

theorem l1Single_no (x : Nat) (w : World) (h : FloatKind.f32.format.sub x x = none) :
    Calls Try.prog 79 #[.float .f32 x] w fun e w' => e = .returned (.bool false) ∧ Below w.heap.size w w' := by
  have hop := fun t w => run_float_nan (P := Try.prog) w t x x h
  have h0 := nan_order x x
  go_enter Try.func79, Try.ntmps79
  go_wp2_with (simp only [hop])
  all_goals (go_ret; exact ⟨by simp_all, by (repeat' (first | (with_reducible exact Below.refl _ _) | (with_reducible assumption) | (with_reducible refine Below.alloc ?_ ?_ _) | (with_reducible refine Below.drew ?_) | (with_reducible refine Below.setCell ?_ ?_ _) | (with_reducible refine Below.trans ?_ (Below.mono (by assumption) ?_)) | (with_reducible exact Nat.le_refl _) | omega | (simp only [World.size_alloc, World.size_setCell, World.size_drew]; omega) | (simp; omega) | (simp; done)))⟩)


theorem l1Single_s (x : Nat) (w : World) :
    Calls Try.prog 79 #[.float .f32 x] w fun e w' => e = .returned (.bool (rungOf F32 x < F32.infRung)) ∧ Below w.heap.size w w' := by
  by_cases h : Fin32 x
  · refine (l1Single_yes x w (sub_self h)).mono ?_
    rintro e w1 ⟨rfl, hb⟩
    have h' : rungOf F32 x < F32.infRung := h
    exact ⟨by simp [h'], hb⟩
  · refine (l1Single_no x w (sub_self_none h)).mono ?_
    rintro e w1 ⟨rfl, hb⟩
    have h' : ¬ rungOf F32 x < F32.infRung := h
    exact ⟨by simp [h'], hb⟩

theorem part_fin' {x : Nat} (hx : x < 4294967296) (h : ¬ rungOf F32 x < F32.infRung) : shareB x = false := by
  cases h1 : shareB x
  · rfl
  · exact absurd (share_part hx h1).fin h

theorem l2Part_s (x : Nat) (hx : x < 4294967296) (w : World) :
    Calls Try.prog 113 #[.float .f32 x] w fun e w' => e = .returned (.bool (shareB x)) ∧ Below w.heap.size w w' := by
  have HX : Hid (x < 4294967296) := hx
  clear hx
  by_cases hs : rungOf F32 x < F32.infRung
  · go_enter Try.func113, Try.ntmps113
    go_wp2_with (go_at_call 79; refine (l1Single_s _ _).mono ?_; rintro e w1 ⟨rfl, hb⟩; simp only [hs, decide_true])
    all_goals (go_ret; exact ⟨by simp_all [shareB], by (repeat' (first | (with_reducible exact Below.refl _ _) | (with_reducible assumption) | (with_reducible refine Below.alloc ?_ ?_ _) | (with_reducible refine Below.drew ?_) | (with_reducible refine Below.setCell ?_ ?_ _) | (with_reducible refine Below.trans ?_ (Below.mono (by assumption) ?_)) | (with_reducible exact Nat.le_refl _) | omega | (simp only [World.size_alloc, World.size_setCell, World.size_drew]; omega) | (simp; omega) | (simp; done)))⟩)
  · have H2 : Hid (shareB x = false) := part_fin' HX.out hs
    go_enter Try.func113, Try.ntmps113
    go_wp2_with (go_at_call 79; refine (l1Single_s _ _).mono ?_; rintro e w1 ⟨rfl, hb⟩; simp only [hs, decide_false])
    all_goals (go_ret; exact ⟨by simp [H2.out], by (repeat' (first | (with_reducible exact Below.refl _ _) | (with_reducible assumption) | (with_reducible refine Below.alloc ?_ ?_ _) | (with_reducible refine Below.drew ?_) | (with_reducible refine Below.setCell ?_ ?_ _) | (with_reducible refine Below.trans ?_ (Below.mono (by assumption) ?_)) | (with_reducible exact Nat.le_refl _) | omega | (simp only [World.size_alloc, World.size_setCell, World.size_drew]; omega) | (simp; omega) | (simp; done)))⟩)

theorem l2Part_is {x : Nat} {s : Bool} (hs : shareB x = s) (hx : x < 4294967296) (w : World) :
    Calls Try.prog 113 #[.float .f32 x] w fun e w' => e = .returned (.bool s) ∧ Below w.heap.size w w' := hs ▸ l2Part_s x hx w
end Go.Proofs.Ytfdgijmmgllmgaa
