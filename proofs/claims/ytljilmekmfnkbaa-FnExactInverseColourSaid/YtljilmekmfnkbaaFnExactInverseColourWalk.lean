/-
  The call of FnExactInverseColour returns true and writes nothing that was there.
-/
import Derived.Test.YtljilmekmfnkbaaCinv
namespace Go.Proofs.Ytljilmekmfnkbaa.wFnExactInverseColour
open Go.ChangeShapes Go.WideShapes Go.ChangeAt Go.RowKit Go.Joins
set_option linter.unusedSimpArgs false
set_option linter.unusedVariables false
set_option maxRecDepth 100000
attribute [local go_sem] store_f

theorem walk_of (a b c x y z : Nat) (w : World)
    (kI : ∀ w : World, Calls Try.prog 23 #[colV a b c] w fun e w' => e = .returned (colV x y z) ∧ Below w.heap.size w w')
    (kS : ∀ w : World, Calls Try.prog 33 #[colV a b c] w fun e w' => e = .returned (colV x y z) ∧ Below w.heap.size w w')
    (hx : x < 2139095040) (hy : y < 2139095040) (hz : z < 2139095040) :
    Calls Try.prog 10 #[colV a b c] w fun e w' => e = .returned (.bool true) ∧ Below w.heap.size w w' := by
  have kE := fun w => eqColour_yes x y z hx hy hz w
  clear hx hy hz
  unfold colV at kI kS kE ⊢
  have KI : Hid (∀ w : World, Calls Try.prog 23 #[.agg #[.float .f32 a, .float .f32 b, .float .f32 c]] w fun e w' => e = .returned (.agg #[.float .f32 x, .float .f32 y, .float .f32 z]) ∧ Below w.heap.size w w') := kI
  have KS : Hid (∀ w : World, Calls Try.prog 33 #[.agg #[.float .f32 a, .float .f32 b, .float .f32 c]] w fun e w' => e = .returned (.agg #[.float .f32 x, .float .f32 y, .float .f32 z]) ∧ Below w.heap.size w w') := kS
  have KE : Hid (∀ w : World, Calls Try.prog 31 #[.agg #[.float .f32 x, .float .f32 y, .float .f32 z], .agg #[.float .f32 x, .float .f32 y, .float .f32 z]] w fun e w' => e = .returned (.bool true) ∧ Below w.heap.size w w') := kE
  clear kI kS kE
  go_enter Try.func10, Try.ntmps10
  go_wp2_with (first | (go_at_call 29; refine (toColour_any _ _ _ _).mono ?_; rintro e w1 ⟨rfl, hb⟩; obtain ⟨hc, hf⟩ := bcell hb; have HL := keepL (by (repeat (first | (with_reducible assumption) | (with_reducible apply AllLt.alloc) | (with_reducible apply AllLt.setCell) | (with_reducible apply AllLt.drew) | (with_reducible exact AllLt.nil _)))) hb; have hq := HL; simp only [AllLt, and_true, World.size_alloc, World.size_setCell, World.size_drew] at hq; have hbs := hb.size; try simp only [World.size_alloc, World.size_setCell, World.size_drew] at hbs) | (go_at_call 23; refine (KI.out _).mono ?_; rintro e w2 ⟨rfl, hb⟩; obtain ⟨hc, hf⟩ := bcell hb; have HL := keepL (by (repeat (first | (with_reducible assumption) | (with_reducible apply AllLt.alloc) | (with_reducible apply AllLt.setCell) | (with_reducible apply AllLt.drew) | (with_reducible exact AllLt.nil _)))) hb; have hq := HL; simp only [AllLt, and_true, World.size_alloc, World.size_setCell, World.size_drew] at hq; have hbs := hb.size; try simp only [World.size_alloc, World.size_setCell, World.size_drew] at hbs) | (go_at_call 33; refine (KS.out _).mono ?_; rintro e w3 ⟨rfl, hb⟩; obtain ⟨hc, hf⟩ := bcell hb; have HL := keepL (by (repeat (first | (with_reducible assumption) | (with_reducible apply AllLt.alloc) | (with_reducible apply AllLt.setCell) | (with_reducible apply AllLt.drew) | (with_reducible exact AllLt.nil _)))) hb; have hq := HL; simp only [AllLt, and_true, World.size_alloc, World.size_setCell, World.size_drew] at hq; have hbs := hb.size; try simp only [World.size_alloc, World.size_setCell, World.size_drew] at hbs) | (go_at_call 31; refine (KE.out _).mono ?_; rintro e w4 ⟨rfl, hb⟩; obtain ⟨hc, hf⟩ := bcell hb; have HL := keepL (by (repeat (first | (with_reducible assumption) | (with_reducible apply AllLt.alloc) | (with_reducible apply AllLt.setCell) | (with_reducible apply AllLt.drew) | (with_reducible exact AllLt.nil _)))) hb; have hq := HL; simp only [AllLt, and_true, World.size_alloc, World.size_setCell, World.size_drew] at hq; have hbs := hb.size; try simp only [World.size_alloc, World.size_setCell, World.size_drew] at hbs))
  go_returns; exact ⟨rfl, by (repeat' (first | (with_reducible exact Below.refl _ _) | (with_reducible assumption) | (with_reducible refine Below.alloc ?_ ?_ _) | (with_reducible refine Below.drew ?_) | (with_reducible refine Below.setCell ?_ ?_ _) | (with_reducible refine Below.trans ?_ (Below.mono (by assumption) ?_)) | (with_reducible exact Nat.le_refl _) | omega | (simp only [World.size_alloc, World.size_setCell, World.size_drew]; omega) | (simp; omega) | (simp; done)))⟩

theorem walk (a b c : Nat) (w : World) (ha : a < 4294967296) (hb : b < 4294967296) (hc : c < 4294967296) :
    Calls Try.prog 10 #[colV a b c] w fun e w' => e = .returned (.bool true) ∧ Below w.heap.size w w' := by
  cases h : colB a b c
  · exact walk_of a b c 0 0 0 w (fun w => inverse_i_no a b c h w) (fun w => inverse_s_no a b c ha hb hc h w) (by omega) (by omega) (by omega)
  · obtain ⟨pa, pb, pc⟩ := colB_parts ha hb hc h
    have la := subB_part part_one pa (by rw [pm_one]; exact pa.pm_le)
    have lb := subB_part part_one pb (by rw [pm_one]; exact pb.pm_le)
    have lc := subB_part part_one pc (by rw [pm_one]; exact pc.pm_le)
    have h1 := part_one.rung
    exact walk_of a b c _ _ _ w (fun w => inverse_i_yes a b c pa pb pc w) (fun w => inverse_s_yes a b c pa pb pc w) (by omega) (by omega) (by omega)
end Go.Proofs.Ytljilmekmfnkbaa.wFnExactInverseColour
