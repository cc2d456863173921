/-
  The call of FnExactFormatColour returns true and writes nothing that was there.
-/
import Derived.Test.YtljilmekmfnkbaaCfo
namespace Go.Proofs.Ytljilmekmfnkbaa.wFnExactFormatColour
open Go.ChangeShapes Go.WideShapes Go.ChangeAt Go.RowKit Go.Joins
set_option linter.unusedSimpArgs false
set_option linter.unusedVariables false
set_option maxRecDepth 100000
attribute [local go_sem] store_f

theorem walk_of (a b c : Nat) (s : ByteArray) (w : World)
    (kI : ∀ w : World, Calls Try.prog 27 #[colV a b c] w fun e w' => e = .returned (.string s) ∧ Below w.heap.size w w')
    (kS : ∀ w : World, Calls Try.prog 38 #[colV a b c] w fun e w' => e = .returned (.string s) ∧ Below w.heap.size w w') :
    Calls Try.prog 14 #[colV a b c] w fun e w' => e = .returned (.bool true) ∧ Below w.heap.size w w' := by
  unfold colV at kI kS ⊢
  have KI : Hid (∀ w : World, Calls Try.prog 27 #[.agg #[.float .f32 a, .float .f32 b, .float .f32 c]] w fun e w' => e = .returned (.string s) ∧ Below w.heap.size w w') := kI
  have KS : Hid (∀ w : World, Calls Try.prog 38 #[.agg #[.float .f32 a, .float .f32 b, .float .f32 c]] w fun e w' => e = .returned (.string s) ∧ Below w.heap.size w w') := kS
  clear kI kS
  go_enter Try.func14, Try.ntmps14
  go_wp2_with (first | (go_at_call 29; refine (toColour_any _ _ _ _).mono ?_; rintro e w1 ⟨rfl, hb⟩; obtain ⟨hc, hf⟩ := bcell hb; have HL := keepL (by (repeat (first | (with_reducible assumption) | (with_reducible apply AllLt.alloc) | (with_reducible apply AllLt.setCell) | (with_reducible apply AllLt.drew) | (with_reducible exact AllLt.nil _)))) hb; have hq := HL; simp only [AllLt, and_true, World.size_alloc, World.size_setCell, World.size_drew] at hq; have hbs := hb.size; try simp only [World.size_alloc, World.size_setCell, World.size_drew] at hbs) | (go_at_call 27; refine (KI.out _).mono ?_; rintro e w2 ⟨rfl, hb⟩; obtain ⟨hc, hf⟩ := bcell hb; have HL := keepL (by (repeat (first | (with_reducible assumption) | (with_reducible apply AllLt.alloc) | (with_reducible apply AllLt.setCell) | (with_reducible apply AllLt.drew) | (with_reducible exact AllLt.nil _)))) hb; have hq := HL; simp only [AllLt, and_true, World.size_alloc, World.size_setCell, World.size_drew] at hq; have hbs := hb.size; try simp only [World.size_alloc, World.size_setCell, World.size_drew] at hbs) | (go_at_call 38; refine (KS.out _).mono ?_; rintro e w3 ⟨rfl, hb⟩; obtain ⟨hc, hf⟩ := bcell hb; have HL := keepL (by (repeat (first | (with_reducible assumption) | (with_reducible apply AllLt.alloc) | (with_reducible apply AllLt.setCell) | (with_reducible apply AllLt.drew) | (with_reducible exact AllLt.nil _)))) hb; have hq := HL; simp only [AllLt, and_true, World.size_alloc, World.size_setCell, World.size_drew] at hq; have hbs := hb.size; try simp only [World.size_alloc, World.size_setCell, World.size_drew] at hbs))
  go_returns; exact ⟨rfl, by (repeat' (first | (with_reducible exact Below.refl _ _) | (with_reducible assumption) | (with_reducible refine Below.alloc ?_ ?_ _) | (with_reducible refine Below.drew ?_) | (with_reducible refine Below.setCell ?_ ?_ _) | (with_reducible refine Below.trans ?_ (Below.mono (by assumption) ?_)) | (with_reducible exact Nat.le_refl _) | omega | (simp only [World.size_alloc, World.size_setCell, World.size_drew]; omega) | (simp; omega) | (simp; done)))⟩

theorem walk (a b c : Nat) (w : World) (ha : a < 4294967296) (hb : b < 4294967296) (hc : c < 4294967296) :
    Calls Try.prog 14 #[colV a b c] w fun e w' => e = .returned (.bool true) ∧ Below w.heap.size w w' := by
  cases h : colB a b c
  · exact walk_of a b c _ w (fun w => format_i_no a b c h w) (fun w => format_s_no a b c ⟨fun w => h ▸ isColour_s a b c ha hb hc w⟩ w)
  · obtain ⟨pa, pb, pc⟩ := colB_parts ha hb hc h
    exact walk_of a b c _ w (fun w => format_i_yes a b c pa pb pc w) (fun w => format_s_yes a b c pa pb pc w)
end Go.Proofs.Ytljilmekmfnkbaa.wFnExactFormatColour
