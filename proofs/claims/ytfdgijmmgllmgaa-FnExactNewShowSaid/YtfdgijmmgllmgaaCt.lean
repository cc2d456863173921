/-
  Two colours of the same bits hold as equal in the law; shares in doubles; what is kept in bounds.
-/
import Derived.Test.YtfdgijmmgllmgaaCconv
import Derived.Test.YtfdgijmmgllmgaaCs
namespace Go.Proofs.Ytfdgijmmgllmgaa
open Go.ChangeShapes Go.WideShapes Go.ChangeAt Go.RowKit Go.Joins
set_option linter.unusedSimpArgs false
set_option linter.unusedVariables false
set_option maxRecDepth 100000
attribute [local go_sem] store_f

theorem sameFloat_zero (w : World) :
    Calls Try.prog 46 #[.float .f64 0, .float .f64 0] w fun e w' => e = .returned (.bool true) ∧ w' = w := by
  have hq := fun t w => run_float_arith (P := Try.prog) w .quo t .f64 4607182418800017408 0 9218868437227405312 (by kernel_rfl)
  have h0 : (FloatKind.f64.format.order 0 0 != some .eq) = false := by kernel_rfl
  have h1 : (FloatKind.f64.format.order 0 0 == some .eq) = true := by kernel_rfl
  go_enter Try.func46, Try.ntmps46
  go_wp2_with (simp only [hq])
  all_goals (go_ret; exact ⟨by simp_all, rfl⟩)

theorem sameFloat_other (y : Nat) (hs : FloatKind.f64.format.order y y = some .eq) (hz : ¬ FloatKind.f64.format.order y 0 = some .eq) (w : World) :
    Calls Try.prog 46 #[.float .f64 y, .float .f64 y] w fun e w' => e = .returned (.bool true) ∧ w' = w := by
  have h1 : (FloatKind.f64.format.order y y == some .eq) = true := by rw [hs]; rfl
  have h0 : (FloatKind.f64.format.order y y != some .eq) = false := by rw [hs]; rfl
  have h2 : (FloatKind.f64.format.order y 0 == some .eq) = false := by simpa using hz
  clear hs hz
  go_enter Try.func46, Try.ntmps46
  go_wp2
  all_goals (go_ret; exact ⟨by simp_all, rfl⟩)

theorem sameFloat_wide {x : Nat} (h : Fin32 x) (hx : x < 2147483648) (w : World) :
    Calls Try.prog 46 #[.float .f64 (wide x), .float .f64 (wide x)] w fun e w' => e = .returned (.bool true) ∧ w' = w := by
  by_cases hz : FloatKind.f64.format.order (wide x) 0 = some .eq
  · rw [wide_zero h hx hz]; exact sameFloat_zero w
  · exact sameFloat_other _ (wide_same h) hz w

/-- A double that holds as the same as itself in the law. -/
structure Same64 (y : Nat) : Prop where
  call : ∀ w : World, Calls Try.prog 46 #[.float .f64 y, .float .f64 y] w fun e w' => e = .returned (.bool true) ∧ w' = w

theorem eqColour_yes (a b c : Nat) (ha : a < 2139095040) (hb : b < 2139095040) (hc : c < 2139095040) (w : World) :
    Calls Try.prog 47 #[colV a b c, colV a b c] w fun e w' => e = .returned (.bool true) ∧ Below w.heap.size w w' := by
  have qa := fun w => run_convert_float_float (P := Try.prog) w 30 83 .f32 .f64 a _ (by rw [Try.underlying30]; rfl) Try.underlying83 (wide_bits (fin_of_lt ha))
  have qb := fun w => run_convert_float_float (P := Try.prog) w 30 83 .f32 .f64 b _ (by rw [Try.underlying30]; rfl) Try.underlying83 (wide_bits (fin_of_lt hb))
  have qc := fun w => run_convert_float_float (P := Try.prog) w 30 83 .f32 .f64 c _ (by rw [Try.underlying30]; rfl) Try.underlying83 (wide_bits (fin_of_lt hc))
  have KA : Same64 (wide a) := ⟨fun w => sameFloat_wide (fin_of_lt ha) (by omega) w⟩
  have KB : Same64 (wide b) := ⟨fun w => sameFloat_wide (fin_of_lt hb) (by omega) w⟩
  have KC : Same64 (wide c) := ⟨fun w => sameFloat_wide (fin_of_lt hc) (by omega) w⟩
  clear ha hb hc
  generalize wide a = ya at qa KA
  generalize wide b = yb at qb KB
  generalize wide c = yc at qc KC
  unfold colV
  go_enter Try.func47, Try.ntmps47
  go_wp2_with (first | simp only [qa] | simp only [qb] | simp only [qc] | (go_at_call 46; refine (Same64.call ?_ _).mono ?_; (next => with_reducible assumption); rintro e w1 ⟨rfl, rfl⟩))
  go_returns; exact ⟨rfl, by (repeat' (first | (with_reducible exact Below.refl _ _) | (with_reducible assumption) | (with_reducible refine Below.alloc ?_ ?_ _) | (with_reducible refine Below.drew ?_) | (with_reducible refine Below.setCell ?_ ?_ _) | (with_reducible refine Below.trans ?_ (Below.mono (by assumption) ?_)) | (with_reducible exact Nat.le_refl _) | omega | (simp only [World.size_alloc, World.size_setCell, World.size_drew]; omega) | (simp; omega) | (simp; done)))⟩

theorem areColours_i (a b c x y z : Nat) (w : World) :
    Calls Try.prog 66 #[colV a b c, colV x y z] w fun e w' => e = .returned (.bool (colB a b c && colB x y z)) ∧ Below w.heap.size w w' := by
  have K1 : Hid (∀ w : World, Calls Try.prog 63 #[colV a b c] w fun e w' => e = .returned (.bool (colB a b c)) ∧ Below w.heap.size w w') := fun w => isColour_i a b c w
  have K2 : Hid (∀ w : World, Calls Try.prog 63 #[colV x y z] w fun e w' => e = .returned (.bool (colB x y z)) ∧ Below w.heap.size w w') := fun w => isColour_i x y z w
  generalize colB a b c = p at K1 ⊢
  generalize colB x y z = q at K2 ⊢
  unfold colV at K1 K2 ⊢
  cases p
  all_goals
    go_enter Try.func66, Try.ntmps66
    go_wp2_with (go_at_call 63; (first | refine (K1.out _).mono ?_ | refine (K2.out _).mono ?_); rintro e w1 ⟨rfl, hb⟩; obtain ⟨hc, hf⟩ := bcell hb; have HL := keepL (by (repeat (first | (with_reducible assumption) | (with_reducible apply AllLt.alloc) | (with_reducible apply AllLt.setCell) | (with_reducible apply AllLt.drew) | (with_reducible exact AllLt.nil _)))) hb; have hq := HL; simp only [AllLt, and_true, World.size_alloc, World.size_setCell, World.size_drew] at hq; have hbs := hb.size; try simp only [World.size_alloc, World.size_setCell, World.size_drew] at hbs)
    all_goals (go_returns; exact ⟨by simp, by (repeat' (first | (with_reducible exact Below.refl _ _) | (with_reducible assumption) | (with_reducible refine Below.alloc ?_ ?_ _) | (with_reducible refine Below.drew ?_) | (with_reducible refine Below.setCell ?_ ?_ _) | (with_reducible refine Below.trans ?_ (Below.mono (by assumption) ?_)) | (with_reducible exact Nat.le_refl _) | omega | (simp only [World.size_alloc, World.size_setCell, World.size_drew]; omega) | (simp; omega) | (simp; done)))⟩)

theorem colB_parts {a b c : Nat} (ha : a < 4294967296) (hb : b < 4294967296) (hc : c < 4294967296) (h : colB a b c = true) : Part a ∧ Part b ∧ Part c := by
  unfold colB at h
  simp only [Bool.and_eq_true] at h
  exact ⟨share_part ha h.1.1, share_part hb h.1.2, share_part hc h.2⟩
theorem parts_colB {a b c : Nat} (ha : Part a) (hb : Part b) (hc : Part c) : colB a b c = true := by
  unfold colB; rw [part_share ha, part_share hb, part_share hc]; rfl
end Go.Proofs.Ytfdgijmmgllmgaa
