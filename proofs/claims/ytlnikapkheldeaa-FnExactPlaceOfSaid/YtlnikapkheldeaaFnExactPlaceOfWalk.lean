/-
  The call of FnExactPlaceOf returns true and writes nothing that was there.
-/
import Derived.Test.YtlnikapkheldeaaMg
import Derived.Test.YtlnikapkheldeaaCt
import Derived.Laws.ComplexArith
namespace Go.Proofs.Ytlnikapkheldeaa.wFnExactPlaceOf
open Go.ChangeShapes Go.WideShapes Go.ChangeAt Go.RowKit Go.Joins
set_option linter.unusedSimpArgs false
set_option linter.unusedVariables false
set_option maxRecDepth 100000
attribute [local go_sem] store_f
open Ieee
attribute [local go_sem] store_c

theorem wides : ∀ m : Nat, m < 15 → m ≠ 7 → FloatKind.f64.format.order (wide (iw ((m : Int) - 7))) (wide (iw ((m : Int) - 7))) = some .eq ∧ ¬ FloatKind.f64.format.order (wide (iw ((m : Int) - 7))) 0 = some .eq := by decide +kernel
structure Same (y : Nat) : Prop where
  call : ∀ w : World, Calls Try.prog 66 #[.float .f64 y, .float .f64 y] w fun e w' => e = .returned (.bool true) ∧ w' = w
theorem same_iw {z : Int} (h1 : -7 ≤ z) (h2 : z ≤ 7) : Same (wide (iw z)) := ⟨fun w => by
  by_cases h : z = 0
  · subst h
    have e : wide (iw 0) = 0 := by decide +kernel
    rw [e]
    exact sameFloat_zero w
  · have k := wides (z + 7).toNat (by omega) (by omega)
    have e : (((z + 7).toNat : Nat) : Int) - 7 = z := by omega
    rw [e] at k
    exact sameFloat_other _ k.1 k.2 w⟩
structure SameC (a b : Nat) : Prop where
  call : ∀ w : World, Calls Try.prog 48 #[.complex .f64 a b, .complex .f64 a b] w fun e w' => e = .returned (.bool true) ∧ w' = w
theorem sameC {a b : Nat} (A : Same a) (B : Same b) : SameC a b := ⟨fun w => by
  go_enter Try.func48, Try.ntmps48
  go_wp2_with (go_at_call 66; (first | (with_reducible refine (A.call _).mono ?_) | (with_reducible refine (B.call _).mono ?_)); rintro e w1 ⟨rfl, rfl⟩)
  go_ret
  exact ⟨rfl, rfl⟩⟩
/-- What both answer. -/
structure Both (n k : Int) (x y p q : Nat) (b : Bool) : Prop where
  i : CellPl n k x y b
  s : PlS n k x y b
  c : SameC p q
  cv : cConvBits .f32 x y .f64 = some (p, q)
theorem conv_of {x y : Nat} (hx : okB x = true) (hy : okB y = true) : cConvBits .f32 x y .f64 = some (wide x, wide y) := by
  unfold cConvBits
  rw [wide_bits (ok_fin hx), wide_bits (ok_fin hy)]; rfl
theorem both (n k : Int) : ∃ x y p q b, Both n k x y p q b := by
  by_cases hc : cellB n k = true
  · obtain ⟨m, j, rfl, rfl, h1, h8, hj⟩ := cell_cases hc
    obtain ⟨a, b⟩ := pl_bd h1 hj
    have ax := iw_of (z := plX m j) (by omega) (by omega)
    have ay := iw_of (z := plY m j) (by omega) (by omega)
    exact ⟨_, _, _, _, _, cellPl_yes h1 h8 hj, plS_yes h1 h8 hj, sameC (same_iw (by omega) (by omega)) (same_iw (by omega) (by omega)), conv_of ax.1 ay.1⟩
  · have e : wide 0 = wide (iw 0) := by decide +kernel
    have S := same_iw (z := 0) (by omega) (by omega)
    rw [← e] at S
    exact ⟨0, 0, _, _, false, cellPl_no (by simpa using hc), plS_no (by simpa using hc), sameC S S, conv_of ok_zero ok_zero⟩
theorem walk (n k : Int) (w : World) (_ : -9223372036854775808 ≤ n) (_ : n ≤ 9223372036854775807) (_ : -9223372036854775808 ≤ k) (_ : k ≤ 9223372036854775807) :
    Calls Try.prog 10 #[.int .i64 n, .int .i64 k] w fun e w' => e = .returned (.bool true) ∧ Below w.heap.size w w' := by
  obtain ⟨x, y, p, q, b, B⟩ := both n k
  have hcv := fun w => run_convert_complex (P := Try.prog) w 28 74 .f32 .f64 x y p q (by rw [Try.underlying28]; rfl) Try.underlying74 B.cv
  cases b
  all_goals
    go_enter Try.func10, Try.ntmps10
    go_wp2_with (first | simp only [hcv] | (go_at_call 47; refine (B.s.call _).mono ?_; rintro e w1 ⟨rfl, hb⟩; obtain ⟨hc, hf⟩ := bcell hb; have HL := keepL (by (repeat (first | (with_reducible assumption) | (with_reducible apply AllLt.alloc) | (with_reducible apply AllLt.setCell) | (with_reducible apply AllLt.drew) | (with_reducible exact AllLt.nil _)))) hb; have hq := HL; simp only [AllLt, and_true, World.size_alloc, World.size_setCell, World.size_drew] at hq; have hbs := hb.size; try simp only [World.size_alloc, World.size_setCell, World.size_drew] at hbs) | (go_at_call 22; refine (B.i.call _).mono ?_; rintro e w1 ⟨rfl, hb⟩; obtain ⟨hc, hf⟩ := bcell hb; have HL := keepL (by (repeat (first | (with_reducible assumption) | (with_reducible apply AllLt.alloc) | (with_reducible apply AllLt.setCell) | (with_reducible apply AllLt.drew) | (with_reducible exact AllLt.nil _)))) hb; have hq := HL; simp only [AllLt, and_true, World.size_alloc, World.size_setCell, World.size_drew] at hq; have hbs := hb.size; try simp only [World.size_alloc, World.size_setCell, World.size_drew] at hbs) | (go_at_call 48; (with_reducible refine (B.c.call _).mono ?_); rintro e w4 ⟨rfl, rfl⟩))
    go_ret
    exact ⟨rfl, by (repeat' (first | (with_reducible exact Below.refl _ _) | (with_reducible assumption) | (with_reducible refine Below.alloc ?_ ?_ _) | (with_reducible refine Below.drew ?_) | (with_reducible refine Below.setCell ?_ ?_ _) | (with_reducible refine Below.trans ?_ (Below.mono (by assumption) ?_)) | (with_reducible exact Nat.le_refl _) | omega | (simp only [World.size_alloc, World.size_setCell, World.size_drew]; omega) | (simp; omega) | (simp; done)))⟩
end Go.Proofs.Ytlnikapkheldeaa.wFnExactPlaceOf
