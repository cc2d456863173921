/-
  The draw of a point.
-/
import Derived.Test.YtlnikapkheldeaaFe
namespace Go.Proofs.Ytlnikapkheldeaa
open Go.ChangeShapes Go.WideShapes Go.ChangeAt Go.RowKit Go.Joins
set_option linter.unusedSimpArgs false
set_option linter.unusedVariables false
set_option maxRecDepth 100000
attribute [local go_sem] store_f
open Ieee

theorem run_negf (P : Program) (w : World) (k : FloatKind) (b : Nat) : (Op.unary .neg (.float k b)).run P w = .ok (.float k (Op.negFloat k b)) w := rfl
theorem neg_word (x : Nat) : Op.negFloat .f32 x = x ^^^ 2 ^ 31 := rfl
theorem ok_neg {x : Nat} (h : okB x = true) : okB (Op.negFloat .f32 x) = true := by
  rw [neg_word]
  simp only [okB, Bool.and_eq_true, decide_eq_true_eq] at h ⊢
  have e : (x ^^^ 2 ^ 31) % 2147483648 = x % 2147483648 := by
    have := Nat.xor_mod_two_pow (a := x) (b := 2 ^ 31) (n := 31)
    simpa using this
  refine ⟨?_, by rw [e]; exact h.2⟩
  have := Nat.xor_lt_two_pow (x := x) (y := 2 ^ 31) (n := 32) (by omega) (by omega)
  simpa using this

structure PointDrawn (B q : Nat) (w : World) (e : Ending) (w' : World) (x y : Nat) : Prop where
  ret : e = .returned (.complex .f32 x y)
  okx : okB x = true
  oky : okB y = true
  cur : Cur B w' q
  grown : w.grownBy w' (some q)

set_option maxHeartbeats 2000000 in
theorem l1Point_s (B q : Nat) (w : World) (hcur : Cur B w q) :
    Calls Try.prog 171 #[.pointer (some ⟨q, 0, Option.none⟩)] w fun e w' => ∃ x y, PointDrawn B q w e w' x y := by
  have HC : Hid (Cur B w q) := hcur
  clear hcur
  go_enter Try.func171, Try.ntmps171
  go_wp2_with fail
  refine (l1Fine_s B q _ HC.out).mono ?_
  rintro e w1 ⟨x, ⟨rfl, hx, hc1, hg1⟩⟩
  have HC1 : Hid (Cur B w1 q) := hc1
  have HG1 : Hid (w.grownBy w1 (some q)) := hg1
  have OX : Hid (okB x = true) := hx
  clear hc1 hg1 hx
  go_wp2_with fail
  refine (l1Below_s B q 7 _ HC1.out (by omega) (by omega)).mono ?_
  rintro e w2 ⟨k, rfl, hx0, hx1, hc2, hg2⟩
  have HC2 : Hid (Cur B w2 q) := hc2
  have HG2 : Hid (w.grownBy w2 (some q)) := grownBy_trans HG1.out hg2
  clear hc2 hg2
  rcases (by omega : k = 0 ∨ k = 1 ∨ k = 2 ∨ k = 3 ∨ (4 ≤ k ∧ k ≠ 0 ∧ k ≠ 1 ∧ k ≠ 2 ∧ k ≠ 3)) with rfl | rfl | rfl | rfl | ⟨h4, n0, n1, n2, n3⟩
  · go_wp2
    go_ret
    exact ⟨x, 0, rfl, OX.out, ok_zero, HC2.out, HG2.out⟩
  · go_wp2
    go_ret
    exact ⟨0, x, rfl, ok_zero, OX.out, HC2.out, HG2.out⟩
  · go_wp2
    go_ret
    exact ⟨x, x, rfl, OX.out, OX.out, HC2.out, HG2.out⟩
  · have hop := fun w => run_negf Try.prog w .f32 x
    have OY := ok_neg OX.out
    generalize Op.negFloat .f32 x = y at hop OY
    go_wp2_with (simp only [hop])
    go_ret
    exact ⟨x, y, rfl, OX.out, OY, HC2.out, HG2.out⟩
  · go_wp2_with fail
    refine (l1Fine_s B q _ HC2.out).mono ?_
    rintro e w3 ⟨y, ⟨rfl, hy, hc3, hg3⟩⟩
    have HC3 : Hid (Cur B w3 q) := hc3
    have HG3 : Hid (w.grownBy w3 (some q)) := grownBy_trans HG2.out hg3
    have OY : Hid (okB y = true) := hy
    clear hc3 hg3 hy
    go_wp2
    go_ret
    exact ⟨x, y, rfl, OX.out, OY.out, HC3.out, HG3.out⟩
/-- What the draw of a kind and a point gives. -/
structure PlaceDrawn (w : World) (e : Ending) (w' : World) (k : Nat) (x y : Nat) : Prop where
  ret : e = .returned (.tuple #[.int .i64 k, .complex .f32 x y])
  lt : k < 4
  okx : okB x = true
  oky : okB y = true
  below : Below w.heap.size w w'

end Go.Proofs.Ytlnikapkheldeaa
