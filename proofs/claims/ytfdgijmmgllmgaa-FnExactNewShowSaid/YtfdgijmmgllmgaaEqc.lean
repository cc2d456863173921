/-
  A colour of whatever words holds as the same as itself in the law.
-/
import Derived.Test.YtfdgijmmgllmgaaCt
import Derived.Test.YtfdgijmmgllmgaaHl
namespace Go.Proofs.Ytfdgijmmgllmgaa
open Go.ChangeShapes Go.WideShapes Go.ChangeAt Go.RowKit Go.Joins
set_option linter.unusedSimpArgs false
set_option linter.unusedVariables false
set_option maxRecDepth 100000
attribute [local go_sem] store_f
open Ieee

/-- Two doubles that hold as the same in the law. -/
structure SameF (a b : Nat) : Prop where
  call : ∀ w : World, Calls Try.prog 46 #[.float .f64 a, .float .f64 b] w fun e w' => e = .returned (.bool true) ∧ w' = w
theorem sameF_neg : SameF 9223372036854775808 9223372036854775808 := ⟨fun w => by
  have hq := fun t w => run_float_arith (P := Try.prog) w .quo t .f64 4607182418800017408 9223372036854775808 18442240474082181120 (by kernel_rfl)
  have h0 : (FloatKind.f64.format.order 9223372036854775808 9223372036854775808 != some .eq) = false := by kernel_rfl
  have h1 : (FloatKind.f64.format.order 9223372036854775808 0 == some .eq) = true := by kernel_rfl
  go_enter Try.func46, Try.ntmps46
  go_wp2_with (simp only [hq])
  all_goals (go_ret; exact ⟨by simp_all, rfl⟩)⟩
theorem sameF_nan {a b : Nat} (ha : FloatKind.f64.format.order a a = none) (hb : FloatKind.f64.format.order b b = none) : SameF a b := ⟨fun w => by
  have h0 : (FloatKind.f64.format.order a a != some .eq) = true := by rw [ha]; rfl
  have h1 : (FloatKind.f64.format.order b b != some .eq) = true := by rw [hb]; rfl
  clear ha hb
  go_enter Try.func46, Try.ntmps46
  go_wp2
  all_goals (go_ret; exact ⟨by simp_all, rfl⟩)⟩
theorem zero_of_wide {x : Nat} (h : Fin32 x) (he : F64.order (wide x) 0 = some .eq) : rungOf F32 x = 0 := by
  rw [order_fin F64 (wide_fin h) zero64_fin] at he
  have hv : valOf F64 0 = 0 := by
    unfold valOf rungOf negOf
    rw [F64_sw]; simp [magOf_zero]
  rw [hv] at he
  have h1 : valOf F64 (wide x) = 0 := by
    have := cmp_eq (a := valOf F64 (wide x)) (b := 0)
    rw [he] at this
    simpa using this.symm
  have h2 : magOf F64 (rungOf F64 (wide x)) = 0 := by
    unfold valOf at h1
    split at h1 <;> omega
  rw [wide_mag h] at h2
  have h3 : magOf F32 (rungOf F32 x) = 0 := by
    rcases Nat.mul_eq_zero.1 h2 with h | h
    · exact h
    · exact absurd h (Nat.pos_iff_ne_zero.1 (Nat.two_pow_pos 925))
  rcases Nat.eq_zero_or_pos (rungOf F32 x) with h4 | h4
  · exact h4
  · have := magOf_pos h4; omega

/-- What a single becomes as a double: a word that the world tells, and a draw where it is no number. -/
structure Wid (x : Nat) (nf : World → Nat) (st : Bool) : Prop where
  run : ∀ w : World, (convert 30 83 (.float .f32 x)).run Try.prog w = .ok (.float .f64 (nf w)) (if st then w.drew else w)
  same : ∀ w w' : World, SameF (nf w) (nf w')
theorem wid_num {x y : Nat} (h : floatToFloatBits .f32 x .f64 = some y) (S : SameF y y) : Wid x (fun _ => y) false :=
  ⟨fun w => run_convert_float_float (P := Try.prog) w 30 83 .f32 .f64 x y (by rw [Try.underlying30]; rfl) Try.underlying83 h, fun _ _ => S⟩
theorem nan64 (x t : Nat) : FloatKind.f64.format.order ((Question.nanConv .f64 x).cut t) ((Question.nanConv .f64 x).cut t) = none := by
  have h : F64.infRung < rungOf F64 ((Question.nanConv .f64 x).cut t) := by
    show _ < rungOf F64 (t % 2 * 2 ^ 63 + 0x7ff0000000000000 + 1 + t / 2 % (2 ^ 52 - 1))
    unfold rungOf
    rw [F64_inf, F64_sw]
    have hb : t / 2 % (2 ^ 52 - 1) < 2 ^ 52 - 1 := Nat.mod_lt _ (by omega)
    have ha : t % 2 = 0 ∨ t % 2 = 1 := by omega
    generalize t / 2 % (2 ^ 52 - 1) = b at hb ⊢
    rcases ha with e | e <;> rw [e] <;> omega
  show (F64.read _).order (F64.read _) = none
  rw [read_nan F64 h (by decide)]; rfl
theorem wid_nan {x : Nat} (h : F32.infRung < rungOf F32 x) : Wid x (fun w => (Question.nanConv .f64 x).cut (w.tape w.drawn (.nanConv .f64 x))) true := ⟨fun w => by
  have hr : FloatKind.f32.decode x = .nan (negOf F32 x) (rungOf F32 x - F32.infRung) := read_nan F32 h F32_eb
  have hf : (Conv.floatToFloat .f32 x .f64).run Try.prog w = .ok (.float .f64 ((Question.nanConv .f64 x).cut (w.tape w.drawn (.nanConv .f64 x)))) w.drew := by
    unfold Conv.floatToFloat
    rw [if_neg (by decide), hr]
    simp [Question.forced]
  have hs : (Try.prog.underlying 30) = some (.float .f32) := Try.underlying30
  have hd : (Try.prog.underlying 83) = some (.float .f64) := Try.underlying83
  simp only [convert]
  simp [run_underlying hs, run_underlying hd, hf], fun _ _ => sameF_nan (nan64 _ _) (nan64 _ _)⟩
theorem wid_of {x : Nat} (hx : x < 4294967296) : ∃ nf st, Wid x nf st := by
  by_cases h : Fin32 x
  · refine ⟨_, _, wid_num (wide_bits h) ?_⟩
    by_cases hz : FloatKind.f64.format.order (wide x) 0 = some .eq
    · have hr := zero_of_wide h hz
      unfold rungOf at hr
      rw [F32_sw] at hr
      rcases (by omega : x = 0 ∨ x = 2147483648) with rfl | rfl
      · have e : wide 0 = 0 := by decide +kernel
        rw [e]; exact ⟨fun w => sameFloat_zero w⟩
      · have e : wide 2147483648 = 9223372036854775808 := by decide +kernel
        rw [e]; exact sameF_neg
    · exact ⟨fun w => sameFloat_other _ (wide_same h) hz w⟩
  · by_cases hi : rungOf F32 x = F32.infRung
    · unfold rungOf at hi
      rw [F32_sw, F32_inf] at hi
      rcases (by omega : x = 2139095040 ∨ x = 4286578688) with rfl | rfl
      · exact ⟨_, _, wid_num (y := 9218868437227405312) (by kernel_rfl) ⟨fun w => sameFloat_other _ (by kernel_rfl) (by decide +kernel) w⟩⟩
      · exact ⟨_, _, wid_num (y := 18442240474082181120) (by kernel_rfl) ⟨fun w => sameFloat_other _ (by kernel_rfl) (by decide +kernel) w⟩⟩
    · exact ⟨_, _, wid_nan (by unfold Fin32 at h; omega)⟩

structure EqColM (c : Lit) : Prop where
  call : ∀ w : World, Calls Try.prog 47 #[.agg #[.float .f32 c.r, .float .f32 c.g, .float .f32 c.b], .agg #[.float .f32 c.r, .float .f32 c.g, .float .f32 c.b]] w fun e w' => e = .returned (.bool true) ∧ Below w.heap.size w w'
set_option maxHeartbeats 8000000 in
theorem eqColM {c : Lit} (hr : c.r < 4294967296) (hg : c.g < 4294967296) (hb : c.b < 4294967296) : EqColM c := ⟨fun w => by
  obtain ⟨n0, s0, W0⟩ := wid_of hr
  obtain ⟨n1, s1, W1⟩ := wid_of hg
  obtain ⟨n2, s2, W2⟩ := wid_of hb
  obtain ⟨r, g, b⟩ := c
  simp only [] at W0 W1 W2 hr hg hb ⊢
  have q0 := W0.run
  have q1 := W1.run
  have q2 := W2.run
  clear hr hg hb
  cases s0 <;> cases s1 <;> cases s2
  all_goals
    simp only [if_true, Bool.false_eq_true, if_false] at q0 q1 q2
    go_enter Try.func47, Try.ntmps47
    go_wp2_with (first | (simp only [q0]) | (simp only [q1]) | (simp only [q2]) | (go_at_call 46; (first | (with_reducible refine ((W0.same _ _).call _).mono ?_) | (with_reducible refine ((W1.same _ _).call _).mono ?_) | (with_reducible refine ((W2.same _ _).call _).mono ?_)); rintro e w1 ⟨rfl, rfl⟩))
    all_goals (go_ret; exact ⟨rfl, by (repeat' (first | (with_reducible exact Below.refl _ _) | (with_reducible assumption) | (with_reducible refine Below.alloc ?_ ?_ _) | (with_reducible refine Below.drew ?_) | (with_reducible refine Below.setCell ?_ ?_ _) | (with_reducible refine Below.trans ?_ (Below.mono (by assumption) ?_)) | (with_reducible exact Nat.le_refl _) | omega | (simp only [World.size_alloc, World.size_setCell, World.size_drew]; omega) | (simp; omega) | (simp; done)))⟩)⟩
end Go.Proofs.Ytfdgijmmgllmgaa
