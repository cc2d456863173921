/-
  What a digit is worth, and the part of a step.
-/
import Derived.Test.YtljilmekmfnkbaaCfo
import Derived.Test.YtljilmekmfnkbaaCeStep
import Derived.Test.YtljilmekmfnkbaaCeOf
import Derived.Lib.Bytealg
namespace Go.Proofs.Ytljilmekmfnkbaa
open Go.ChangeShapes Go.WideShapes Go.ChangeAt Go.RowKit Go.Joins
set_option linter.unusedSimpArgs false
set_option linter.unusedVariables false
set_option maxRecDepth 100000
attribute [local go_sem] store_f
open Ieee

/-- The step that a byte stands for; -1: none. -/
def hexV (b : UInt8) : Int := Lib.indexByte [48, 49, 50, 51, 52, 53, 54, 55, 56, 57, 97, 98, 99, 100, 101, 102] b

theorem up15 {q : Nat} (h : q ≤ 15) : q = 0 ∨ q = 1 ∨ q = 2 ∨ q = 3 ∨ q = 4 ∨ q = 5 ∨ q = 6 ∨ q = 7 ∨ q = 8 ∨ q = 9 ∨ q = 10 ∨ q = 11 ∨ q = 12 ∨ q = 13 ∨ q = 14 ∨ q = 15 := by omega

theorem hexV_dg {k : Nat} (h : k ≤ 15) : hexV (dg k) = k := by
  rcases up15 h with rfl | rfl | rfl | rfl | rfl | rfl | rfl | rfl | rfl | rfl | rfl | rfl | rfl | rfl | rfl | rfl <;> decide +kernel

theorem hexV_none {b : UInt8} (h : ∀ j, j ≤ 15 → dg j ≠ b) : hexV b = -1 := by
  have q := fun j hj => beq_eq_false_iff_ne.2 (h j hj)
  have q0 : ((48 : UInt8) == b) = false := q 0 (by omega)
  have q1 : ((49 : UInt8) == b) = false := q 1 (by omega)
  have q2 : ((50 : UInt8) == b) = false := q 2 (by omega)
  have q3 : ((51 : UInt8) == b) = false := q 3 (by omega)
  have q4 : ((52 : UInt8) == b) = false := q 4 (by omega)
  have q5 : ((53 : UInt8) == b) = false := q 5 (by omega)
  have q6 : ((54 : UInt8) == b) = false := q 6 (by omega)
  have q7 : ((55 : UInt8) == b) = false := q 7 (by omega)
  have q8 : ((56 : UInt8) == b) = false := q 8 (by omega)
  have q9 : ((57 : UInt8) == b) = false := q 9 (by omega)
  have qa : ((97 : UInt8) == b) = false := q 10 (by omega)
  have qb : ((98 : UInt8) == b) = false := q 11 (by omega)
  have qc : ((99 : UInt8) == b) = false := q 12 (by omega)
  have qd : ((100 : UInt8) == b) = false := q 13 (by omega)
  have qe : ((101 : UInt8) == b) = false := q 14 (by omega)
  have qf : ((102 : UInt8) == b) = false := q 15 (by omega)
  unfold hexV
  simp [Lib.indexByte, q0, q1, q2, q3, q4, q5, q6, q7, q8, q9, qa, qb, qc, qd, qe, qf]

theorem hexV_cases (b : UInt8) : hexV b = -1 ∨ ∃ k, k ≤ 15 ∧ dg k = b ∧ hexV b = (k : Int) := by
  by_cases h : ∃ k, k ≤ 15 ∧ dg k = b
  · obtain ⟨k, hk, e⟩ := h
    exact Or.inr ⟨k, hk, e, e ▸ hexV_dg hk⟩
  · exact Or.inl (hexV_none fun j hj e => h ⟨j, hj, e⟩)

/-- The part of a step, as bits. -/
def partB (n : Nat) : Nat := match FloatKind.f32.format.div (floatOfInt .f32 n) 1097859072 with | some r => r | none => 0
theorem partB_div {n : Nat} (h : n ≤ 15) : FloatKind.f32.format.div (floatOfInt .f32 n) 1097859072 = some (partB n) := by
  rcases up15 h with rfl | rfl | rfl | rfl | rfl | rfl | rfl | rfl | rfl | rfl | rfl | rfl | rfl | rfl | rfl | rfl <;> decide +kernel
theorem partB_le {n : Nat} (h : n ≤ 15) : partB n ≤ 1065353216 := by
  rcases up15 h with rfl | rfl | rfl | rfl | rfl | rfl | rfl | rfl | rfl | rfl | rfl | rfl | rfl | rfl | rfl | rfl <;> decide +kernel

theorem partOfStep_i {n : Nat} (h : n ≤ 15) (w : World) :
    Calls Try.prog 68 #[.int .i64 n] w fun e w' => e = .returned (.float .f32 (partB n)) ∧ Below w.heap.size w w' := by
  have hop := fun t w => run_float_arith (P := Try.prog) w .quo t .f32 (floatOfInt .f32 n) 1097859072 _ (partB_div h)
  clear h
  generalize partB n = p at hop ⊢
  go_enter Try.func68, Try.ntmps68
  go_wp2_with (simp only [hop])
  all_goals (go_ret; exact ⟨rfl, by (repeat' (first | (with_reducible exact Below.refl _ _) | (with_reducible assumption) | (with_reducible refine Below.alloc ?_ ?_ _) | (with_reducible refine Below.drew ?_) | (with_reducible refine Below.setCell ?_ ?_ _) | (with_reducible refine Below.trans ?_ (Below.mono (by assumption) ?_)) | (with_reducible exact Nat.le_refl _) | omega | (simp only [World.size_alloc, World.size_setCell, World.size_drew]; omega) | (simp; omega) | (simp; done)))⟩)

theorem stringsliteIndexByte_any (b : UInt8) (w : World) :
    Calls Try.prog 91 #[.string ⟨#[48, 49, 50, 51, 52, 53, 54, 55, 56, 57, 97, 98, 99, 100, 101, 102]⟩, .int .u8 (b.toNat : Int)] w fun e w' => e = .returned (.int .i64 (hexV b)) ∧ w' = w := by
  have hb : ((b.toNat : Int)).toNat.toUInt8 = b := by simp
  have h := Lib.run_indexByteString (P := Try.prog) ⟨#[48, 49, 50, 51, 52, 53, 54, 55, 56, 57, 97, 98, 99, 100, 101, 102]⟩ (b.toNat : Int) w
  rw [hb] at h
  have e : Lib.indexByte (ByteArray.mk #[48, 49, 50, 51, 52, 53, 54, 55, 56, 57, 97, 98, 99, 100, 101, 102]).data.toList b = hexV b := rfl
  rw [e] at h
  clear e hb
  generalize hexV b = v at h ⊢
  go_enter Try.func91, Try.ntmps91
  go_wp2
  rw [run_callFunc_extern Try.func92 (by kernel_rfl) (by kernel_rfl) (by kernel_rfl) (e := Extern.BytealgIndexByte.indexByte) (by kernel_rfl), h]
  simp only [Result.andThen]
  rw [Oper.upon_value]
  go_wp2
  go_ret
  exact ⟨rfl, rfl⟩

theorem stringsIndexByte_any (b : UInt8) (w : World) :
    Calls Try.prog 84 #[.string ⟨#[48, 49, 50, 51, 52, 53, 54, 55, 56, 57, 97, 98, 99, 100, 101, 102]⟩, .int .u8 (b.toNat : Int)] w fun e w' => e = .returned (.int .i64 (hexV b)) ∧ w' = w := by
  go_enter Try.func84, Try.ntmps84
  go_wp2_with (go_at_call 91; refine (stringsliteIndexByte_any _ _).mono ?_; rintro e w1 ⟨rfl, rfl⟩)
  all_goals (go_ret; exact ⟨rfl, rfl⟩)

theorem stepOfDigit_i (b : UInt8) (w : World) :
    Calls Try.prog 65 #[.int .u8 (b.toNat : Int)] w fun e w' => e = .returned (.int .i64 (hexV b)) ∧ Below w.heap.size w w' := by
  go_enter Try.func65, Try.ntmps65
  go_wp2_with (go_at_call 84; refine (stringsIndexByte_any _ _).mono ?_; rintro e w1 ⟨rfl, rfl⟩)
  all_goals (go_ret; exact ⟨rfl, by (repeat' (first | (with_reducible exact Below.refl _ _) | (with_reducible assumption) | (with_reducible refine Below.alloc ?_ ?_ _) | (with_reducible refine Below.drew ?_) | (with_reducible refine Below.setCell ?_ ?_ _) | (with_reducible refine Below.trans ?_ (Below.mono (by assumption) ?_)) | (with_reducible exact Nat.le_refl _) | omega | (simp only [World.size_alloc, World.size_setCell, World.size_drew]; omega) | (simp; omega) | (simp; done)))⟩)

/-- A call of l2Digit that is known. -/
theorem l2Value_s (b : UInt8) (w : World) :
    Calls Try.prog 78 #[.int .u8 (b.toNat : Int)] w fun e w' => e = .returned (.int .i64 (hexV b)) ∧ w' = w := by
  go_enter Try.func78, Try.ntmps78
  go_wp2
  go_loopw [3] (fun i wr => ∃ k : Nat, k ≤ 16 ∧ i = .int .i64 k ∧ (∀ j, j < k → dg j ≠ b) ∧ wr = w) (fun i _ => 16 - (intOf i).toNat)
  case atStart => exact ⟨0, by omega, rfl, fun j hj => by omega, rfl⟩
  case round =>
    obtain ⟨k, hk, rfl, hno, rfl⟩ := hrel
    have HNO : Hid (∀ j, j < k → dg j ≠ b) := hno
    clear hno
    by_cases hlt : k < 16
    · have KD : DigC k := ⟨fun w => l2Digit_s k (by omega) w⟩
      have hix : ∀ w : World, (Instr.index 9 (.string (digS k)) (.int .i64 0)).run Try.prog w = .ok (.int .u8 ((dg k).toNat : Int)) w := fun _ => by kernel_rfl
      by_cases he : dg k = b
      · have hv : Hid (hexV b = (k : Int)) := he ▸ hexV_dg (by omega)
        have hbb : ((dg k).toNat : Int) = (b.toNat : Int) := by rw [he]
        rw [hbb] at hix
        clear hbb he
        go_wp2_with (first | simp only [hix] | (go_at_call 62; refine (KD.call _).mono ?_; rintro e w1 ⟨rfl, rfl⟩))
        all_goals (go_ret; exact ⟨by rw [hv.out]; rfl, rfl⟩)
      · have hne : ¬ ((dg k).toNat : Int) = (b.toNat : Int) := by
          intro h
          exact he (UInt8.toNat_inj.1 (by omega))
        have HNE : Hid (dg k ≠ b) := he
        clear he
        go_wp2_with (first | simp only [hix] | (go_at_call 62; refine (KD.call _).mono ?_; rintro e w1 ⟨rfl, rfl⟩))
        go_roundw
        case rel =>
          refine ⟨k + 1, by omega, by go_num, ?_, by first | rfl | trivial⟩
          intro j hj
          rcases Nat.lt_or_ge j k with h1 | h1
          · exact HNO.out j h1
          · have : j = k := by omega
            rw [this]; exact HNE.out
        case measure => simp [intOf]; omega
    · have hk16 : k = 16 := by omega
      subst hk16
      have hv : Hid (hexV b = -1) := hexV_none fun j hj => HNO.out j (by omega)
      go_wp2
      all_goals (go_ret; exact ⟨by rw [hv.out]; rfl, rfl⟩)
end Go.Proofs.Ytljilmekmfnkbaa
