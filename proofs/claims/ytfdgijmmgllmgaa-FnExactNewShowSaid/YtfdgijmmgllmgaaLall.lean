/-
  The eight symmetries in order, as the model lists them.
-/
import Derived.Test.YtfdgijmmgllmgaaBone
import Derived.Maps.AppendAt
namespace Go.Proofs.Ytfdgijmmgllmgaa
open Go.ChangeShapes Go.WideShapes Go.ChangeAt Go.RowKit Go.Joins 
set_option linter.unusedSimpArgs false
set_option linter.unusedVariables false
/-- The k-th of the eight symmetries in order. -/
def symK (k : Nat) : Int × Bool := ((k : Int) % 4, decide (4 ≤ (k : Int)))
/-- Symmetries as cells. -/
def symCells (l : List (Int × Bool)) : List Value := l.flatMap fun p => [.int .i64 p.1, .bool p.2]
theorem symCells_len (l : List (Int × Bool)) : (symCells l).length = l.length * 2 := by
  induction l with
  | nil => rfl
  | cons p l ih => simp [symCells] at ih ⊢; omega
theorem symCells_snoc (l : List (Int × Bool)) (p : Int × Bool) : symCells (l ++ [p]) = symCells l ++ [.int .i64 p.1, .bool p.2] := by simp [symCells]
theorem infoSym : (Try.prog.info? 101).map (fun i => (i.zero, i.size, i.bytes)) = some (some (.agg #[.int .i64 0, .bool false]), 2, 16) := by kernel_rfl
/-- The first k of the eight symmetries. -/
def allTo (k : Nat) : List (Int × Bool) := (List.range k).map symK
theorem allTo_succ (k : Nat) : allTo (k + 1) = allTo k ++ [symK k] := by simp [allTo, List.range_succ]
theorem allTo_len (k : Nat) : (allTo k).length = k := by simp [allTo]
theorem symCells_at (k : Nat) (hk : k < 8) : (symCells (allTo 8))[k * 2]? = some (.int .i64 (symK k).1) ∧ (symCells (allTo 8))[k * 2 + 1]? = some (.bool (symK k).2) := by
  rcases (by omega : k = 0 ∨ k = 1 ∨ k = 2 ∨ k = 3 ∨ k = 4 ∨ k = 5 ∨ k = 6 ∨ k = 7) with rfl | rfl | rfl | rfl | rfl | rfl | rfl | rfl <;> exact ⟨rfl, rfl⟩

set_option maxHeartbeats 1600000 in
set_option maxRecDepth 1000000 in
theorem l1All_s (w : World) :
    Calls Try.prog 139 #[] w fun e w' => ∃ g cap, e = .returned (.slice (some ⟨g, 0, Option.none⟩) 8 cap) ∧ w'.ownsRow w.heap.size 101 2 (.slice (some ⟨g, 0, Option.none⟩) 8 cap) 8 (symCells (allTo 8)) ∧ Below w.heap.size w w' := by
  obtain ⟨i0, hi, hz0, hz1, hz2⟩ := info_parts infoSym
  go_enter Try.func139, Try.ntmps139
  go_wp2
  go_loopw [1, 2] (fun v i wr => ∃ k : Nat, k ≤ 8 ∧ i = .int .i64 k ∧ wr.ownsRow w.heap.size 101 2 v k (symCells (allTo k)) ∧ Below w.heap.size w wr)
    (fun _ i _ => 8 - (intOf i).toNat)
  case atStart => exact ⟨0, by omega, rfl, World.ownsRow_lit _ #[] 0 (by simp) (by unfold maxLen; omega) rfl, by (repeat' (first | (with_reducible exact Below.refl _ _) | (with_reducible assumption) | (with_reducible refine Below.alloc ?_ ?_ _) | (with_reducible refine Below.drew ?_) | (with_reducible refine Below.setCell ?_ ?_ _) | (with_reducible refine Below.trans ?_ (Below.mono (by assumption) ?_)) | (with_reducible exact Nat.le_refl _) | omega | (simp only [World.size_alloc, World.size_setCell, World.size_drew]; omega) | (simp; omega) | (simp; done)))⟩
  case round =>
    obtain ⟨k, hk, rfl, hown, hbel⟩ := hrel
    have hbase := hbel.size
    by_cases hlt : k < 8
    · have HY : Hid (allTo (k + 1) = allTo k ++ [symK k]) := allTo_succ k
      go_wp2_with (at_builtin; go_loud (refine wpList_append_own _ rfl _ _ 98 rfl w.heap.size 101 i0 (.agg #[.int .i64 0, .bool false]) 2 16 Try.underlying98 hi hz0 hz1 hz2 rfl (by decide) _ k (symCells (allTo k)) rfl ?hown ⟨wr.heap.size, 0, Option.none⟩ 1 1 [.int .i64 (symK k).1, .bool (symK k).2] rfl rfl ?c1 ?c2 ?c3 ?c4 ?c5 ?_))
      case hown => (change World.ownsRow _ _ _ _ u1 _ _; (repeat (first | (with_reducible assumption) | (with_reducible refine World.ownsRow.alloc ?_ _) | (with_reducible refine World.ownsRow.drew ?_) | (with_reducible refine ownsBelow (by assumption) ?_))))
      case c1 =>
        intro j u hj
        rcases j with _ | _ | j <;> simp [symK] at hj <;> subst hj <;> simp [Addr.add]
      case c2 =>
        intro u hu
        simp at hu
        rcases hu with rfl | rfl <;> rfl
      case c3 => (unfold maxLen; omega)
      case c4 => omega
      case c5 => first | omega | (simp only [World.size_alloc, World.size_setCell, World.size_drew]; omega)
      intro v' w2 hown' hgrow _
      have hb2 : Below w.heap.size w w2 := Below.grown (by (repeat' (first | (with_reducible exact Below.refl _ _) | (with_reducible assumption) | (with_reducible refine Below.alloc ?_ ?_ _) | (with_reducible refine Below.drew ?_) | (with_reducible refine Below.setCell ?_ ?_ _) | (with_reducible refine Below.trans ?_ (Below.mono (by assumption) ?_)) | (with_reducible exact Nat.le_refl _) | omega | (simp only [World.size_alloc, World.size_setCell, World.size_drew]; omega) | (simp; omega) | (simp; done)))) hgrow (by first | omega | (simp only [World.size_alloc, World.size_setCell, World.size_drew]; omega)) (fun q hq => (hown.lt q hq).1)
      clear hgrow
      go_wp2
      go_roundw
      case rel => exact ⟨k + 1, by omega, by go_num, by rw [HY.out, symCells_snoc]; simpa using hown', hb2⟩
      case measure => simp [intOf]; omega
    · have hk8 : k = 8 := by omega
      subst hk8
      obtain ⟨g, cap, rfl⟩ := ownsRow_form hown (by omega)
      go_wp2
      go_ret
      exact ⟨_, _, rfl, hown, hbel⟩
end Go.Proofs.Ytfdgijmmgllmgaa
