/-
  leastCell of the program.
-/
import Derived.Test.YtlnikapkheldeaaHb
import Derived.Test.YtlnikapkheldeaaSro
import Derived.WalkLawsBesides
namespace Go.Proofs.Ytlnikapkheldeaa
open Go.ChangeShapes Go.WideShapes Go.ChangeAt Go.RowKit Go.Joins
set_option linter.unusedSimpArgs false
set_option linter.unusedVariables false
set_option maxRecDepth 100000
attribute [local go_sem] store_f
open Ieee

/-- The least of a number and of what symmetries make of a cell. -/
def leastL (n k : Nat) (l : List (Int × Bool)) : Nat := l.foldl (fun m p => min m (cellN n p.1.toNat p.2 k)) k
theorem leastL_snoc (n k : Nat) {l : List (Int × Bool)} {j : Nat} (h : j < l.length) : leastL n k (l.take (j + 1)) = min (leastL n k (l.take j)) (cellN n (l.getD j (0, false)).1.toNat (l.getD j (0, false)).2 k) := by
  have e : l.getD j (0, false) = l[j] := by simp [List.getD, h]
  unfold leastL
  rw [List.take_succ_eq_append_getElem h, List.foldl_append, e]; rfl
theorem leastL_le (n k : Nat) (l : List (Int × Bool)) : leastL n k l ≤ k := by
  unfold leastL
  have key : ∀ (l : List (Int × Bool)) (m : Nat), l.foldl (fun m p => min m (cellN n p.1.toNat p.2 k)) m ≤ m := by
    intro l
    induction l with
    | nil => intro m; exact Nat.le_refl _
    | cons p l ih => intro m; exact Nat.le_trans (ih _) (Nat.min_le_left _ _)
  exact key l k
/-- The least cell to which symmetries of mirrors lead. -/
def leastN (kind : Int) (n k : Nat) : Nat := leastL n k (symsTo kind 8)
theorem symsTo_in (kind : Int) : ∀ p ∈ symsTo kind 8, ∃ t : Nat, p.1 = t ∧ t < 4 := by
  intro p hp
  unfold symsTo at hp
  obtain ⟨h1, _⟩ := List.mem_filter.1 hp
  obtain ⟨i, hi, rfl⟩ := List.mem_map.1 h1
  exact ⟨i % 4, rfl, by omega⟩

structure LeastM (kind n k : Int) (c : Nat) : Prop where
  call : ∀ w : World, Calls Try.prog 100 #[.int .i64 kind, .int .i64 n, .int .i64 k] w fun e w' => e = .returned (.int .i64 c) ∧ Below w.heap.size w w'
set_option maxHeartbeats 4000000 in
theorem leastM {n k : Nat} (kind : Int) (h1 : 1 ≤ n) (h8 : n ≤ 8) (hk : k < n * n) : LeastM kind n k (leastN kind n k) := ⟨fun w => by
  have hk64 : k < 64 := Nat.lt_of_lt_of_le hk (Nat.mul_le_mul h8 h8)
  have hl8 := symsTo_le kind 8
  have HM : Hid (∀ j, j < (symsTo kind 8).length → CellM n k ((symsTo kind 8).getD j (0, false)).1 ((symsTo kind 8).getD j (0, false)).2 (cellN n ((symsTo kind 8).getD j (0, false)).1.toNat ((symsTo kind 8).getD j (0, false)).2 k : Nat)) := fun j hj => by
    obtain ⟨t, ht, h4⟩ := symsTo_in kind ((symsTo kind 8).getD j (0, false)) (by simp [List.getD, hj])
    rw [ht]
    exact cellM_yes _ h1 h8 hk h4
  have HS : Hid (∀ j, j < (symsTo kind 8).length → leastL n k ((symsTo kind 8).take (j + 1)) = min (leastL n k ((symsTo kind 8).take j)) (cellN n ((symsTo kind 8).getD j (0, false)).1.toNat ((symsTo kind 8).getD j (0, false)).2 k)) := fun j hj => leastL_snoc n k hj
  have HE : Hid (leastL n k ((symsTo kind 8).take (symsTo kind 8).length) = leastN kind n k) := by rw [List.take_length]; rfl
  have H0 : Hid (leastL n k ((symsTo kind 8).take 0) = k) := rfl
  have SY := fun w => symsOf_i kind w
  generalize leastN kind n k = z at HE ⊢
  generalize symsTo kind 8 = l at *
  generalize hL : (fun j : Nat => leastL n k (l.take j)) = L
  have HS' : Hid (∀ j, j < l.length → L (j + 1) = min (L j) (cellN n (l.getD j (0, false)).1.toNat (l.getD j (0, false)).2 k)) := by rw [← hL]; exact HS.out
  have HE' : L l.length = z := by rw [← hL]; exact HE.out
  have H0' : L 0 = k := by rw [← hL]; exact H0.out
  clear HS HE H0 hL hk
  subst HE'
  go_enter Try.func100, Try.ntmps100
  go_wp2_with fail
  have HL0 : Hid (L 0 = k) := H0'
  clear H0'
  refine (SY _).mono ?_
  rintro e w1 ⟨gs, cs, rfl, own, hb1⟩
  have HR : Hid (SymRow w1 gs l) := symRow_of own rfl
  have HB : Hid (Below w.heap.size w w1) := hb1
  clear own hb1 SY
  go_wp2_with fail
  go_loopw [7, 14] (fun v i wr => ∃ j : Nat, j ≤ l.length ∧ i = .int .i64 j ∧ v = .int .i64 (L j : Nat) ∧ Below w1.heap.size w1 wr) (fun _ i _ => l.length - (intOf i).toNat)
  case atStart => exact ⟨0, by omega, rfl, by rw [HL0.out], Below.refl _ _⟩
  case round =>
    obtain ⟨j, hj, rfl, rfl, hbel⟩ := hrel
    have HBL : Hid (Below w1.heap.size w1 wr) := hbel
    have hbs := hbel.size
    by_cases hlt : j < l.length
    · have K := HM.out j hlt
      have HY0 : Hid (L (j + 1) = min (L j) (cellN n (l.getD j (0, false)).1.toNat (l.getD j (0, false)).2 k)) := HS'.out j hlt
      obtain ⟨c0, c1⟩ := HR.out.below hbel j hlt
      generalize cellN n (l.getD j (0, false)).1.toNat (l.getD j (0, false)).2 k = c at K HY0
      have HY : Hid (L (j + 1) = min (L j) c) := HY0
      clear HY0
      generalize l.getD j (0, false) = s at K c0 c1
      obtain ⟨t, f⟩ := s
      simp only [] at c0 c1 K
      clear hbel
      go_wp2_with fail
      refine (K.call _).mono ?_
      rintro e w2 ⟨rfl, hb⟩
      have HB2 : Hid (Below w1.heap.size w1 w2) := (HBL.out.alloc (by omega) _).trans (hb.mono (by simp; omega))
      clear hb c0 c1
      go_wp2
      go_roundw
      case rel => exact ⟨j + 1, by omega, by go_num, by (rw [HY.out]; congr 1; split <;> omega), HB2.out⟩
      case measure => simp [intOf]; omega
    · have hjm : j = l.length := by omega
      subst hjm
      have HZ : Hid (Below w.heap.size w wr) := HB.out.trans (hbel.mono HB.out.size)
      clear hbel
      go_wp2
      go_ret
      exact ⟨rfl, HZ.out⟩⟩
end Go.Proofs.Ytlnikapkheldeaa
