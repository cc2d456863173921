/-
  Texts Stwo Sro Hd Sone Sthree Sfour Mb, joined.
-/
import Derived.Test.YtfdgijmmgllmgaaW05
import Derived.WalkLawsBesides
import Derived.Test.YtfdgijmmgllmgaaW01
import Derived.Maps.AppendAt
import Derived.Deep.RegionHeld3
namespace Go.Proofs.Ytfdgijmmgllmgaa
open Go.ChangeShapes Go.WideShapes Go.ChangeAt Go.RowKit Go.Joins 
set_option linter.unusedSimpArgs false
set_option linter.unusedVariables false
def symsTo (kind : Int) (k : Nat) : List (Int × Bool) := ((List.range k).map symK).filter fun p => ofB kind p.1 p.2
theorem symsTo_yes {kind : Int} {k : Nat} (h : ofB kind (symK k).1 (symK k).2 = true) : symsTo kind (k + 1) = symsTo kind k ++ [symK k] := by
  simp [symsTo, List.range_succ, h]
theorem symsTo_no {kind : Int} {k : Nat} (h : ofB kind (symK k).1 (symK k).2 = false) : symsTo kind (k + 1) = symsTo kind k := by
  simp [symsTo, List.range_succ, h]
theorem symsTo_le (kind : Int) (k : Nat) : (symsTo kind k).length ≤ k := by
  have := List.length_filter_le (fun p => ofB kind p.1 p.2) ((List.range k).map symK)
  simpa [symsTo] using this
set_option maxHeartbeats 1600000 in
set_option maxRecDepth 1000000 in
theorem symsOf_i (kind : Int) (w : World) :
    Calls Try.prog 64 #[.int .i64 kind] w fun e w' => ∃ g cap, e = .returned (.slice (some ⟨g, 0, Option.none⟩) (symsTo kind 8).length cap) ∧ w'.ownsRow w.heap.size 101 2 (.slice (some ⟨g, 0, Option.none⟩) (symsTo kind 8).length cap) (symsTo kind 8).length (symCells (symsTo kind 8)) ∧ Below w.heap.size w w' := by
  obtain ⟨i0, hi, hz0, hz1, hz2⟩ := info_parts infoSym
  go_enter Try.func64, Try.ntmps64
  go_wp2
  go_loopw [3, 7] (fun v i wr => ∃ k : Nat, k ≤ 8 ∧ i = .int .i64 k ∧ wr.ownsRow w.heap.size 101 2 v (symsTo kind k).length (symCells (symsTo kind k)) ∧ v ≠ .slice Option.none 0 0 ∧ Below w.heap.size w wr)
    (fun _ i _ => 8 - (intOf i).toNat)
  case atStart => exact ⟨0, by omega, rfl, World.ownsRow_lit _ #[] 0 (by simp) (by unfold maxLen; omega) rfl, by simp, by (repeat' (first | (with_reducible exact Below.refl _ _) | (with_reducible assumption) | (with_reducible refine Below.alloc ?_ ?_ _) | (with_reducible refine Below.drew ?_) | (with_reducible refine Below.setCell ?_ ?_ _) | (with_reducible refine Below.trans ?_ (Below.mono (by assumption) ?_)) | (with_reducible exact Nat.le_refl _) | omega | (simp only [World.size_alloc, World.size_setCell, World.size_drew]; omega) | (simp; omega) | (simp; done)))⟩
  case round =>
    obtain ⟨k, hk, rfl, hown, hnn, hbel⟩ := hrel
    have HNN : Hid (u3 ≠ .slice Option.none 0 0) := hnn
    clear hnn
    have hbase := hbel.size
    by_cases hlt : k < 8
    · have hle := symsTo_le kind k
      cases hB : ofB kind ((k : Int) % 4) (decide (4 ≤ (k : Int))) with
      | true =>
        have hy := symsTo_yes (kind := kind) (k := k) hB
        have HY : Hid (symsTo kind (k + 1) = symsTo kind k ++ [symK k]) := hy
        clear hy
        go_wp2_with (first | (go_at_call 99; refine (symAt_i _ _ hlt).mono ?_; rintro e w1 ⟨rfl, hb⟩; obtain ⟨hc, hf⟩ := bcell hb; have HL := keepL (by (repeat (first | (with_reducible assumption) | (with_reducible apply AllLt.alloc) | (with_reducible apply AllLt.setCell) | (with_reducible apply AllLt.drew) | (with_reducible exact AllLt.nil _)))) hb; have hq := HL; simp only [AllLt, and_true, World.size_alloc, World.size_setCell, World.size_drew] at hq; have hbs := hb.size; try simp only [World.size_alloc, World.size_setCell, World.size_drew] at hbs) | (go_at_call 100; refine (isSymOf_i _ _ _ _).mono ?_; rintro e w1 ⟨rfl, hb⟩; obtain ⟨hc, hf⟩ := bcell hb; have HL := keepL (by (repeat (first | (with_reducible assumption) | (with_reducible apply AllLt.alloc) | (with_reducible apply AllLt.setCell) | (with_reducible apply AllLt.drew) | (with_reducible exact AllLt.nil _)))) hb; have hq := HL; simp only [AllLt, and_true, World.size_alloc, World.size_setCell, World.size_drew] at hq; have hbs := hb.size; try simp only [World.size_alloc, World.size_setCell, World.size_drew] at hbs) | (at_builtin; go_loud (refine wpList_append_own _ rfl _ _ 98 rfl w.heap.size 101 i0 (.agg #[.int .i64 0, .bool false]) 2 16 Try.underlying98 hi hz0 hz1 hz2 rfl (by decide) _ (symsTo kind k).length (symCells (symsTo kind k)) rfl ?hown ⟨w1.heap.size, 0, Option.none⟩ 1 1 [.int .i64 (symK k).1, .bool (symK k).2] rfl rfl ?c1 ?c2 ?c3 ?c4 ?c5 ?_)))
        case hown => (change World.ownsRow _ _ _ _ u3 _ _; (repeat (first | (with_reducible assumption) | (with_reducible refine World.ownsRow.alloc ?_ _) | (with_reducible refine World.ownsRow.drew ?_) | (with_reducible refine ownsBelow (by assumption) ?_))))
        case c1 =>
          intro j u hj
          rcases j with _ | _ | j <;> simp [symK] at hj <;> subst hj <;> simp [Addr.add]
        case c2 =>
          intro u hu
          simp at hu
          rcases hu with rfl | rfl <;> rfl
        case c3 => (unfold maxLen; omega)
        case c4 => omega
        case c5 => first | omega | (simp only [World.size_alloc, World.size_setCell, World.size_drew]; omega)
        intro v' w2 hown' hgrow hvn
        have HVN : Hid (v' ≠ .slice Option.none 0 0) := hvn
        clear hvn
        have hb2 : Below w.heap.size w w2 := Below.grown (by (repeat' (first | (with_reducible exact Below.refl _ _) | (with_reducible assumption) | (with_reducible refine Below.alloc ?_ ?_ _) | (with_reducible refine Below.drew ?_) | (with_reducible refine Below.setCell ?_ ?_ _) | (with_reducible refine Below.trans ?_ (Below.mono (by assumption) ?_)) | (with_reducible exact Nat.le_refl _) | omega | (simp only [World.size_alloc, World.size_setCell, World.size_drew]; omega) | (simp; omega) | (simp; done)))) hgrow (by first | omega | (simp only [World.size_alloc, World.size_setCell, World.size_drew]; omega)) (fun q hq => (hown.lt q hq).1)
        clear hgrow
        go_wp2
        go_roundw
        case rel => exact ⟨k + 1, by omega, by go_num, by rw [HY.out, symCells_snoc]; simpa using hown', HVN.out, hb2⟩
        case measure => simp [intOf]; omega
      | false =>
        have hn := symsTo_no (kind := kind) (k := k) hB
        have HN : Hid (symsTo kind (k + 1) = symsTo kind k) := hn
        clear hn
        go_wp2_with (first | (go_at_call 99; refine (symAt_i _ _ hlt).mono ?_; rintro e w1 ⟨rfl, hb⟩; obtain ⟨hc, hf⟩ := bcell hb; have HL := keepL (by (repeat (first | (with_reducible assumption) | (with_reducible apply AllLt.alloc) | (with_reducible apply AllLt.setCell) | (with_reducible apply AllLt.drew) | (with_reducible exact AllLt.nil _)))) hb; have hq := HL; simp only [AllLt, and_true, World.size_alloc, World.size_setCell, World.size_drew] at hq; have hbs := hb.size; try simp only [World.size_alloc, World.size_setCell, World.size_drew] at hbs) | (go_at_call 100; refine (isSymOf_i _ _ _ _).mono ?_; rintro e w1 ⟨rfl, hb⟩; obtain ⟨hc, hf⟩ := bcell hb; have HL := keepL (by (repeat (first | (with_reducible assumption) | (with_reducible apply AllLt.alloc) | (with_reducible apply AllLt.setCell) | (with_reducible apply AllLt.drew) | (with_reducible exact AllLt.nil _)))) hb; have hq := HL; simp only [AllLt, and_true, World.size_alloc, World.size_setCell, World.size_drew] at hq; have hbs := hb.size; try simp only [World.size_alloc, World.size_setCell, World.size_drew] at hbs))
        go_roundw
        case rel => exact ⟨k + 1, by omega, by go_num, by rw [HN.out]; (repeat (first | (with_reducible assumption) | (with_reducible refine World.ownsRow.alloc ?_ _) | (with_reducible refine World.ownsRow.drew ?_) | (with_reducible refine ownsBelow (by assumption) ?_))), HNN.out, by (repeat' (first | (with_reducible exact Below.refl _ _) | (with_reducible assumption) | (with_reducible refine Below.alloc ?_ ?_ _) | (with_reducible refine Below.drew ?_) | (with_reducible refine Below.setCell ?_ ?_ _) | (with_reducible refine Below.trans ?_ (Below.mono (by assumption) ?_)) | (with_reducible exact Nat.le_refl _) | omega | (simp only [World.size_alloc, World.size_setCell, World.size_drew]; omega) | (simp; omega) | (simp; done)))⟩
        case measure => simp [intOf]; omega
    · have hk8 : k = 8 := by omega
      subst hk8
      rcases ownsRow_forms hown with ⟨e, _⟩ | ⟨g, cap, rfl⟩
      · exact absurd e HNN.out
      go_wp2
      go_ret
      exact ⟨_, _, rfl, hown, hbel⟩
end Go.Proofs.Ytfdgijmmgllmgaa
namespace Go.Proofs.Ytfdgijmmgllmgaa
open Go.ChangeShapes Go.WideShapes Go.ChangeAt Go.RowKit Go.Joins 
set_option linter.unusedSimpArgs false
set_option linter.unusedVariables false
def SymRow (W : World) (g : Nat) (l : List (Int × Bool)) : Prop :=
  ∀ k, k < l.length → W.cell? ⟨g, k * 2, Option.none⟩ = some (.int .i64 (l.getD k (0, false)).1) ∧ W.cell? ⟨g, k * 2 + 1, Option.none⟩ = some (.bool (l.getD k (0, false)).2)
theorem symCells_get : ∀ (l : List (Int × Bool)) (k : Nat), k < l.length → (symCells l)[k * 2]? = some (.int .i64 (l.getD k (0, false)).1) ∧ (symCells l)[k * 2 + 1]? = some (.bool (l.getD k (0, false)).2)
  | p :: l, 0, _ => ⟨rfl, rfl⟩
  | p :: l, k + 1, h => by
    have ih := symCells_get l k (by simpa using h)
    have e : symCells (p :: l) = .int .i64 p.1 :: .bool p.2 :: symCells l := rfl
    rw [e, show (k + 1) * 2 = k * 2 + 1 + 1 by omega]
    simpa using ih
theorem symRow_of {W : World} {base g n cap : Nat} {l : List (Int × Bool)} (h : W.ownsRow base 101 2 (.slice (some ⟨g, 0, Option.none⟩) n cap) n (symCells l)) (hn : l.length = n) : SymRow W g l := fun k hk => by
  have hg := symCells_get l k hk
  rw [h.cellAt _ (by omega), h.cellAt _ (by omega)]
  exact hg
theorem SymRow.below {W w1 : World} {g : Nat} {l : List (Int × Bool)} (h : SymRow W g l) (hb : Below W.heap.size W w1) : SymRow w1 g l :=
  fun k hk => ⟨cBelow hb (h k hk).1, cBelow hb (h k hk).2⟩
theorem SymRow.set {W : World} {g : Nat} {a : Addr} {v : Value} {l : List (Int × Bool)} (h : SymRow W g l) (hne : g ≠ a.block) : SymRow (W.setCell a v) g l :=
  fun k hk => ⟨cSet hne (h k hk).1, cSet hne (h k hk).2⟩
theorem SymRow.alloc {W : World} {g : Nat} {o : Obj} {l : List (Int × Bool)} (h : SymRow W g l) : SymRow (W.alloc o) g l :=
  fun k hk => ⟨cAlloc (h k hk).1, cAlloc (h k hk).2⟩
end Go.Proofs.Ytfdgijmmgllmgaa
namespace Go.Proofs.Ytfdgijmmgllmgaa
open Go.ChangeShapes Go.WideShapes Go.ChangeAt Go.RowKit Go.Joins
set_option linter.unusedSimpArgs false
set_option linter.unusedVariables false
set_option maxRecDepth 100000
attribute [local go_sem] store_f
open Ieee
def leastL (n k : Nat) (l : List (Int × Bool)) : Nat := l.foldl (fun m p => min m (cellN n p.1.toNat p.2 k)) k
theorem leastL_snoc (n k : Nat) {l : List (Int × Bool)} {j : Nat} (h : j < l.length) : leastL n k (l.take (j + 1)) = min (leastL n k (l.take j)) (cellN n (l.getD j (0, false)).1.toNat (l.getD j (0, false)).2 k) := by
  have e : l.getD j (0, false) = l[j] := by simp [List.getD, h]
  unfold leastL
  rw [List.take_succ_eq_append_getElem h, List.foldl_append, e]; rfl
theorem leastL_le (n k : Nat) (l : List (Int × Bool)) : leastL n k l ≤ k := by
  unfold leastL
  have key : ∀ (l : List (Int × Bool)) (m : Nat), l.foldl (fun m p => min m (cellN n p.1.toNat p.2 k)) m ≤ m := by
    intro l
    induction l with
    | nil => intro m; exact Nat.le_refl _
    | cons p l ih => intro m; exact Nat.le_trans (ih _) (Nat.min_le_left _ _)
  exact key l k
def leastN (kind : Int) (n k : Nat) : Nat := leastL n k (symsTo kind 8)
theorem symsTo_in (kind : Int) : ∀ p ∈ symsTo kind 8, ∃ t : Nat, p.1 = t ∧ t < 4 := by
  intro p hp
  unfold symsTo at hp
  obtain ⟨h1, _⟩ := List.mem_filter.1 hp
  obtain ⟨i, hi, rfl⟩ := List.mem_map.1 h1
  exact ⟨i % 4, rfl, by omega⟩
structure LeastM (kind n k : Int) (c : Nat) : Prop where
  call : ∀ w : World, Calls Try.prog 32 #[.int .i64 kind, .int .i64 n, .int .i64 k] w fun e w' => e = .returned (.int .i64 c) ∧ Below w.heap.size w w'
set_option maxHeartbeats 4000000 in
theorem leastM {n k : Nat} (kind : Int) (h1 : 1 ≤ n) (h8 : n ≤ 8) (hk : k < n * n) : LeastM kind n k (leastN kind n k) := ⟨fun w => by
  have hk64 : k < 64 := Nat.lt_of_lt_of_le hk (Nat.mul_le_mul h8 h8)
  have hl8 := symsTo_le kind 8
  have HM : Hid (∀ j, j < (symsTo kind 8).length → CellM n k ((symsTo kind 8).getD j (0, false)).1 ((symsTo kind 8).getD j (0, false)).2 (cellN n ((symsTo kind 8).getD j (0, false)).1.toNat ((symsTo kind 8).getD j (0, false)).2 k : Nat)) := fun j hj => by
    obtain ⟨t, ht, h4⟩ := symsTo_in kind ((symsTo kind 8).getD j (0, false)) (by simp [List.getD, hj])
    rw [ht]
    exact cellM_yes _ h1 h8 hk h4
  have HS : Hid (∀ j, j < (symsTo kind 8).length → leastL n k ((symsTo kind 8).take (j + 1)) = min (leastL n k ((symsTo kind 8).take j)) (cellN n ((symsTo kind 8).getD j (0, false)).1.toNat ((symsTo kind 8).getD j (0, false)).2 k)) := fun j hj => leastL_snoc n k hj
  have HE : Hid (leastL n k ((symsTo kind 8).take (symsTo kind 8).length) = leastN kind n k) := by rw [List.take_length]; rfl
  have H0 : Hid (leastL n k ((symsTo kind 8).take 0) = k) := rfl
  have SY := fun w => symsOf_i kind w
  generalize leastN kind n k = z at HE ⊢
  generalize symsTo kind 8 = l at *
  generalize hL : (fun j : Nat => leastL n k (l.take j)) = L
  have HS' : Hid (∀ j, j < l.length → L (j + 1) = min (L j) (cellN n (l.getD j (0, false)).1.toNat (l.getD j (0, false)).2 k)) := by rw [← hL]; exact HS.out
  have HE' : L l.length = z := by rw [← hL]; exact HE.out
  have H0' : L 0 = k := by rw [← hL]; exact H0.out
  clear HS HE H0 hL hk
  subst HE'
  go_enter Try.func32, Try.ntmps32
  go_wp2_with fail
  have HL0 : Hid (L 0 = k) := H0'
  clear H0'
  refine (SY _).mono ?_
  rintro e w1 ⟨gs, cs, rfl, own, hb1⟩
  have HR : Hid (SymRow w1 gs l) := symRow_of own rfl
  have HB : Hid (Below w.heap.size w w1) := hb1
  clear own hb1 SY
  go_wp2_with fail
  go_loopw [7, 14] (fun v i wr => ∃ j : Nat, j ≤ l.length ∧ i = .int .i64 j ∧ v = .int .i64 (L j : Nat) ∧ Below w1.heap.size w1 wr) (fun _ i _ => l.length - (intOf i).toNat)
  case atStart => exact ⟨0, by omega, rfl, by rw [HL0.out], Below.refl _ _⟩
  case round =>
    obtain ⟨j, hj, rfl, rfl, hbel⟩ := hrel
    have HBL : Hid (Below w1.heap.size w1 wr) := hbel
    have hbs := hbel.size
    by_cases hlt : j < l.length
    · have K := HM.out j hlt
      have HY0 : Hid (L (j + 1) = min (L j) (cellN n (l.getD j (0, false)).1.toNat (l.getD j (0, false)).2 k)) := HS'.out j hlt
      obtain ⟨c0, c1⟩ := HR.out.below hbel j hlt
      generalize cellN n (l.getD j (0, false)).1.toNat (l.getD j (0, false)).2 k = c at K HY0
      have HY : Hid (L (j + 1) = min (L j) c) := HY0
      clear HY0
      generalize l.getD j (0, false) = s at K c0 c1
      obtain ⟨t, f⟩ := s
      simp only [] at c0 c1 K
      clear hbel
      go_wp2_with fail
      refine (K.call _).mono ?_
      rintro e w2 ⟨rfl, hb⟩
      have HB2 : Hid (Below w1.heap.size w1 w2) := (HBL.out.alloc (by omega) _).trans (hb.mono (by simp; omega))
      clear hb c0 c1
      go_wp2
      go_roundw
      case rel => exact ⟨j + 1, by omega, by go_num, by (rw [HY.out]; congr 1; split <;> omega), HB2.out⟩
      case measure => simp [intOf]; omega
    · have hjm : j = l.length := by omega
      subst hjm
      have HZ : Hid (Below w.heap.size w wr) := HB.out.trans (hbel.mono HB.out.size)
      clear hbel
      go_wp2
      go_ret
      exact ⟨rfl, HZ.out⟩⟩
end Go.Proofs.Ytfdgijmmgllmgaa
namespace Go.Proofs.Ytfdgijmmgllmgaa
open Go.ChangeShapes Go.WideShapes Go.ChangeAt Go.RowKit Go.Joins 
set_option linter.unusedSimpArgs false
set_option linter.unusedVariables false
theorem l1Of_s (kind t : Int) (f : Bool) (w : World) (h1 : 0 ≤ t) (h2 : t < 4) (hk : 0 ≤ kind) (hk3 : kind ≤ 3) :
    Calls Try.prog 140 #[.int .i64 kind, .agg #[.int .i64 t, .bool f]] w fun e w' => e = .returned (.bool (ofB kind t f)) ∧ Below w.heap.size w w' := by
  have ht := isSymB_yes h1 h2
  rcases (by omega : kind = 0 ∨ kind = 1 ∨ kind = 2 ∨ kind = 3) with rfl | rfl | rfl | rfl
  · by_cases t0 : t = 0
    · subst t0
      have e : ofB 0 0 f = !f := by simp [ofB, isSymB]
      rw [e]
      cases f
      all_goals
        go_enter Try.func140, Try.ntmps140
        go_wp2
        go_returns; exact ⟨rfl, by (repeat' (first | (with_reducible exact Below.refl _ _) | (with_reducible assumption) | (with_reducible refine Below.alloc ?_ ?_ _) | (with_reducible refine Below.drew ?_) | (with_reducible refine Below.setCell ?_ ?_ _) | (with_reducible refine Below.trans ?_ (Below.mono (by assumption) ?_)) | (with_reducible exact Nat.le_refl _) | omega | (simp only [World.size_alloc, World.size_setCell, World.size_drew]; omega) | (simp; omega) | (simp; done)))⟩
    · have e : ofB 0 t f = false := by simp [ofB, t0]
      rw [e]
      have t1 : (t == 0) = false := by simpa using t0
      cases f
      all_goals
        go_enter Try.func140, Try.ntmps140
        go_wp2
        go_returns; exact ⟨rfl, by (repeat' (first | (with_reducible exact Below.refl _ _) | (with_reducible assumption) | (with_reducible refine Below.alloc ?_ ?_ _) | (with_reducible refine Below.drew ?_) | (with_reducible refine Below.setCell ?_ ?_ _) | (with_reducible refine Below.trans ?_ (Below.mono (by assumption) ?_)) | (with_reducible exact Nat.le_refl _) | omega | (simp only [World.size_alloc, World.size_setCell, World.size_drew]; omega) | (simp; omega) | (simp; done)))⟩
  · have e : ofB 1 t f = (t == 0) := by simp [ofB, ht]
    rw [e]
    go_enter Try.func140, Try.ntmps140
    go_wp2
    go_returns; exact ⟨rfl, by (repeat' (first | (with_reducible exact Below.refl _ _) | (with_reducible assumption) | (with_reducible refine Below.alloc ?_ ?_ _) | (with_reducible refine Below.drew ?_) | (with_reducible refine Below.setCell ?_ ?_ _) | (with_reducible refine Below.trans ?_ (Below.mono (by assumption) ?_)) | (with_reducible exact Nat.le_refl _) | omega | (simp only [World.size_alloc, World.size_setCell, World.size_drew]; omega) | (simp; omega) | (simp; done)))⟩
  · have e : ofB 2 t f = (t % 2 == 0) := by simp [ofB, ht]
    rw [e]
    go_enter Try.func140, Try.ntmps140
    go_wp2
    go_returns; exact ⟨rfl, by (repeat' (first | (with_reducible exact Below.refl _ _) | (with_reducible assumption) | (with_reducible refine Below.alloc ?_ ?_ _) | (with_reducible refine Below.drew ?_) | (with_reducible refine Below.setCell ?_ ?_ _) | (with_reducible refine Below.trans ?_ (Below.mono (by assumption) ?_)) | (with_reducible exact Nat.le_refl _) | omega | (simp only [World.size_alloc, World.size_setCell, World.size_drew]; omega) | (simp; omega) | (simp; done)))⟩
  · have e : ofB 3 t f = true := by simp [ofB, ht]
    rw [e]
    go_enter Try.func140, Try.ntmps140
    go_wp2
    go_returns; exact ⟨rfl, by (repeat' (first | (with_reducible exact Below.refl _ _) | (with_reducible assumption) | (with_reducible refine Below.alloc ?_ ?_ _) | (with_reducible refine Below.drew ?_) | (with_reducible refine Below.setCell ?_ ?_ _) | (with_reducible refine Below.trans ?_ (Below.mono (by assumption) ?_)) | (with_reducible exact Nat.le_refl _) | omega | (simp only [World.size_alloc, World.size_setCell, World.size_drew]; omega) | (simp; omega) | (simp; done)))⟩
end Go.Proofs.Ytfdgijmmgllmgaa
namespace Go.Proofs.Ytfdgijmmgllmgaa
open Go.ChangeShapes Go.WideShapes Go.ChangeAt Go.RowKit Go.Joins 
set_option linter.unusedSimpArgs false
set_option linter.unusedVariables false
def lieB (x lo hi : Int) : Bool := decide (lo ≤ x) && decide (x ≤ hi)
theorem lieB_yes {x lo hi : Int} (h : lo ≤ x) (h' : x ≤ hi) : lieB x lo hi = true := by simp [lieB, h, h']
theorem lieB_no {x lo hi : Int} (h : ¬ (lo ≤ x ∧ x ≤ hi)) : lieB x lo hi = false := by
  simp [lieB]
  omega
theorem l1In_s (x lo hi : Int) (w : World) :
    Calls Try.prog 75 #[.int .i64 x, .int .i64 lo, .int .i64 hi] w fun e w' => e = .returned (.bool (lieB x lo hi)) ∧ Below w.heap.size w w' := by
  by_cases h : lo ≤ x
  · by_cases h' : x ≤ hi
    · rw [lieB_yes h h']
      go_enter Try.func75, Try.ntmps75
      go_wp2
      go_returns; exact ⟨rfl, by (repeat' (first | (with_reducible exact Below.refl _ _) | (with_reducible assumption) | (with_reducible refine Below.alloc ?_ ?_ _) | (with_reducible refine Below.drew ?_) | (with_reducible refine Below.setCell ?_ ?_ _) | (with_reducible refine Below.trans ?_ (Below.mono (by assumption) ?_)) | (with_reducible exact Nat.le_refl _) | omega | (simp only [World.size_alloc, World.size_setCell, World.size_drew]; omega) | (simp; omega) | (simp; done)))⟩
    · rw [lieB_no (fun q => h' q.2)]
      go_enter Try.func75, Try.ntmps75
      go_wp2
      go_returns; exact ⟨rfl, by (repeat' (first | (with_reducible exact Below.refl _ _) | (with_reducible assumption) | (with_reducible refine Below.alloc ?_ ?_ _) | (with_reducible refine Below.drew ?_) | (with_reducible refine Below.setCell ?_ ?_ _) | (with_reducible refine Below.trans ?_ (Below.mono (by assumption) ?_)) | (with_reducible exact Nat.le_refl _) | omega | (simp only [World.size_alloc, World.size_setCell, World.size_drew]; omega) | (simp; omega) | (simp; done)))⟩
  · rw [lieB_no (fun q => h q.1)]
    go_enter Try.func75, Try.ntmps75
    go_wp2
    go_returns; exact ⟨rfl, by (repeat' (first | (with_reducible exact Below.refl _ _) | (with_reducible assumption) | (with_reducible refine Below.alloc ?_ ?_ _) | (with_reducible refine Below.drew ?_) | (with_reducible refine Below.setCell ?_ ?_ _) | (with_reducible refine Below.trans ?_ (Below.mono (by assumption) ?_)) | (with_reducible exact Nat.le_refl _) | omega | (simp only [World.size_alloc, World.size_setCell, World.size_drew]; omega) | (simp; omega) | (simp; done)))⟩
end Go.Proofs.Ytfdgijmmgllmgaa
namespace Go.Proofs.Ytfdgijmmgllmgaa
open Go.ChangeShapes Go.WideShapes Go.ChangeAt Go.RowKit Go.Joins 
set_option linter.unusedSimpArgs false
set_option linter.unusedVariables false
theorem symsTo_none {kind : Int} (h : ¬ (0 ≤ kind ∧ kind ≤ 3)) (k : Nat) : symsTo kind k = [] := by
  have h0 : ∀ t f, ofB kind t f = false := by
    intro t f
    have h1 : kind ≠ 0 := by omega
    have h2 : kind ≠ 1 := by omega
    have h3 : kind ≠ 2 := by omega
    have h4 : kind ≠ 3 := by omega
    simp [ofB, h1, h2, h3, h4]
  simp [symsTo, h0]
set_option maxHeartbeats 1600000 in
set_option maxRecDepth 1000000 in
theorem symsOf_s (kind : Int) (w : World) :
    Calls Try.prog 124 #[.int .i64 kind] w fun e w' => ∃ g cap, e = .returned (.slice (some ⟨g, 0, Option.none⟩) (symsTo kind 8).length cap) ∧ w'.ownsRow w.heap.size 101 2 (.slice (some ⟨g, 0, Option.none⟩) (symsTo kind 8).length cap) (symsTo kind 8).length (symCells (symsTo kind 8)) ∧ Below w.heap.size w w' := by
  obtain ⟨i0, hi, hz0, hz1, hz2⟩ := info_parts infoSym
  go_enter Try.func124, Try.ntmps124
  go_wp2_with (go_at_call 139; refine (l1All_s _).mono ?_; rintro e w1 ⟨g, cap, rfl, hlist, hb⟩; obtain ⟨hc, hf⟩ := bcell hb; have HL := keepL (by (repeat (first | (with_reducible assumption) | (with_reducible apply AllLt.alloc) | (with_reducible apply AllLt.setCell) | (with_reducible apply AllLt.drew) | (with_reducible exact AllLt.nil _)))) hb; have hq := HL; simp only [AllLt, and_true, World.size_alloc, World.size_setCell, World.size_drew] at hq; have hbs := hb.size; try simp only [World.size_alloc, World.size_setCell, World.size_drew] at hbs)
  have hg := (hlist.lt g rfl)
  simp only [World.size_alloc] at hg
  go_loopw [3, 9] (fun v i wr => ∃ k : Nat, k ≤ 8 ∧ i = .int .i64 k ∧ wr.ownsRow w.heap.size 101 2 v (symsTo kind k).length (symCells (symsTo kind k)) ∧ wr.ownsRow w.heap.size 101 2 (.slice (some ⟨g, 0, Option.none⟩) 8 cap) 8 (symCells (allTo 8)) ∧ v.ownBlock ≠ some g ∧ g < wr.heap.size ∧ v ≠ .slice Option.none 0 0 ∧ Below w.heap.size w wr)
    (fun _ i _ => 8 - (intOf i).toNat)
  case atStart =>
    refine ⟨0, by omega, rfl, ?_, ownsRow_le hlist (by simp), ?_, hg.2, by simp, by (repeat' (first | (with_reducible exact Below.refl _ _) | (with_reducible assumption) | (with_reducible refine Below.alloc ?_ ?_ _) | (with_reducible refine Below.drew ?_) | (with_reducible refine Below.setCell ?_ ?_ _) | (with_reducible refine Below.trans ?_ (Below.mono (by assumption) ?_)) | (with_reducible exact Nat.le_refl _) | omega | (simp only [World.size_alloc, World.size_setCell, World.size_drew]; omega) | (simp; omega) | (simp; done)))⟩
    · exact ownsBelow hb (World.ownsRow_lit _ #[] 0 (by simp) (by unfold maxLen; omega) rfl)
    · simp [Value.ownBlock]
      omega
  case round =>
    obtain ⟨k, hk, rfl, hown, hli, hne, hgl, hnn, hbel⟩ := hrel
    have HNN : Hid (u3 ≠ .slice Option.none 0 0) := hnn
    clear hnn
    have hbase := hbel.size
    by_cases hlt : k < 8
    · have hle := symsTo_le kind k
      have hs := symCells_at k hlt
      have hx0 : wr.cell? ⟨g, k * 2, Option.none⟩ = some (.int .i64 ((k : Int) % 4)) := by rw [hli.cellAt _ (by omega)]; exact hs.1
      have hx1 : wr.cell? ⟨g, k * 2 + 1, Option.none⟩ = some (.bool (decide (4 ≤ (k : Int)))) := by rw [hli.cellAt _ (by omega)]; exact hs.2
      clear hs
      by_cases hin : 0 ≤ kind ∧ kind ≤ 3
      · obtain ⟨hin0, hin3⟩ := hin
        have hI := lieB_yes hin0 hin3
        cases hB : ofB kind ((k : Int) % 4) (decide (4 ≤ (k : Int))) with
        | true =>
          have HY : Hid (symsTo kind (k + 1) = symsTo kind k ++ [symK k]) := symsTo_yes (kind := kind) (k := k) hB
          go_wp2_with (first | (go_at_call 75; refine (l1In_s _ _ _ _).mono ?_; rintro e w1 ⟨rfl, hb⟩; obtain ⟨hc, hf⟩ := bcell hb; have HL := keepL (by (repeat (first | (with_reducible assumption) | (with_reducible apply AllLt.alloc) | (with_reducible apply AllLt.setCell) | (with_reducible apply AllLt.drew) | (with_reducible exact AllLt.nil _)))) hb; have hq := HL; simp only [AllLt, and_true, World.size_alloc, World.size_setCell, World.size_drew] at hq; have hbs := hb.size; try simp only [World.size_alloc, World.size_setCell, World.size_drew] at hbs) | (go_at_call 140; refine (l1Of_s _ _ _ _ (by omega) (by omega) hin0 hin3).mono ?_; rintro e w1 ⟨rfl, hb⟩; obtain ⟨hc, hf⟩ := bcell hb; have HL := keepL (by (repeat (first | (with_reducible assumption) | (with_reducible apply AllLt.alloc) | (with_reducible apply AllLt.setCell) | (with_reducible apply AllLt.drew) | (with_reducible exact AllLt.nil _)))) hb; have hq := HL; simp only [AllLt, and_true, World.size_alloc, World.size_setCell, World.size_drew] at hq; have hbs := hb.size; try simp only [World.size_alloc, World.size_setCell, World.size_drew] at hbs) | (at_builtin; refine wpList_append_own_at _ rfl _ _ 98 rfl w.heap.size 101 i0 (.agg #[.int .i64 0, .bool false]) 2 16 Try.underlying98 hi hz0 hz1 hz2 rfl (by decide) _ (symsTo kind k).length (symCells (symsTo kind k)) rfl ?hown ⟨w1.heap.size, 0, Option.none⟩ 1 1 [.int .i64 (symK k).1, .bool (symK k).2] rfl rfl ?c1 ?c2 ?c3 ?c4 ?c5 ?_))
          case hown => (change World.ownsRow _ _ _ _ u3 _ _; (repeat (first | (with_reducible assumption) | (with_reducible refine World.ownsRow.alloc ?_ _) | (with_reducible refine World.ownsRow.drew ?_) | (with_reducible refine ownsBelow (by assumption) ?_))))
          case c1 =>
            intro j u hj
            rcases j with _ | _ | j <;> simp [symK] at hj <;> subst hj <;> simp [Addr.add]
          case c2 =>
            intro u hu
            simp at hu
            rcases hu with rfl | rfl <;> rfl
          case c3 => (unfold maxLen; omega)
          case c4 => omega
          case c5 => first | omega | (simp only [World.size_alloc, World.size_setCell, World.size_drew]; omega)
          intro v' w2 hown' hgrow hvn hat
          have HVN : Hid (v' ≠ .slice Option.none 0 0) := hvn
          clear hvn
          have hb2 : Below w.heap.size w w2 := Below.grown (by (repeat' (first | (with_reducible exact Below.refl _ _) | (with_reducible assumption) | (with_reducible refine Below.alloc ?_ ?_ _) | (with_reducible refine Below.drew ?_) | (with_reducible refine Below.setCell ?_ ?_ _) | (with_reducible refine Below.trans ?_ (Below.mono (by assumption) ?_)) | (with_reducible exact Nat.le_refl _) | omega | (simp only [World.size_alloc, World.size_setCell, World.size_drew]; omega) | (simp; omega) | (simp; done)))) hgrow (by first | omega | (simp only [World.size_alloc, World.size_setCell, World.size_drew]; omega)) (fun q hq => (hown.lt q hq).1)
          have hli2 : w2.ownsRow w.heap.size 101 2 (.slice (some ⟨g, 0, Option.none⟩) 8 cap) 8 (symCells (allTo 8)) := World.ownsRow.kept (by (repeat (first | (with_reducible assumption) | (with_reducible refine World.ownsRow.alloc ?_ _) | (with_reducible refine World.ownsRow.drew ?_) | (with_reducible refine ownsBelow (by assumption) ?_)))) hgrow (.inr fun e => hne e.symm)
          have hgl2 := (hli2.lt g rfl).2
          have hne2 : v'.ownBlock ≠ some g := by
            rcases hat with e | e
            · rw [e]; exact hne
            · rw [e]
              intro e2
              have e3 := Option.some.inj e2
              try simp only [World.size_alloc] at e3
              omega
          clear hgrow hat
          go_wp2
          go_roundw
          case rel => exact ⟨k + 1, by omega, by go_num, by rw [HY.out, symCells_snoc]; simpa using hown', hli2, hne2, hgl2, HVN.out, hb2⟩
          case measure => simp [intOf]; omega
        | false =>
          have HN : Hid (symsTo kind (k + 1) = symsTo kind k) := symsTo_no (kind := kind) (k := k) hB
          go_wp2_with (first | (go_at_call 75; refine (l1In_s _ _ _ _).mono ?_; rintro e w1 ⟨rfl, hb⟩; obtain ⟨hc, hf⟩ := bcell hb; have HL := keepL (by (repeat (first | (with_reducible assumption) | (with_reducible apply AllLt.alloc) | (with_reducible apply AllLt.setCell) | (with_reducible apply AllLt.drew) | (with_reducible exact AllLt.nil _)))) hb; have hq := HL; simp only [AllLt, and_true, World.size_alloc, World.size_setCell, World.size_drew] at hq; have hbs := hb.size; try simp only [World.size_alloc, World.size_setCell, World.size_drew] at hbs) | (go_at_call 140; refine (l1Of_s _ _ _ _ (by omega) (by omega) hin0 hin3).mono ?_; rintro e w1 ⟨rfl, hb⟩; obtain ⟨hc, hf⟩ := bcell hb; have HL := keepL (by (repeat (first | (with_reducible assumption) | (with_reducible apply AllLt.alloc) | (with_reducible apply AllLt.setCell) | (with_reducible apply AllLt.drew) | (with_reducible exact AllLt.nil _)))) hb; have hq := HL; simp only [AllLt, and_true, World.size_alloc, World.size_setCell, World.size_drew] at hq; have hbs := hb.size; try simp only [World.size_alloc, World.size_setCell, World.size_drew] at hbs))
          go_roundw
          case rel => exact ⟨k + 1, by omega, by go_num, by rw [HN.out]; (repeat (first | (with_reducible assumption) | (with_reducible refine World.ownsRow.alloc ?_ _) | (with_reducible refine World.ownsRow.drew ?_) | (with_reducible refine ownsBelow (by assumption) ?_))), by (repeat (first | (with_reducible assumption) | (with_reducible refine World.ownsRow.alloc ?_ _) | (with_reducible refine World.ownsRow.drew ?_) | (with_reducible refine ownsBelow (by assumption) ?_))), hne, by first | omega | (simp only [World.size_alloc, World.size_setCell, World.size_drew]; omega), HNN.out, by (repeat' (first | (with_reducible exact Below.refl _ _) | (with_reducible assumption) | (with_reducible refine Below.alloc ?_ ?_ _) | (with_reducible refine Below.drew ?_) | (with_reducible refine Below.setCell ?_ ?_ _) | (with_reducible refine Below.trans ?_ (Below.mono (by assumption) ?_)) | (with_reducible exact Nat.le_refl _) | omega | (simp only [World.size_alloc, World.size_setCell, World.size_drew]; omega) | (simp; omega) | (simp; done)))⟩
          case measure => simp [intOf]; omega
      · have hI := lieB_no hin
        have HN : Hid (symsTo kind (k + 1) = symsTo kind k) := by rw [symsTo_none hin, symsTo_none hin]; exact rfl
        go_wp2_with (first | (go_at_call 75; refine (l1In_s _ _ _ _).mono ?_; rintro e w1 ⟨rfl, hb⟩; obtain ⟨hc, hf⟩ := bcell hb; have HL := keepL (by (repeat (first | (with_reducible assumption) | (with_reducible apply AllLt.alloc) | (with_reducible apply AllLt.setCell) | (with_reducible apply AllLt.drew) | (with_reducible exact AllLt.nil _)))) hb; have hq := HL; simp only [AllLt, and_true, World.size_alloc, World.size_setCell, World.size_drew] at hq; have hbs := hb.size; try simp only [World.size_alloc, World.size_setCell, World.size_drew] at hbs))
        go_roundw
        case rel => exact ⟨k + 1, by omega, by go_num, by rw [HN.out]; (repeat (first | (with_reducible assumption) | (with_reducible refine World.ownsRow.alloc ?_ _) | (with_reducible refine World.ownsRow.drew ?_) | (with_reducible refine ownsBelow (by assumption) ?_))), by (repeat (first | (with_reducible assumption) | (with_reducible refine World.ownsRow.alloc ?_ _) | (with_reducible refine World.ownsRow.drew ?_) | (with_reducible refine ownsBelow (by assumption) ?_))), hne, by first | omega | (simp only [World.size_alloc, World.size_setCell, World.size_drew]; omega), HNN.out, by (repeat' (first | (with_reducible exact Below.refl _ _) | (with_reducible assumption) | (with_reducible refine Below.alloc ?_ ?_ _) | (with_reducible refine Below.drew ?_) | (with_reducible refine Below.setCell ?_ ?_ _) | (with_reducible refine Below.trans ?_ (Below.mono (by assumption) ?_)) | (with_reducible exact Nat.le_refl _) | omega | (simp only [World.size_alloc, World.size_setCell, World.size_drew]; omega) | (simp; omega) | (simp; done)))⟩
        case measure => simp [intOf]; omega
    · have hk8 : k = 8 := by omega
      subst hk8
      rcases ownsRow_forms hown with ⟨e, _⟩ | ⟨g2, cap2, rfl⟩
      · exact absurd e HNN.out
      go_wp2
      go_ret
      exact ⟨_, _, rfl, hown, hbel⟩
end Go.Proofs.Ytfdgijmmgllmgaa
namespace Go.Proofs.Ytfdgijmmgllmgaa
open Go.ChangeShapes Go.WideShapes Go.ChangeAt Go.RowKit Go.Joins
set_option linter.unusedSimpArgs false
set_option linter.unusedVariables false
set_option maxRecDepth 100000
attribute [local go_sem] store_f
open Ieee
attribute [local go_sem] store_c
structure PlaceS (n k : Int) (x y : Nat) : Prop where
  call : ∀ w : World, Calls Try.prog 144 #[.int .i64 n, .int .i64 k] w fun e w' => e = .returned (.complex .f32 x y) ∧ Below w.heap.size w w'
set_option maxHeartbeats 4000000 in
theorem placeS {n k : Nat} (h1 : 1 ≤ n) (h8 : n ≤ 8) (hk : k < n * n) : PlaceS n k (iw (plX n k)) (iw (plY n k)) := ⟨fun w => by
  unfold plX plY iw
  rcases (by omega : n = 1 ∨ n = 2 ∨ n = 3 ∨ n = 4 ∨ n = 5 ∨ n = 6 ∨ n = 7 ∨ n = 8) with rfl | rfl | rfl | rfl | rfl | rfl | rfl | rfl
  all_goals
    go_enter Try.func144, Try.ntmps144
    go_wp2
    go_quiet (fail)
    go_wp2
    go_ret
    exact ⟨by simp, below_draws _ _ _⟩⟩
theorem l4Cell_s {n : Nat} {x y : Int} (h1 : 1 ≤ n) (h8 : n ≤ 8) (hx : -((n : Int) - 1) ≤ x ∧ x ≤ (n : Int) - 1) (hy : -((n : Int) - 1) ≤ y ∧ y ≤ (n : Int) - 1) (w : World) :
    Calls Try.prog 142 #[.int .i64 n, .complex .f32 (iw x) (iw y)] w fun e w' => e = .returned (.int .i64 (cellOf n x y : Nat)) ∧ w' = w := by
  have hcx := fun w => run_convert_float_int (P := Try.prog) w 30 3 .f32 .i64 (iw x) x (by rw [Try.underlying30]; rfl) Try.underlying3 (iw_of (z := x) (by omega) (by omega)).2.2.2
  have hcy := fun w => run_convert_float_int (P := Try.prog) w 30 3 .f32 .i64 (iw y) y (by rw [Try.underlying30]; rfl) Try.underlying3 (iw_of (z := y) (by omega) (by omega)).2.2.2
  unfold cellOf
  generalize iw x = a at *
  generalize iw y = b at *
  rcases (by omega : n = 1 ∨ n = 2 ∨ n = 3 ∨ n = 4 ∨ n = 5 ∨ n = 6 ∨ n = 7 ∨ n = 8) with rfl | rfl | rfl | rfl | rfl | rfl | rfl | rfl
  · obtain rfl : x = 0 := by omega
    obtain rfl : y = 0 := by omega
    go_enter Try.func142, Try.ntmps142
    go_wp2_with (first | simp only [hcx] | simp only [hcy])
    go_ret
    exact ⟨by first | rfl | (simp; done), rfl⟩
  all_goals
    go_enter Try.func142, Try.ntmps142
    go_wp2_with (first | simp only [hcx] | simp only [hcy])
    go_ret
    exact ⟨by first | (congr 2; omega) | (simp; omega), rfl⟩
structure LieM (x lo hi : Int) (b : Bool) : Prop where
  call : ∀ w : World, Calls Try.prog 75 #[.int .i64 x, .int .i64 lo, .int .i64 hi] w fun e w' => e = .returned (.bool b) ∧ Below w.heap.size w w'
theorem lieM_yes {x lo hi : Int} (h : lo ≤ x) (h' : x ≤ hi) : LieM x lo hi true := ⟨fun w => by
  have H := l1In_s x lo hi w
  rwa [lieB_yes h h'] at H⟩
theorem lieM_no {x lo hi : Int} (h : ¬ (lo ≤ x ∧ x ≤ hi)) : LieM x lo hi false := ⟨fun w => by
  have H := l1In_s x lo hi w
  rwa [lieB_no h] at H⟩
structure IsSymS (t : Int) (f : Bool) (b : Bool) : Prop where
  call : ∀ w : World, Calls Try.prog 141 #[.agg #[.int .i64 t, .bool f]] w fun e w' => e = .returned (.bool b) ∧ Below w.heap.size w w'
theorem isSymS (t : Int) (f : Bool) : IsSymS t f (isSymB t) := ⟨fun w => by
  have L : LieM t 0 3 (isSymB t) := by
    cases h : isSymB t
    · exact lieM_no (by rcases isSymB_no h with h | h <;> omega)
    · obtain ⟨h1, h2⟩ := isSymB_iff.1 h
      exact lieM_yes (by omega) (by omega)
  generalize isSymB t = b at L ⊢
  go_enter Try.func141, Try.ntmps141
  go_wp2_with ((go_at_call 75; refine (L.call _).mono ?_; rintro e w1 ⟨rfl, hb⟩; obtain ⟨hc, hf⟩ := bcell hb; have HL := keepL (by (repeat (first | (with_reducible assumption) | (with_reducible apply AllLt.alloc) | (with_reducible apply AllLt.setCell) | (with_reducible apply AllLt.drew) | (with_reducible exact AllLt.nil _)))) hb; have hq := HL; simp only [AllLt, and_true, World.size_alloc, World.size_setCell, World.size_drew] at hq; have hbs := hb.size; try simp only [World.size_alloc, World.size_setCell, World.size_drew] at hbs))
  go_ret
  exact ⟨rfl, by (repeat' (first | (with_reducible exact Below.refl _ _) | (with_reducible assumption) | (with_reducible refine Below.alloc ?_ ?_ _) | (with_reducible refine Below.drew ?_) | (with_reducible refine Below.setCell ?_ ?_ _) | (with_reducible refine Below.trans ?_ (Below.mono (by assumption) ?_)) | (with_reducible exact Nat.le_refl _) | omega | (simp only [World.size_alloc, World.size_setCell, World.size_drew]; omega) | (simp; omega) | (simp; done)))⟩⟩
structure CellS (n k t : Int) (f : Bool) (c : Int) : Prop where
  call : ∀ w : World, Calls Try.prog 125 #[.int .i64 n, .int .i64 k, .agg #[.int .i64 t, .bool f]] w fun e w' => e = .returned (.int .i64 c) ∧ Below w.heap.size w w'
structure CellAtS (n : Nat) (x y : Nat) (c : Nat) : Prop where
  call : ∀ w : World, Calls Try.prog 142 #[.int .i64 n, .complex .f32 x y] w fun e w' => e = .returned (.int .i64 c) ∧ w' = w
set_option maxHeartbeats 8000000 in
theorem cellS_of {n k N : Nat} {t : Nat} {f : Bool} {x y p q c : Nat} (ht : t < 4) (h1 : 1 ≤ n) (h8 : n ≤ 8) (hN : N = n * n) (hk : k < N) (P : PlaceS n k x y) (A : ActS t f x y p q) (C : CellAtS n p q c) : CellS n k t f c := ⟨fun w => by
  have L1 : LieM n 1 8 true := lieM_yes (by omega) (by omega)
  have hN64 : N ≤ 64 := by rw [hN]; exact Nat.le_trans (Nat.mul_le_mul h8 h8) (by omega)
  have L2 : LieM k 0 ((N : Int) - 1) true := lieM_yes (by omega) (by omega)
  have Y := isSymS t f
  have ey : isSymB (t : Int) = true := isSymB_iff.2 (by omega)
  rw [ey] at Y
  have hNN : (n : Int) * (n : Int) = (N : Int) := by rw [hN]; simp
  clear ey hN
  go_enter Try.func125, Try.ntmps125
  go_wp2_with fail
  have HS : Hid (Blk (w.alloc (.cells #[.int .i64 t, .bool f] 101)) w.heap.size #[.int .i64 t, .bool f] 101) := Blk.new _ _ _
  have HB : Hid (Below w.heap.size w (w.alloc (.cells #[.int .i64 t, .bool f] 101))) := (Below.refl _ _).alloc (Nat.le_refl _) _
  refine (L1.call _).mono ?_
  rintro e w1 ⟨rfl, hb⟩
  have HS1 : Hid (Blk w1 w.heap.size #[.int .i64 t, .bool f] 101) := HS.out.below hb
  have HB1 : Hid (Below w.heap.size w w1) := HB.out.trans (hb.mono (by simp))
  clear hb HS HB
  go_wp2_with fail
  refine (L2.call _).mono ?_
  rintro e w2 ⟨rfl, hb⟩
  have HS2 := HS1.out.below hb
  have HB2 : Hid (Below w.heap.size w w2) := HB1.out.trans (hb.mono HB1.out.size)
  have s0 := Blk.cellAt (i := 0) HS2 rfl
  have s1 := Blk.cellAt (i := 1) HS2 rfl
  simp only [List.getElem_toArray, List.getElem_cons_zero, List.getElem_cons_succ] at s0 s1
  clear hb HS1 HB1
  have HS2H : Hid (Blk w2 w.heap.size #[.int .i64 t, .bool f] 101) := HS2
  clear HS2
  go_wp2_with fail
  refine (Y.call _).mono ?_
  rintro e w3 ⟨rfl, hb⟩
  have HS3 := HS2H.out.below hb
  have B3 : Below w.heap.size w w3 := HB2.out.trans (hb.mono HB2.out.size)
  have s0 := Blk.cellAt (i := 0) HS3 rfl
  have s1 := Blk.cellAt (i := 1) HS3 rfl
  have z3 := B3.size
  have l3 := HS3.lt
  simp only [List.getElem_toArray, List.getElem_cons_zero, List.getElem_cons_succ] at s0 s1
  clear hb HS2H HB2 HS3 L1 L2 Y hNN
  go_wp2_with fail
  go_region_held3 (fun wx => Below w.heap.size w wx ∧ w.heap.size ≤ wx.heap.size ∧ w.heap.size < wx.heap.size ∧ wx.cell? ⟨w.heap.size, 0, Option.none⟩ = some (.int .i64 (t)) ∧ wx.cell? ⟨w.heap.size, 1, Option.none⟩ = some (.bool (f)))
    (((repeat' apply And.intro) <;> first | (with_reducible assumption) | (((repeat (first | (with_reducible assumption) | (with_reducible exact cNewAt (by first | rfl | (simp only [World.size_alloc, World.size_setCell, World.size_drew]; done) | omega) rfl) | (with_reducible exact sNewAt (by first | rfl | (simp only [World.size_alloc, World.size_setCell, World.size_drew]; done) | omega) rfl) | (simp; done) | (with_reducible apply cAlloc) | (with_reducible apply cDrew) | (with_reducible refine cSet (by dsimp only; omega) ?_) | (with_reducible refine cSetOff (by dsimp only; omega) ?_) | (with_reducible apply cSame) | (with_reducible refine cBelow (by assumption) ?_) | (with_reducible apply sAlloc) | (with_reducible apply sDrew) | (with_reducible refine sBelow (by assumption) ?_) | (with_reducible refine sSet (by dsimp only; omega) ?_))); first | done | (simp [*]; done)); done) | (simp only [World.size_alloc, World.size_setCell, World.size_drew]; omega) | omega | (go_keep; done) | ((repeat' (first | (with_reducible exact Below.refl _ _) | (with_reducible assumption) | (with_reducible refine Below.alloc ?_ ?_ _) | (with_reducible refine Below.drew ?_) | (with_reducible refine Below.setCell ?_ ?_ _) | (with_reducible refine Below.trans ?_ (Below.mono (by assumption) ?_)) | (with_reducible exact Nat.le_refl _) | omega | (simp only [World.size_alloc, World.size_setCell, World.size_drew]; omega) | (simp; omega) | (simp; done))); done)))
    (first | (go_at_call 144; (with_reducible refine (P.call _).mono ?_); rintro e w5 ⟨rfl, hb⟩; have hbs := hb.size; try simp only [World.size_alloc, World.size_setCell, World.size_drew] at hbs) | (go_at_call 143; (with_reducible refine (A.call _).mono ?_); rintro e w6 ⟨rfl, hb⟩; have hbs := hb.size; try simp only [World.size_alloc, World.size_setCell, World.size_drew] at hbs) | (go_at_call 142; (with_reducible refine (C.call _).mono ?_); rintro e w7 ⟨rfl, rfl⟩))
  all_goals
    rename_i hHeld
    have HZ : Hid (Below w.heap.size w w7) := hHeld.1
    clear hHeld
    go_wp2
    go_ret
    exact ⟨rfl, HZ.out⟩⟩
theorem cellS_yes {n k t : Nat} (f : Bool) (h1 : 1 ≤ n) (h8 : n ≤ 8) (hk : k < n * n) (ht : t < 4) : CellS n k t f (cellN n t f k : Nat) := by
  obtain ⟨b1, b2⟩ := pl_bd h1 (cell_lt' (f := f) h8 hk ht)
  obtain ⟨a1, a2⟩ := pl_bd h1 hk
  obtain ⟨e1, e2⟩ := cell_place (f := f) h8 hk ht
  refine cellS_of ht h1 h8 rfl hk (placeS h1 h8 hk) (actS f ht (by omega) (by omega)) ⟨fun w => ?_⟩
  have h := l4Cell_s h1 h8 b1 b2 w
  rw [e1, e2] at h
  exact h
end Go.Proofs.Ytfdgijmmgllmgaa
