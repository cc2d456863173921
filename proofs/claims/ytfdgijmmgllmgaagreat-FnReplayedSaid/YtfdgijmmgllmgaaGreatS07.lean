/-
  Texts Stwo Aw Iw Sro Sha Oj Ok Tb Tc, joined.
-/
import Derived.Test.YtfdgijmmgllmgaaGreatS06
import Derived.Deep.QuietTactic
import Derived.BigQuiet
import Derived.Deep.RegionHeld3
import Derived.Lib.Hide
import Derived.Deep.DeepCutAuto
namespace Go.Proofs.YtfdgijmmgllmgaaGreat
open Go.ChangeShapes Go.WideShapes Go.ChangeAt Go.RowKit Go.Joins 
set_option linter.unusedSimpArgs false
set_option linter.unusedVariables false
/-- Of the first k symmetries those of mirrors of a kind. -/
def symsTo (kind : Int) (k : Nat) : List (Int × Bool) := ((List.range k).map symK).filter fun p => ofB kind p.1 p.2
theorem symsTo_yes {kind : Int} {k : Nat} (h : ofB kind (symK k).1 (symK k).2 = true) : symsTo kind (k + 1) = symsTo kind k ++ [symK k] := by
  simp [symsTo, List.range_succ, h]
theorem symsTo_no {kind : Int} {k : Nat} (h : ofB kind (symK k).1 (symK k).2 = false) : symsTo kind (k + 1) = symsTo kind k := by
  simp [symsTo, List.range_succ, h]
theorem symsTo_le (kind : Int) (k : Nat) : (symsTo kind k).length ≤ k := by
  have := List.length_filter_le (fun p => ofB kind p.1 p.2) ((List.range k).map symK)
  simpa [symsTo] using this
set_option maxHeartbeats 1600000 in
set_option maxRecDepth 1000000 in
theorem symsOf_i (kind : Int) (w : World) :
    Calls Tryz.prog 52 #[.int .i64 kind] w fun e w' => ∃ g cap, e = .returned (.slice (some ⟨g, 0, Option.none⟩) (symsTo kind 8).length cap) ∧ w'.ownsRow w.heap.size 63 2 (.slice (some ⟨g, 0, Option.none⟩) (symsTo kind 8).length cap) (symsTo kind 8).length (symCells (symsTo kind 8)) ∧ Below w.heap.size w w' := by
  obtain ⟨i0, hi, hz0, hz1, hz2⟩ := info_parts infoSym
  go_enter Tryz.func52, Tryz.ntmps52
  go_wp2
  go_loopw [3, 7] (fun v i wr => ∃ k : Nat, k ≤ 8 ∧ i = .int .i64 k ∧ wr.ownsRow w.heap.size 63 2 v (symsTo kind k).length (symCells (symsTo kind k)) ∧ v ≠ .slice Option.none 0 0 ∧ Below w.heap.size w wr)
    (fun _ i _ => 8 - (intOf i).toNat)
  case atStart => exact ⟨0, by omega, rfl, World.ownsRow_lit _ #[] 0 (by simp) (by unfold maxLen; omega) rfl, by simp, by (repeat' (first | (with_reducible exact Below.refl _ _) | (with_reducible assumption) | (with_reducible refine Below.alloc ?_ ?_ _) | (with_reducible refine Below.drew ?_) | (with_reducible refine Below.setCell ?_ ?_ _) | (with_reducible refine Below.trans ?_ (Below.mono (by assumption) ?_)) | (with_reducible exact Nat.le_refl _) | omega | (simp only [World.size_alloc, World.size_setCell, World.size_drew]; omega) | (simp; omega) | (simp; done)))⟩
  case round =>
    obtain ⟨k, hk, rfl, hown, hnn, hbel⟩ := hrel
    have HNN : Hid (u3 ≠ .slice Option.none 0 0) := hnn
    clear hnn
    have hbase := hbel.size
    by_cases hlt : k < 8
    · have hle := symsTo_le kind k
      cases hB : ofB kind ((k : Int) % 4) (decide (4 ≤ (k : Int))) with
      | true =>
        have hy := symsTo_yes (kind := kind) (k := k) hB
        have HY : Hid (symsTo kind (k + 1) = symsTo kind k ++ [symK k]) := hy
        clear hy
        go_wp2_with (first | (go_at_call 85; refine (symAt_i _ _ hlt).mono ?_; rintro e w1 ⟨rfl, hb⟩; obtain ⟨hc, hf⟩ := bcell hb; have HL := keepL (by (repeat (first | (with_reducible assumption) | (with_reducible apply AllLt.alloc) | (with_reducible apply AllLt.setCell) | (with_reducible apply AllLt.drew) | (with_reducible exact AllLt.nil _)))) hb; have hq := HL; simp only [AllLt, and_true, World.size_alloc, World.size_setCell, World.size_drew] at hq; have hbs := hb.size; try simp only [World.size_alloc, World.size_setCell, World.size_drew] at hbs) | (go_at_call 86; refine (isSymOf_i _ _ _ _).mono ?_; rintro e w1 ⟨rfl, hb⟩; obtain ⟨hc, hf⟩ := bcell hb; have HL := keepL (by (repeat (first | (with_reducible assumption) | (with_reducible apply AllLt.alloc) | (with_reducible apply AllLt.setCell) | (with_reducible apply AllLt.drew) | (with_reducible exact AllLt.nil _)))) hb; have hq := HL; simp only [AllLt, and_true, World.size_alloc, World.size_setCell, World.size_drew] at hq; have hbs := hb.size; try simp only [World.size_alloc, World.size_setCell, World.size_drew] at hbs) | (at_builtin; go_loud (refine wpList_append_own _ rfl _ _ 99 rfl w.heap.size 63 i0 (.agg #[.int .i64 0, .bool false]) 2 16 Tryz.underlying99 hi hz0 hz1 hz2 rfl (by decide) _ (symsTo kind k).length (symCells (symsTo kind k)) rfl ?hown ⟨w1.heap.size, 0, Option.none⟩ 1 1 [.int .i64 (symK k).1, .bool (symK k).2] rfl rfl ?c1 ?c2 ?c3 ?c4 ?c5 ?_)))
        case hown => (change World.ownsRow _ _ _ _ u3 _ _; (repeat (first | (with_reducible assumption) | (with_reducible refine World.ownsRow.alloc ?_ _) | (with_reducible refine World.ownsRow.drew ?_) | (with_reducible refine ownsBelow (by assumption) ?_))))
        case c1 =>
          intro j u hj
          rcases j with _ | _ | j <;> simp [symK] at hj <;> subst hj <;> simp [Addr.add]
        case c2 =>
          intro u hu
          simp at hu
          rcases hu with rfl | rfl <;> rfl
        case c3 => (unfold maxLen; omega)
        case c4 => omega
        case c5 => first | omega | (simp only [World.size_alloc, World.size_setCell, World.size_drew]; omega)
        intro v' w2 hown' hgrow hvn
        have HVN : Hid (v' ≠ .slice Option.none 0 0) := hvn
        clear hvn
        have hb2 : Below w.heap.size w w2 := Below.grown (by (repeat' (first | (with_reducible exact Below.refl _ _) | (with_reducible assumption) | (with_reducible refine Below.alloc ?_ ?_ _) | (with_reducible refine Below.drew ?_) | (with_reducible refine Below.setCell ?_ ?_ _) | (with_reducible refine Below.trans ?_ (Below.mono (by assumption) ?_)) | (with_reducible exact Nat.le_refl _) | omega | (simp only [World.size_alloc, World.size_setCell, World.size_drew]; omega) | (simp; omega) | (simp; done)))) hgrow (by first | omega | (simp only [World.size_alloc, World.size_setCell, World.size_drew]; omega)) (fun q hq => (hown.lt q hq).1)
        clear hgrow
        go_wp2
        go_roundw
        case rel => exact ⟨k + 1, by omega, by go_num, by rw [HY.out, symCells_snoc]; simpa using hown', HVN.out, hb2⟩
        case measure => simp [intOf]; omega
      | false =>
        have hn := symsTo_no (kind := kind) (k := k) hB
        have HN : Hid (symsTo kind (k + 1) = symsTo kind k) := hn
        clear hn
        go_wp2_with (first | (go_at_call 85; refine (symAt_i _ _ hlt).mono ?_; rintro e w1 ⟨rfl, hb⟩; obtain ⟨hc, hf⟩ := bcell hb; have HL := keepL (by (repeat (first | (with_reducible assumption) | (with_reducible apply AllLt.alloc) | (with_reducible apply AllLt.setCell) | (with_reducible apply AllLt.drew) | (with_reducible exact AllLt.nil _)))) hb; have hq := HL; simp only [AllLt, and_true, World.size_alloc, World.size_setCell, World.size_drew] at hq; have hbs := hb.size; try simp only [World.size_alloc, World.size_setCell, World.size_drew] at hbs) | (go_at_call 86; refine (isSymOf_i _ _ _ _).mono ?_; rintro e w1 ⟨rfl, hb⟩; obtain ⟨hc, hf⟩ := bcell hb; have HL := keepL (by (repeat (first | (with_reducible assumption) | (with_reducible apply AllLt.alloc) | (with_reducible apply AllLt.setCell) | (with_reducible apply AllLt.drew) | (with_reducible exact AllLt.nil _)))) hb; have hq := HL; simp only [AllLt, and_true, World.size_alloc, World.size_setCell, World.size_drew] at hq; have hbs := hb.size; try simp only [World.size_alloc, World.size_setCell, World.size_drew] at hbs))
        go_roundw
        case rel => exact ⟨k + 1, by omega, by go_num, by rw [HN.out]; (repeat (first | (with_reducible assumption) | (with_reducible refine World.ownsRow.alloc ?_ _) | (with_reducible refine World.ownsRow.drew ?_) | (with_reducible refine ownsBelow (by assumption) ?_))), HNN.out, by (repeat' (first | (with_reducible exact Below.refl _ _) | (with_reducible assumption) | (with_reducible refine Below.alloc ?_ ?_ _) | (with_reducible refine Below.drew ?_) | (with_reducible refine Below.setCell ?_ ?_ _) | (with_reducible refine Below.trans ?_ (Below.mono (by assumption) ?_)) | (with_reducible exact Nat.le_refl _) | omega | (simp only [World.size_alloc, World.size_setCell, World.size_drew]; omega) | (simp; omega) | (simp; done)))⟩
        case measure => simp [intOf]; omega
    · have hk8 : k = 8 := by omega
      subst hk8
      rcases ownsRow_forms hown with ⟨e, _⟩ | ⟨g, cap, rfl⟩
      · exact absurd e HNN.out
      go_wp2
      go_ret
      exact ⟨_, _, rfl, hown, hbel⟩
end Go.Proofs.YtfdgijmmgllmgaaGreat
namespace Go.Proofs.YtfdgijmmgllmgaaGreat
open Go.ChangeShapes Go.WideShapes Go.ChangeAt Go.RowKit Go.Joins
set_option linter.unusedSimpArgs false
set_option linter.unusedVariables false
set_option maxRecDepth 100000
attribute [local go_sem] store_f
open Ieee Go.Lib
/-- The image of a point. -/
def actP (s : Int × Bool) (p : PtW) : PtW := ⟨actV s.1.toNat s.2 p.1.1 (ngB p.1.1) p.1.2 (ngB p.1.2), act_pt _ _ p.2.1 p.2.2⟩
/-- The point that two drawn words stand for. -/
def ptOf {x y : Nat} (hx : okB x = true) (hy : okB y = true) : PtW := ⟨(cleanB x, cleanB y), pt_clean hx, pt_clean hy⟩
theorem actM_pt (p : PtW) {s : Int × Bool} (h : isSymB s.1 = true) : ActM s.1 s.2 p.1.1 p.1.2 (actP s p).1.1 (actP s p).1.2 := by
  obtain ⟨h1, h2⟩ := isSymB_iff.1 h
  have := act_of_pt (t := s.1.toNat) s.2 (by omega) p.2.1 p.2.2
  rwa [Int.toNat_of_nonneg h1] at this
/-- What the images of a point are called as: a contract of ActSym at one word pair. -/
structure Acts (l : List (Int × Bool)) (x y : Nat) (p : PtW) : Prop where
  call : ∀ k, k < l.length → ActM (l.getD k (0, false)).1 (l.getD k (0, false)).2 x y (actP (l.getD k (0, false)) p).1.1 (actP (l.getD k (0, false)) p).1.2
theorem getD_memS {l : List (Int × Bool)} {k : Nat} (h : k < l.length) : l.getD k (0, false) ∈ l := by simp [List.getD, h]
theorem acts_pt {l : List (Int × Bool)} (hl : ∀ s ∈ l, isSymB s.1 = true) (p : PtW) : Acts l p.1.1 p.1.2 p :=
  ⟨fun k hk => actM_pt p (hl _ (getD_memS hk))⟩
structure PtYes (x y : Nat) : Prop where
  call : ∀ w : World, Calls Tryz.prog 49 #[.complex .f32 x y] w fun e w' => e = .returned (.bool true) ∧ w' = w
structure SymsM (kind : Int) (l : List (Int × Bool)) : Prop where
  call : ∀ w : World, Calls Tryz.prog 52 #[.int .i64 kind] w fun e w' => ∃ g cap, e = .returned (.slice (some ⟨g, 0, Option.none⟩) l.length cap) ∧ w'.ownsRow w.heap.size 63 2 (.slice (some ⟨g, 0, Option.none⟩) l.length cap) l.length (symCells l) ∧ Below w.heap.size w w'
end Go.Proofs.YtfdgijmmgllmgaaGreat
namespace Go.Proofs.YtfdgijmmgllmgaaGreat
open Go.ChangeShapes Go.WideShapes Go.ChangeAt Go.RowKit Go.Joins
set_option linter.unusedSimpArgs false
set_option linter.unusedVariables false
set_option maxRecDepth 100000
attribute [local go_sem] store_f
open Ieee Go.Lib
/-- The image of a pair of numbers. -/
def actI (s : Int × Bool) (z : Int × Int) : Int × Int :=
  match s.1.toNat, s.2 with
  | 0, false => (z.1, z.2)
  | 0, true => (z.1, -z.2)
  | 1, false => (-z.2, z.1)
  | 1, true => (z.2, z.1)
  | 2, false => (-z.1, -z.2)
  | 2, true => (-z.1, z.2)
  | _, false => (z.2, -z.1)
  | _, true => (-z.2, -z.1)
theorem val_ng {x : Nat} (h : Fin32 x) : valOf F32 (ngB x) = -valOf F32 x := by
  have hr := fin_rung h
  unfold ngB
  by_cases h0 : rungOf F32 x = 0
  · rw [if_pos h0, val_zero, val_eq_zero.2 h0]; rfl
  · rw [if_neg h0]
    unfold valOf
    rw [rungOf_word F32 _ (by rw [F32_sw]; omega), negOf_word F32 _ (by rw [F32_sw]; omega)]
    cases negOf F32 x <;> simp
def vP (p : PtW) : Int × Int := (vX p, vY p)
theorem vP_act (s : Int × Bool) (p : PtW) : vP (actP s p) = actI s (vP p) := by
  have nx := val_ng p.2.1.cl.fin
  have ny := val_ng p.2.2.cl.fin
  obtain ⟨t, f⟩ := s
  unfold vP vX vY actP actI
  dsimp only
  generalize t.toNat = n
  rcases n with _ | _ | _ | n <;> cases f <;> simp [actV, nx, ny]
theorem syms0 : symsTo 0 8 = [(0, false)] := by decide
theorem syms1 : symsTo 1 8 = [(0, false), (0, true)] := by decide
theorem syms2 : symsTo 2 8 = [(0, false), (2, false), (0, true), (2, true)] := by decide
theorem syms3 : symsTo 3 8 = [(0, false), (1, false), (2, false), (3, false), (0, true), (1, true), (2, true), (3, true)] := by decide
end Go.Proofs.YtfdgijmmgllmgaaGreat
namespace Go.Proofs.YtfdgijmmgllmgaaGreat
open Go.ChangeShapes Go.WideShapes Go.ChangeAt Go.RowKit Go.Joins 
set_option linter.unusedSimpArgs false
set_option linter.unusedVariables false
/-- The cells of a list of symmetries, from a block's head on. -/
def SymRow (W : World) (g : Nat) (l : List (Int × Bool)) : Prop :=
  ∀ k, k < l.length → W.cell? ⟨g, k * 2, Option.none⟩ = some (.int .i64 (l.getD k (0, false)).1) ∧ W.cell? ⟨g, k * 2 + 1, Option.none⟩ = some (.bool (l.getD k (0, false)).2)
theorem symCells_get : ∀ (l : List (Int × Bool)) (k : Nat), k < l.length → (symCells l)[k * 2]? = some (.int .i64 (l.getD k (0, false)).1) ∧ (symCells l)[k * 2 + 1]? = some (.bool (l.getD k (0, false)).2)
  | p :: l, 0, _ => ⟨rfl, rfl⟩
  | p :: l, k + 1, h => by
    have ih := symCells_get l k (by simpa using h)
    have e : symCells (p :: l) = .int .i64 p.1 :: .bool p.2 :: symCells l := rfl
    rw [e, show (k + 1) * 2 = k * 2 + 1 + 1 by omega]
    simpa using ih
theorem symRow_of {W : World} {base g n cap : Nat} {l : List (Int × Bool)} (h : W.ownsRow base 63 2 (.slice (some ⟨g, 0, Option.none⟩) n cap) n (symCells l)) (hn : l.length = n) : SymRow W g l := fun k hk => by
  have hg := symCells_get l k hk
  rw [h.cellAt _ (by omega), h.cellAt _ (by omega)]
  exact hg
theorem SymRow.below {W w1 : World} {g : Nat} {l : List (Int × Bool)} (h : SymRow W g l) (hb : Below W.heap.size W w1) : SymRow w1 g l :=
  fun k hk => ⟨cBelow hb (h k hk).1, cBelow hb (h k hk).2⟩
theorem SymRow.set {W : World} {g : Nat} {a : Addr} {v : Value} {l : List (Int × Bool)} (h : SymRow W g l) (hne : g ≠ a.block) : SymRow (W.setCell a v) g l :=
  fun k hk => ⟨cSet hne (h k hk).1, cSet hne (h k hk).2⟩
theorem SymRow.alloc {W : World} {g : Nat} {o : Obj} {l : List (Int × Bool)} (h : SymRow W g l) : SymRow (W.alloc o) g l :=
  fun k hk => ⟨cAlloc (h k hk).1, cAlloc (h k hk).2⟩
end Go.Proofs.YtfdgijmmgllmgaaGreat
namespace Go.Proofs.YtfdgijmmgllmgaaGreat
open Go.ChangeShapes Go.WideShapes Go.ChangeAt Go.RowKit Go.Joins 
set_option linter.unusedSimpArgs false
set_option linter.unusedVariables false
theorem syms_range (kind : Int) (h0 : 0 ≤ kind) (h3 : kind ≤ 3) : ∀ p ∈ symsTo kind 8, isSymB p.1 = true := by
  rcases (by omega : kind = 0 ∨ kind = 1 ∨ kind = 2 ∨ kind = 3) with rfl | rfl | rfl | rfl <;> decide
end Go.Proofs.YtfdgijmmgllmgaaGreat
namespace Go.Proofs.YtfdgijmmgllmgaaGreat
open Go.ChangeShapes Go.WideShapes Go.ChangeAt Go.RowKit Go.Joins
set_option linter.unusedSimpArgs false
set_option linter.unusedVariables false
set_option maxRecDepth 100000
attribute [local go_sem] store_f
open Ieee Go.Lib
/-- Does a pair of numbers lie in the wedge? -/
def wedI (kind : Int) (z : Int × Int) : Bool :=
  if kind = 0 then true else if kind = 1 then decide (0 ≤ z.2) else if kind = 2 then decide (0 ≤ z.1) && decide (0 ≤ z.2) else decide (0 ≤ z.2) && decide (z.2 ≤ z.1)
/-- Does a point lie in the wedge? -/
def wed (kind : Int) (p : PtW) : Bool := wedI kind (vP p)
theorem wed_some_I (kind X Y : Int) (h0 : 0 ≤ kind) (h3 : kind ≤ 3) : ∃ s ∈ symsTo kind 8, wedI kind (actI s (X, Y)) = true := by
  rcases (by omega : kind = 0 ∨ kind = 1 ∨ kind = 2 ∨ kind = 3) with rfl | rfl | rfl | rfl
  · rw [syms0]; simp [wedI]
  · rw [syms1]; simp [wedI, actI]; omega
  · rw [syms2]; simp [wedI, actI]; omega
  · rw [syms3]; simp [wedI, actI]; omega
theorem wed_some {kind : Int} (h0 : 0 ≤ kind) (h3 : kind ≤ 3) (p : PtW) : ∃ s ∈ symsTo kind 8, wed kind (actP s p) = true := by
  obtain ⟨s, hs, h⟩ := wed_some_I kind (vX p) (vY p) h0 h3
  exact ⟨s, hs, by unfold wed; rw [vP_act]; exact h⟩
theorem le_zero {y : Nat} (h : Fin32 y) : (FloatKind.f32.format.order y 0 == some .gt || FloatKind.f32.format.order y 0 == some .eq) = decide (0 ≤ valOf F32 y) := by
  show (F32.order y 0 == some .gt || F32.order y 0 == some .eq) = _
  rw [order_zero h, cmp_eq, cmp_gt, ← Bool.decide_or]
  apply decide_eq_decide.2
  omega
theorem zero_le {y : Nat} (h : Fin32 y) : (FloatKind.f32.format.order 0 y == some .lt || FloatKind.f32.format.order 0 y == some .eq) = decide (0 ≤ valOf F32 y) := by
  show (F32.order 0 y == some .lt || F32.order 0 y == some .eq) = _
  rw [order_fin F32 (fin_of_lt (by omega)) h, val_zero, cmp_eq, cmp_lt, ← Bool.decide_or]
  apply decide_eq_decide.2
  omega
theorem le_le {x y : Nat} (hx : Fin32 x) (hy : Fin32 y) : (FloatKind.f32.format.order y x == some .lt || FloatKind.f32.format.order y x == some .eq) = decide (valOf F32 y ≤ valOf F32 x) := by
  show (F32.order y x == some .lt || F32.order y x == some .eq) = _
  rw [order_fin F32 hy hx, cmp_eq, cmp_lt, ← Bool.decide_or]
  apply decide_eq_decide.2
  omega
structure WedM (kind : Int) (x y : Nat) (b : Bool) : Prop where
  call : ∀ w : World, Calls Tryz.prog 20 #[.int .i64 kind, .complex .f32 x y] w fun e w' => e = .returned (.bool b) ∧ w' = w
set_option maxHeartbeats 2000000 in
theorem inWedge_of {kind : Int} {x y : Nat} (h0 : 0 ≤ kind) (h3 : kind ≤ 3) (PY : PtYes x y) {b1 b2 b4 : Bool}
    (e1 : (FloatKind.f32.format.order x 0 == some .gt || FloatKind.f32.format.order x 0 == some .eq) = b1)
    (e2 : (FloatKind.f32.format.order y 0 == some .gt || FloatKind.f32.format.order y 0 == some .eq) = b2)
    (e3 : (FloatKind.f32.format.order 0 y == some .lt || FloatKind.f32.format.order 0 y == some .eq) = b2)
    (e4 : (FloatKind.f32.format.order y x == some .lt || FloatKind.f32.format.order y x == some .eq) = b4) :
    WedM kind x y (if kind = 0 then true else if kind = 1 then b2 else if kind = 2 then b1 && b2 else b2 && b4) := by
  refine ⟨fun w => ?_⟩
  rcases (by omega : kind = 0 ∨ kind = 1 ∨ kind = 2 ∨ kind = 3) with rfl | rfl | rfl | rfl <;> cases b1 <;> cases b2 <;> cases b4
  all_goals
    go_enter Tryz.func20, Tryz.ntmps20
    go_wp2_with fail
    refine (PY.call _).mono ?_
    rintro e w1 ⟨rfl, rfl⟩
    go_wp2
    all_goals (go_ret; exact ⟨by simp_all, rfl⟩)
theorem inWedge_p {kind : Int} (h0 : 0 ≤ kind) (h3 : kind ≤ 3) (p : PtW) : WedM kind p.1.1 p.1.2 (wed kind p) := by
  have h := inWedge_of h0 h3 (x := p.1.1) (y := p.1.2) ⟨fun w => isPoint_yes _ _ w (ok_in p.2.1.ok) (ok_in p.2.2.ok)⟩ (le_zero p.2.1.cl.fin) (le_zero p.2.2.cl.fin) (zero_le p.2.2.cl.fin) (le_le p.2.1.cl.fin p.2.2.cl.fin)
  exact h
end Go.Proofs.YtfdgijmmgllmgaaGreat
namespace Go.Proofs.YtfdgijmmgllmgaaGreat
open Go.ChangeShapes Go.WideShapes Go.ChangeAt Go.RowKit Go.Joins
set_option linter.unusedSimpArgs false
set_option linter.unusedVariables false
set_option maxRecDepth 100000
attribute [local go_sem] store_f
open Ieee Go.Lib
structure FoldM (kind : Int) (x y a b : Nat) (t : Int) (f : Bool) : Prop where
  call : ∀ w : World, Calls Tryz.prog 22 #[.int .i64 kind, .complex .f32 x y] w fun e w' => e = .returned (.tuple #[.complex .f32 a b, .agg #[.int .i64 t, .bool f], .bool true]) ∧ Below w.heap.size w w'
/-- The n-th of the symmetries is the first one that takes a point into the wedge. -/
structure First (kind : Int) (l : List (Int × Bool)) (p : PtW) (n : Nat) : Prop where
  lt : n < l.length
  yes : wed kind (actP (l.getD n (0, false)) p) = true
  no : ∀ j, j < n → wed kind (actP (l.getD j (0, false)) p) = false
structure Weds (kind : Int) (l : List (Int × Bool)) (p : PtW) : Prop where
  call : ∀ k, k < l.length → WedM kind (actP (l.getD k (0, false)) p).1.1 (actP (l.getD k (0, false)) p).1.2 (wed kind (actP (l.getD k (0, false)) p))
set_option maxHeartbeats 4000000 in
set_option maxRecDepth 1000000 in
theorem foldPoint_i {kind : Int} {l : List (Int × Bool)} {x y : Nat} {p : PtW} {n : Nat} (SM : SymsM kind l) (hlen : l.length ≤ 8) (PY : PtYes x y) (A : Acts l x y p) (W : Weds kind l p) (F : First kind l p n) :
    FoldM kind x y (actP (l.getD n (0, false)) p).1.1 (actP (l.getD n (0, false)) p).1.2 (l.getD n (0, false)).1 (l.getD n (0, false)).2 := by
  refine ⟨fun w => ?_⟩
  have hnl := F.lt
  go_enter Tryz.func22, Tryz.ntmps22
  go_wp2_with fail
  refine (PY.call _).mono ?_
  rintro e w0 ⟨rfl, rfl⟩
  go_wp2_with fail
  refine (SM.call _).mono ?_
  rintro e w1 ⟨gs, cs, rfl, own, hb1⟩
  have HS : Hid (SymRow w1 gs l) := symRow_of own rfl
  have HB : Hid (Below w.heap.size w w1) := by show Below _ _ _; (repeat' (first | (with_reducible exact Below.refl _ _) | (with_reducible assumption) | (with_reducible refine Below.alloc ?_ ?_ _) | (with_reducible refine Below.drew ?_) | (with_reducible refine Below.setCell ?_ ?_ _) | (with_reducible refine Below.trans ?_ (Below.mono (by assumption) ?_)) | (with_reducible exact Nat.le_refl _) | omega | (simp only [World.size_alloc, World.size_setCell, World.size_drew]; omega) | (simp; omega) | (simp; done)))
  have HK : Hid (Blk w1 w.heap.size #[.int .i64 0, .bool false] 63) := Blk.belowAt hb1 (Blk.new _ _ _)
  clear own hb1
  go_wp2_with fail
  go_loopw [17] (fun i wr => ∃ k : Nat, k ≤ n ∧ i = .int .i64 k ∧ SymRow wr gs l ∧ Blk wr w.heap.size #[.int .i64 0, .bool false] 63 ∧ Below w.heap.size w wr)
    (fun i _ => l.length - (intOf i).toNat)
  case atStart => exact ⟨0, by omega, rfl, HS.out, HK.out, HB.out⟩
  case round =>
    obtain ⟨k, hk, rfl, hS, hK, hbel⟩ := hrel
    have HR : Hid (SymRow wr gs l) := hS
    have HKR : Hid (Blk wr w.heap.size #[.int .i64 0, .bool false] 63) := hK
    have HBR : Hid (Below w.heap.size w wr) := hbel
    have hbs := hbel.size
    have hkl := hK.lt
    have hlt : k < l.length := by omega
    have HA := A.call k hlt
    have HW := W.call k hlt
    have HNO : Hid (k < n → wed kind (actP (l.getD k (0, false)) p) = false) := F.no k
    have HYES : Hid (k = n → wed kind (actP (l.getD k (0, false)) p) = true) := fun e => by rw [e]; exact F.yes
    obtain ⟨c0, c1⟩ := hS k hlt
    have HE : Hid (k = n → l.getD n (0, false) = l.getD k (0, false)) := fun e => by rw [e]
    clear hS hK hbel
    generalize wed kind (actP (l.getD k (0, false)) p) = b at HW HNO HYES
    have HP : Hid (k = n → (actP (l.getD n (0, false)) p).1.1 = (actP (l.getD k (0, false)) p).1.1 ∧ (actP (l.getD n (0, false)) p).1.2 = (actP (l.getD k (0, false)) p).1.2) := fun e => by rw [e]; exact ⟨rfl, rfl⟩
    generalize (actP (l.getD k (0, false)) p).1.1 = a1 at HA HW HP
    generalize (actP (l.getD k (0, false)) p).1.2 = a2 at HA HW HP
    generalize l.getD k (0, false) = s at HA c0 c1 HE
    obtain ⟨t, f⟩ := s
    simp only [] at c0 c1
    go_wp2_with fail
    refine (HA.call _).mono ?_
    rintro e w2 ⟨rfl, hb2⟩
    have hs2 := hb2.size
    simp only [World.size_alloc] at hs2
    have HB2 : Hid (Below w.heap.size w w2) := (HBR.out.alloc (by omega) _).trans (hb2.mono (by simp; omega))
    have HR2 : Hid (SymRow w2 gs l) := HR.out.alloc.below hb2
    have HK2 : Hid (Blk w2 w.heap.size #[.int .i64 0, .bool false] 63) := HKR.out.alloc.below hb2
    have hc : Blk w2 wr.heap.size #[.int .i64 t, .bool f] 63 := Blk.belowAt hb2 (Blk.new _ _ _)
    have d0 := Blk.cellAt (i := 0) hc rfl
    have d1 := Blk.cellAt (i := 1) hc rfl
    simp only [List.getElem_toArray, List.getElem_cons_zero, List.getElem_cons_succ] at d0 d1
    clear c0 c1 hb2 HR HKR HBR hc
    go_wp2_with fail
    refine (HW.call _).mono ?_
    rintro e w3 ⟨rfl, rfl⟩
    by_cases hkn : k = n
    · have hb : b = true := HYES.out hkn
      subst hb
      have z0 : w3.cell? ⟨w.heap.size, 0, Option.none⟩ = some (.int .i64 0) := HK2.out.cell 0
      have z1 : w3.cell? ⟨w.heap.size, 1, Option.none⟩ = some (.bool false) := HK2.out.cell 1
      have y0 : w3.frozen? ⟨w.heap.size, 0, Option.none⟩ = false := HK2.out.free 0
      have y1 : w3.frozen? ⟨w.heap.size, 1, Option.none⟩ = false := HK2.out.free 1
      have HEE : Hid (l.getD n (0, false) = (t, f)) := HE.out hkn
      have HPP : Hid ((actP (l.getD n (0, false)) p).1.1 = a1 ∧ (actP (l.getD n (0, false)) p).1.2 = a2) := HP.out hkn
      clear hkn HE HP HYES HNO
      go_wp2_with fail
      go_region_held3 (fun wx => wx.cell? ⟨wr.heap.size, 0, Option.none⟩ = some (.int .i64 t) ∧ wx.cell? ⟨wr.heap.size, 1, Option.none⟩ = some (.bool f))
        (((repeat' apply And.intro) <;> first | (with_reducible assumption) | (((repeat (first | (with_reducible assumption) | (with_reducible exact cNewAt (by first | rfl | (simp only [World.size_alloc, World.size_setCell, World.size_drew]; done) | omega) rfl) | (with_reducible exact sNewAt (by first | rfl | (simp only [World.size_alloc, World.size_setCell, World.size_drew]; done) | omega) rfl) | (simp; done) | (with_reducible apply cAlloc) | (with_reducible apply cDrew) | (with_reducible refine cSet (by dsimp only; omega) ?_) | (with_reducible refine cSetOff (by dsimp only; omega) ?_) | (with_reducible apply cSame) | (with_reducible refine cBelow (by assumption) ?_) | (with_reducible apply sAlloc) | (with_reducible apply sDrew) | (with_reducible refine sBelow (by assumption) ?_) | (with_reducible refine sSet (by dsimp only; omega) ?_))); first | done | (simp [*]; done)); done) | (simp only [World.size_alloc, World.size_setCell, World.size_drew]; omega) | omega | (go_keep; done) | ((repeat' (first | (with_reducible exact Below.refl _ _) | (with_reducible assumption) | (with_reducible refine Below.alloc ?_ ?_ _) | (with_reducible refine Below.drew ?_) | (with_reducible refine Below.setCell ?_ ?_ _) | (with_reducible refine Below.trans ?_ (Below.mono (by assumption) ?_)) | (with_reducible exact Nat.le_refl _) | omega | (simp only [World.size_alloc, World.size_setCell, World.size_drew]; omega) | (simp; omega) | (simp; done))); done)))
        (first | fail)
      all_goals
        rename_i hHeld
        clear hHeld d0 d1 z0 z1 y0 y1
        generalize hX : ((w3.setCell ⟨w.heap.size, 0, Option.none⟩ (.int .i64 t)).setCell ⟨w.heap.size, 1, Option.none⟩ (.bool f)).drew = X
        have D : Blk X w.heap.size #[.int .i64 t, .bool f] 63 := by
          rw [← hX]
          exact (Blk.setAt (b := w.heap.size) rfl (Blk.setAt (b := w.heap.size) rfl HK2.out rfl) rfl).drew
        have HX : Hid (Below w.heap.size w X) := by
          rw [← hX]
          exact ((HB2.out.setCell (Nat.le_refl _) _).setCell (Nat.le_refl _) _).drew
        clear hX
        have e0 := Blk.cellAt (i := 0) D rfl
        have e1 := Blk.cellAt (i := 1) D rfl
        simp only [List.getElem_toArray, List.getElem_cons_zero, List.getElem_cons_succ] at e0 e1
        clear D
        go_wp2
        exact bodyPost_ret (v := .tuple #[.complex .f32 a1 a2, .agg #[.int .i64 t, .bool f], .bool true]) (by simp [results, Tryz.results22, go_sem, e0, e1]) rfl ⟨by rw [HPP.out.1, HPP.out.2, HEE.out], HX.out⟩
    · have hb : b = false := HNO.out (by omega)
      subst hb
      go_wp2
      go_roundw
      case rel => exact ⟨k + 1, by omega, by go_num, HR2.out, HK2.out, HB2.out⟩
      case measure => simp [intOf]; omega
end Go.Proofs.YtfdgijmmgllmgaaGreat
namespace Go.Proofs.YtfdgijmmgllmgaaGreat
open Go.ChangeShapes Go.WideShapes Go.ChangeAt Go.RowKit Go.Joins
set_option linter.unusedSimpArgs false
set_option linter.unusedVariables false
set_option maxRecDepth 100000
attribute [local go_sem] store_f
open Ieee Go.Lib
/-- A bead: the parts of its place and of its speed. -/
structure Bw where
  a1 : Nat
  a2 : Nat
  v1 : Nat
  v2 : Nat
instance : Inhabited Bw := ⟨⟨0, 0, 0, 0⟩⟩
def Bw.cells (b : Bw) : List Value := [.complex .f32 b.a1 b.a2, .complex .f32 b.v1 b.v2]
def bwCells (l : List Bw) : List Value := l.flatMap Bw.cells
theorem bwCells_len (l : List Bw) : (bwCells l).length = l.length * 2 := by
  induction l with
  | nil => rfl
  | cons p l ih => simp [bwCells, Bw.cells] at ih ⊢; omega
theorem bwCells_snoc (l : List Bw) (b : Bw) : bwCells (l ++ [b]) = bwCells l ++ b.cells := by simp [bwCells]
/-- The cells of beads from a block's head on. -/
def BwRow (W : World) (g : Nat) (l : List Bw) : Prop :=
  ∀ k, k < l.length → W.cell? ⟨g, k * 2, Option.none⟩ = some (.complex .f32 (l.getD k default).a1 (l.getD k default).a2) ∧ W.cell? ⟨g, k * 2 + 1, Option.none⟩ = some (.complex .f32 (l.getD k default).v1 (l.getD k default).v2)
/-- Beads as a slice shows them. -/
def BwIn (W : World) (a : Option Addr) (l : List Bw) : Prop := l = [] ∨ ∃ g, a = some ⟨g, 0, Option.none⟩ ∧ BwRow W g l
theorem bwCells_get : ∀ (l : List Bw) (k : Nat), k < l.length → (bwCells l)[k * 2]? = some (.complex .f32 (l.getD k default).a1 (l.getD k default).a2) ∧ (bwCells l)[k * 2 + 1]? = some (.complex .f32 (l.getD k default).v1 (l.getD k default).v2)
  | p :: l, 0, _ => ⟨rfl, rfl⟩
  | p :: l, k + 1, h => by
    have ih := bwCells_get l k (by simpa using h)
    have e : bwCells (p :: l) = .complex .f32 p.a1 p.a2 :: .complex .f32 p.v1 p.v2 :: bwCells l := rfl
    rw [e, show (k + 1) * 2 = k * 2 + 1 + 1 by omega]
    simpa using ih
theorem bwRow_of {W : World} {base g n cap : Nat} {l : List Bw} (h : W.ownsRow base 59 2 (.slice (some ⟨g, 0, Option.none⟩) n cap) n (bwCells l)) (hn : l.length = n) : BwRow W g l := fun k hk => by
  have hg := bwCells_get l k hk
  rw [h.cellAt _ (by omega), h.cellAt _ (by omega)]
  exact hg
theorem BwRow.below {W w1 : World} {g : Nat} {l : List Bw} (h : BwRow W g l) (hb : Below W.heap.size W w1) : BwRow w1 g l :=
  fun k hk => ⟨cBelow hb (h k hk).1, cBelow hb (h k hk).2⟩
theorem BwRow.alloc {W : World} {g : Nat} {o : Obj} {l : List Bw} (h : BwRow W g l) : BwRow (W.alloc o) g l :=
  fun k hk => ⟨cAlloc (h k hk).1, cAlloc (h k hk).2⟩
theorem BwRow.set {W : World} {g : Nat} {a : Addr} {v : Value} {l : List Bw} (h : BwRow W g l) (hne : g ≠ a.block) : BwRow (W.setCell a v) g l :=
  fun k hk => ⟨cSet hne (h k hk).1, cSet hne (h k hk).2⟩
theorem BwRow.drew {W : World} {g : Nat} {l : List Bw} (h : BwRow W g l) : BwRow W.drew g l := h
theorem BwRow.grown {W w1 : World} {g : Nat} {l : List Bw} {r : Option Nat} (h : BwRow W g l) (hg : W.grownBy w1 r) (hne : r ≠ some g) : BwRow w1 g l := fun k hk => by
  obtain ⟨h0, h1⟩ := h k hk
  have hl := cell_lt h0
  have e : ∀ i, w1.cell? ⟨g, i, Option.none⟩ = W.cell? ⟨g, i, Option.none⟩ := fun i => World.cell?_of_block (hg.block g hl (fun e => hne e.symm))
  rw [e, e]
  exact ⟨h0, h1⟩
theorem BwIn.below {W w1 : World} {a : Option Addr} {l : List Bw} (h : BwIn W a l) (hb : Below W.heap.size W w1) : BwIn w1 a l := by
  rcases h with h | ⟨g, e, h⟩
  · exact .inl h
  · exact .inr ⟨g, e, h.below hb⟩
theorem BwIn.alloc {W : World} {a : Option Addr} {l : List Bw} {o : Obj} (h : BwIn W a l) : BwIn (W.alloc o) a l := by
  rcases h with h | ⟨g, e, h⟩
  · exact .inl h
  · exact .inr ⟨g, e, h.alloc⟩
theorem BwIn.drew {W : World} {a : Option Addr} {l : List Bw} (h : BwIn W a l) : BwIn W.drew a l := h
theorem infoB : (Tryz.prog.info? 59).map (fun i => (i.zero, i.size, i.bytes)) = some (some (.agg #[.complex .f32 0 0, .complex .f32 0 0]), 2, 16) := by kernel_rfl
theorem join_s {a1 a2 b1 b2 x y : Nat} (X : Op2 90 a1 b1 x) (Y : Op2 90 a2 b2 y) : Join 90 a1 a2 b1 b2 x y := ⟨fun w => by
  go_enter Tryz.func118, Tryz.ntmps118
  go_wp2_with (go_at_call 90; (first | (with_reducible refine (X.call _).mono ?_) | (with_reducible refine (Y.call _).mono ?_)); rintro e w1 ⟨rfl, rfl⟩)
  go_ret
  exact ⟨rfl, rfl⟩⟩
theorem join_p {a1 a2 b1 b2 x y : Nat} (X : Op2 91 a1 b1 x) (Y : Op2 91 a2 b2 y) : Join 91 a1 a2 b1 b2 x y := ⟨fun w => by
  go_enter Tryz.func118, Tryz.ntmps118
  go_wp2_with (go_at_call 91; (first | (with_reducible refine (X.call _).mono ?_) | (with_reducible refine (Y.call _).mono ?_)); rintro e w1 ⟨rfl, rfl⟩)
  go_ret
  exact ⟨rfl, rfl⟩⟩
end Go.Proofs.YtfdgijmmgllmgaaGreat
namespace Go.Proofs.YtfdgijmmgllmgaaGreat
open Go.ChangeShapes Go.WideShapes Go.ChangeAt Go.RowKit Go.Joins
set_option linter.unusedSimpArgs false
set_option linter.unusedVariables false
set_option maxRecDepth 100000
attribute [local go_sem] store_f
open Ieee Go.Lib
attribute [local go_sem] store_c
structure MoveM (kind : Int) (g1 g2 ls : Nat) (b c : Bw) (q : Bool) : Prop where
  call : ∀ (w : World) (a : Option Addr) (n cap : Nat), Calls Tryz.prog 204 #[.agg #[.int .i64 kind, .complex .f32 g1 g2, .float .f32 ls, .slice a n cap], .agg #[.complex .f32 b.a1 b.a2, .complex .f32 b.v1 b.v2]] w fun e w' => e = .returned (.tuple #[.agg #[.complex .f32 c.a1 c.a2, .complex .f32 c.v1 c.v2], .bool q, .bool true]) ∧ Below w.heap.size w w'
/-- What a tick makes of one bead. -/
structure Moves (kind : Int) (g1 g2 ls : Nat) (b c : Bw) (x y z1 z2 : Nat) (t : Int) (f : Bool) (u v k : Nat) : Prop where
  j1 : Join 90 b.v1 b.v2 g1 g2 x y
  j2 : Join 90 b.a1 b.a2 x y z1 z2
  fold : FoldM kind z1 z2 c.a1 c.a2 t f
  pt : PtIs x y true
  act : ActM t f x y u v
  kept : Op2 145 1065353216 ls k
  same : t = 0 → f = false → c.v1 = u ∧ c.v2 = v
  less : ¬ (t = 0 ∧ f = false) → Join 91 u v k k c.v1 c.v2
set_option maxHeartbeats 16000000 in
theorem move_i {kind : Int} {g1 g2 ls : Nat} {b c : Bw} {x y z1 z2 : Nat} {t : Int} {f : Bool} {u v k : Nat} (M : Moves kind g1 g2 ls b c x y z1 z2 t f u v k) : MoveM kind g1 g2 ls b c (decide (¬ (t = 0 ∧ f = false))) := ⟨fun w a n cap => by
  have J1 := M.j1
  have J2 := M.j2
  have F := M.fold
  have P := M.pt
  have A := M.act
  have D := M.kept
  go_enter Tryz.func204, Tryz.ntmps204
  go_wp2_with (go_at_call 118; (with_reducible refine (J1.call _).mono ?_); rintro e w1 ⟨rfl, rfl⟩)
  generalize hW : ((w.alloc (.cells #[.int .i64 kind, .complex .f32 g1 g2, .float .f32 ls, .slice a n cap] 31)).alloc (.cells #[.complex .f32 b.a1 b.a2, .complex .f32 b.v1 b.v2] 59)).alloc (.cells #[.complex .f32 0 0, .complex .f32 0 0] 59) = X
  have T0 : Blk X w.heap.size #[.int .i64 kind, .complex .f32 g1 g2, .float .f32 ls, .slice a n cap] 31 := by rw [← hW]; exact ((Blk.new _ _ _).alloc).alloc
  have B0 : Blk X (w.heap.size + 1) #[.complex .f32 b.a1 b.a2, .complex .f32 b.v1 b.v2] 59 := by rw [← hW]; exact (Blk.newAt (by simp)).alloc
  have R0 : Hid (Blk X (w.heap.size + 1 + 1) #[.complex .f32 0 0, .complex .f32 0 0] 59) := by rw [← hW]; exact Blk.newAt (by simp)
  have HB : Hid (Below w.heap.size w X) := by rw [← hW]; show Below w.heap.size w _; (repeat' (first | (with_reducible exact Below.refl _ _) | (with_reducible assumption) | (with_reducible refine Below.alloc ?_ ?_ _) | (with_reducible refine Below.drew ?_) | (with_reducible refine Below.setCell ?_ ?_ _) | (with_reducible refine Below.trans ?_ (Below.mono (by assumption) ?_)) | (with_reducible exact Nat.le_refl _) | omega | (simp only [World.size_alloc, World.size_setCell, World.size_drew]; omega) | (simp; omega) | (simp; done)))
  have sX : X.heap.size = w.heap.size + 3 := by rw [← hW]; simp
  clear hW
  have HT : Hid (Blk X w.heap.size #[.int .i64 kind, .complex .f32 g1 g2, .float .f32 ls, .slice a n cap] 31) := T0
  (have t0 := Blk.cellAt (i := 0) T0 rfl; have t1 := Blk.cellAt (i := 1) T0 rfl; have t2 := Blk.cellAt (i := 2) T0 rfl; have t3 := Blk.cellAt (i := 3) T0 rfl; simp only [List.getElem_toArray, List.getElem_cons_zero, List.getElem_cons_succ] at t0 t1 t2 t3)
  (have b0 := Blk.cellAt (i := 0) B0 rfl; have b1 := Blk.cellAt (i := 1) B0 rfl; simp only [List.getElem_toArray, List.getElem_cons_zero, List.getElem_cons_succ] at b0 b1)
  clear T0 B0 t1 t2 t3 b1
  have hX0 : Below X.heap.size X X := Below.refl _ _
  have hX1 : X.heap.size ≤ X.heap.size := Nat.le_refl _
  have l0 : w.heap.size < X.heap.size := by omega
  have l1 : w.heap.size + 1 < X.heap.size := by omega
  have l2 : w.heap.size + 2 < X.heap.size := by omega
  clear sX
  go_cut [8, 9, 10] (fun p8 p9 p10 wx => p8 = .complex .f32 c.a1 c.a2 ∧ p10 = .bool true ∧ ∃ nh : Nat, p9 = .pointer (some ⟨nh, 0, Option.none⟩) ∧ nh < wx.heap.size ∧ wx.cell? ⟨nh, 0, Option.none⟩ = some (.int .i64 (t)) ∧ wx.cell? ⟨nh, 1, Option.none⟩ = some (.bool (f)) ∧ Below X.heap.size X wx ∧ X.heap.size ≤ wx.heap.size)
  case first =>
    go_region_held3 (fun wx => Below X.heap.size X wx ∧ X.heap.size ≤ wx.heap.size ∧ w.heap.size < wx.heap.size ∧ w.heap.size + 1 < wx.heap.size ∧ wx.cell? ⟨w.heap.size, 0, Option.none⟩ = some (.int .i64 kind) ∧ wx.cell? ⟨w.heap.size + 1, 0, Option.none⟩ = some (.complex .f32 b.a1 b.a2))
      (((repeat' apply And.intro) <;> first | (with_reducible assumption) | (((repeat (first | (with_reducible assumption) | (with_reducible exact cNewAt (by first | rfl | (simp only [World.size_alloc, World.size_setCell, World.size_drew]; done) | omega) rfl) | (with_reducible exact sNewAt (by first | rfl | (simp only [World.size_alloc, World.size_setCell, World.size_drew]; done) | omega) rfl) | (simp; done) | (with_reducible apply cAlloc) | (with_reducible apply cDrew) | (with_reducible refine cSet (by dsimp only; omega) ?_) | (with_reducible refine cSetOff (by dsimp only; omega) ?_) | (with_reducible apply cSame) | (with_reducible refine cBelow (by assumption) ?_) | (with_reducible apply sAlloc) | (with_reducible apply sDrew) | (with_reducible refine sBelow (by assumption) ?_) | (with_reducible refine sSet (by dsimp only; omega) ?_))); first | done | (simp [*]; done)); done) | (simp only [World.size_alloc, World.size_setCell, World.size_drew]; omega) | omega | (go_keep; done) | ((repeat' (first | (with_reducible exact Below.refl _ _) | (with_reducible assumption) | (with_reducible refine Below.alloc ?_ ?_ _) | (with_reducible refine Below.drew ?_) | (with_reducible refine Below.setCell ?_ ?_ _) | (with_reducible refine Below.trans ?_ (Below.mono (by assumption) ?_)) | (with_reducible exact Nat.le_refl _) | omega | (simp only [World.size_alloc, World.size_setCell, World.size_drew]; omega) | (simp; omega) | (simp; done))); done)))
      (first | (go_at_call 118; (with_reducible refine (J2.call _).mono ?_); rintro e w2 ⟨rfl, rfl⟩) | (go_at_call 22; (with_reducible refine (F.call _).mono ?_); rintro e w3 ⟨rfl, hb⟩; have hbs := hb.size; (try simp only [World.size_alloc, World.size_setCell, World.size_drew] at hbs); (try ((first | have hN := Blk.belowAt hb hN | have hN := Blk.belowAt hb (Blk.drew (Blk.new _ _ _)) | have hN := Blk.belowAt hb (Blk.new _ _ _)); (try simp only [World.size_drew] at hN); have y0 := Blk.cellAt (i := 0) hN rfl; have y1 := Blk.cellAt (i := 1) hN rfl; simp only [List.getElem_toArray, List.getElem_cons_zero, List.getElem_cons_succ] at y0 y1; have z0 := hN.free 0; have z1 := hN.free 1; have zl := hN.lt))))
    all_goals (go_wp2_with fail; go_meet; refine ⟨rfl, rfl, _, rfl, ?_⟩; ((repeat' apply And.intro) <;> first | (with_reducible assumption) | (((repeat (first | (with_reducible assumption) | (with_reducible exact cNewAt (by first | rfl | (simp only [World.size_alloc, World.size_setCell, World.size_drew]; done) | omega) rfl) | (with_reducible exact sNewAt (by first | rfl | (simp only [World.size_alloc, World.size_setCell, World.size_drew]; done) | omega) rfl) | (simp; done) | (with_reducible apply cAlloc) | (with_reducible apply cDrew) | (with_reducible refine cSet (by dsimp only; omega) ?_) | (with_reducible refine cSetOff (by dsimp only; omega) ?_) | (with_reducible apply cSame) | (with_reducible refine cBelow (by assumption) ?_) | (with_reducible apply sAlloc) | (with_reducible apply sDrew) | (with_reducible refine sBelow (by assumption) ?_) | (with_reducible refine sSet (by dsimp only; omega) ?_))); first | done | (simp [*]; done)); done) | (simp only [World.size_alloc, World.size_setCell, World.size_drew]; omega) | omega | (go_keep; done) | ((repeat' (first | (with_reducible exact Below.refl _ _) | (with_reducible assumption) | (with_reducible refine Below.alloc ?_ ?_ _) | (with_reducible refine Below.drew ?_) | (with_reducible refine Below.setCell ?_ ?_ _) | (with_reducible refine Below.trans ?_ (Below.mono (by assumption) ?_)) | (with_reducible exact Nat.le_refl _) | omega | (simp only [World.size_alloc, World.size_setCell, World.size_drew]; omega) | (simp; omega) | (simp; done))); done)))
  case rest =>
    obtain ⟨rfl, rfl, nh, rfl, hnh, s0, s1, hbel, hsz⟩ := hcut
    have HS : Hid (wc.cell? ⟨nh, 0, Option.none⟩ = some (.int .i64 (t)) ∧ wc.cell? ⟨nh, 1, Option.none⟩ = some (.bool (f))) := ⟨s0, s1⟩
    have HTC : Hid (Blk wc w.heap.size #[.int .i64 kind, .complex .f32 g1 g2, .float .f32 ls, .slice a n cap] 31) := HT.out.below hbel
    have HRC : Hid (Blk wc (w.heap.size + 1 + 1) #[.complex .f32 0 0, .complex .f32 0 0] 59) := R0.out.below hbel
    have HBC : Hid (Below w.heap.size w wc) := HB.out.trans (hbel.mono (by omega))
    have hls : w.heap.size ≤ wc.heap.size := by omega
    clear hbel t0 b0 hX0 HT R0 HB hX1 l0 l1 l2 hsz
    go_wp2_with (go_at_call 49; (with_reducible refine (P.call _).mono ?_); rintro e w4 ⟨rfl, rfl⟩)
    refine (A.call _).mono ?_
    rintro e w5 ⟨rfl, hb⟩
    have q0 := cBelow hb HS.out.1
    have q1 := cBelow hb HS.out.2
    have HT5 : Hid (Blk w5 w.heap.size #[.int .i64 kind, .complex .f32 g1 g2, .float .f32 ls, .slice a n cap] 31) := HTC.out.below hb
    have HR5 : Hid (Blk w5 (w.heap.size + 1 + 1) #[.complex .f32 0 0, .complex .f32 0 0] 59) := HRC.out.below hb
    have HB5 : Hid (Below w.heap.size w w5) := HBC.out.trans (hb.mono hls)
    have hn5 : nh < w5.heap.size := Nat.lt_of_lt_of_le hnh hb.size
    have RS := (HR5.out.set (i := 0) (v := .complex .f32 c.a1 c.a2)).set (i := 1) (v := .complex .f32 c.v1 c.v2)
    have e0 := RS.cell 0
    have e1 := RS.cell 1
    simp only [List.setIfInBounds_toArray, List.set_cons_zero, List.set_cons_succ, List.getElem?_toArray, List.getElem?_cons_zero, List.getElem?_cons_succ] at e0 e1
    have E0 := Lib.hid e0
    have E1 := Lib.hid e1
    clear hb s0 s1 HS HTC HRC HBC hls hnh RS e0 e1
    (have t0 := Blk.cellAt (i := 0) HT5.out rfl; have t1 := Blk.cellAt (i := 1) HT5.out rfl; have t2 := Blk.cellAt (i := 2) HT5.out rfl; have t3 := Blk.cellAt (i := 3) HT5.out rfl; simp only [List.getElem_toArray, List.getElem_cons_zero, List.getElem_cons_succ] at t0 t1 t2 t3)
    (have r0 := Blk.cellAt (i := 0) HR5.out rfl; have r1 := Blk.cellAt (i := 1) HR5.out rfl; simp only [List.getElem_toArray, List.getElem_cons_zero, List.getElem_cons_succ] at r0 r1)
    have f0 := HR5.out.free 0
    have f1 := HR5.out.free 1
    have lr := HR5.out.lt
    have lt5 := HT5.out.lt
    have SAME : Hid (t = 0 → f = false → c.v1 = u ∧ c.v2 = v) := M.same
    have LESS : Hid (¬ (t = 0 ∧ f = false) → Join 91 u v k k c.v1 c.v2) := M.less
    clear M t1 t3
    by_cases h0 : t = 0
    · subst h0
      cases f
      · obtain ⟨v1, v2⟩ := SAME.out rfl rfl
        have V1 := Lib.hid v1
        have V2 := Lib.hid v2
        clear v1 v2
        go_wp2_with fail
        have e0 := E0.out
        have e1 := E1.out
        rw [V1.out, V2.out] at *
        exact bodyPost_ret (v := .tuple #[.agg #[.complex .f32 c.a1 c.a2, .complex .f32 u v], .bool false, .bool true]) (by simp [results, Tryz.results204, go_sem, e0, e1]) rfl ⟨by simp, (HB5.out.setCell (by dsimp only; omega) _).setCell (by dsimp only; omega) _⟩
      · have J3 := LESS.out (by simp)
        go_wp2_with (first | (go_at_call 145; (with_reducible refine (D.call _).mono ?_); rintro e w6 ⟨rfl, rfl⟩) | (go_at_call 118; (with_reducible refine (J3.call _).mono ?_); rintro e w7 ⟨rfl, rfl⟩))
        have e0 := E0.out
        have e1 := E1.out
        exact bodyPost_ret (v := .tuple #[.agg #[.complex .f32 c.a1 c.a2, .complex .f32 c.v1 c.v2], .bool true, .bool true]) (by simp [results, Tryz.results204, go_sem, e0, e1]) rfl ⟨by simp, (HB5.out.setCell (by dsimp only; omega) _).setCell (by dsimp only; omega) _⟩
    · have J3 := LESS.out (fun h => h0 h.1)
      have h0' : (t == 0) = false := by simpa using h0
      go_wp2_with (first | (go_at_call 145; (with_reducible refine (D.call _).mono ?_); rintro e w6 ⟨rfl, rfl⟩) | (go_at_call 118; (with_reducible refine (J3.call _).mono ?_); rintro e w7 ⟨rfl, rfl⟩))
      have e0 := E0.out
      have e1 := E1.out
      exact bodyPost_ret (v := .tuple #[.agg #[.complex .f32 c.a1 c.a2, .complex .f32 c.v1 c.v2], .bool true, .bool true]) (by simp [results, Tryz.results204, go_sem, e0, e1]) rfl ⟨by simp [h0], (HB5.out.setCell (by dsimp only; omega) _).setCell (by dsimp only; omega) _⟩⟩
end Go.Proofs.YtfdgijmmgllmgaaGreat
