/-
  Texts of this proof, joined: Lall, Gb, Gc, Pw, Sao, Stwo, Aw, Iw, Sro, Sha.
-/
import Derived.Test.YtekkgpanmccdgaaK02
import Derived.Maps.AppendAt
import Derived.Test.YtekkgpanmccdgaaK09
import Derived.Test.YtekkgpanmccdgaaK08
import Derived.Deep.QuietTactic
import Derived.BigQuiet
/-
  The eight symmetries in order, as the model lists them.
-/
namespace Go.Proofs.Ytekkgpanmccdgaa
open Go.ChangeShapes Go.WideShapes Go.ChangeAt Go.RowKit Go.Joins 
set_option linter.unusedSimpArgs false
set_option linter.unusedVariables false
/-- The k-th of the eight symmetries in order. -/
def symK (k : Nat) : Int × Bool := ((k : Int) % 4, decide (4 ≤ (k : Int)))
/-- Symmetries as cells. -/
def symCells (l : List (Int × Bool)) : List Value := l.flatMap fun p => [.int .i64 p.1, .bool p.2]
theorem symCells_len (l : List (Int × Bool)) : (symCells l).length = l.length * 2 := by
  induction l with
  | nil => rfl
  | cons p l ih => simp [symCells] at ih ⊢; omega
theorem symCells_snoc (l : List (Int × Bool)) (p : Int × Bool) : symCells (l ++ [p]) = symCells l ++ [.int .i64 p.1, .bool p.2] := by simp [symCells]
theorem infoSym : (Try.prog.info? 49).map (fun i => (i.zero, i.size, i.bytes)) = some (some (.agg #[.int .i64 0, .bool false]), 2, 16) := by kernel_rfl
/-- The first k of the eight symmetries. -/
def allTo (k : Nat) : List (Int × Bool) := (List.range k).map symK
theorem allTo_succ (k : Nat) : allTo (k + 1) = allTo k ++ [symK k] := by simp [allTo, List.range_succ]
theorem allTo_len (k : Nat) : (allTo k).length = k := by simp [allTo]
theorem symCells_at (k : Nat) (hk : k < 8) : (symCells (allTo 8))[k * 2]? = some (.int .i64 (symK k).1) ∧ (symCells (allTo 8))[k * 2 + 1]? = some (.bool (symK k).2) := by
  rcases (by omega : k = 0 ∨ k = 1 ∨ k = 2 ∨ k = 3 ∨ k = 4 ∨ k = 5 ∨ k = 6 ∨ k = 7) with rfl | rfl | rfl | rfl | rfl | rfl | rfl | rfl <;> exact ⟨rfl, rfl⟩

set_option maxHeartbeats 1600000 in
set_option maxRecDepth 1000000 in
theorem l1All_s (w : World) :
    Calls Try.prog 73 #[] w fun e w' => ∃ g cap, e = .returned (.slice (some ⟨g, 0, Option.none⟩) 8 cap) ∧ w'.ownsRow w.heap.size 49 2 (.slice (some ⟨g, 0, Option.none⟩) 8 cap) 8 (symCells (allTo 8)) ∧ Below w.heap.size w w' := by
  obtain ⟨i0, hi, hz0, hz1, hz2⟩ := info_parts infoSym
  go_enter Try.func73, Try.ntmps73
  go_wp2
  go_loopw [1, 2] (fun v i wr => ∃ k : Nat, k ≤ 8 ∧ i = .int .i64 k ∧ wr.ownsRow w.heap.size 49 2 v k (symCells (allTo k)) ∧ Below w.heap.size w wr)
    (fun _ i _ => 8 - (intOf i).toNat)
  case atStart => exact ⟨0, by omega, rfl, World.ownsRow_lit _ #[] 0 (by simp) (by unfold maxLen; omega) rfl, by (repeat' (first | (with_reducible exact Below.refl _ _) | (with_reducible assumption) | (with_reducible refine Below.alloc ?_ ?_ _) | (with_reducible refine Below.drew ?_) | (with_reducible refine Below.setCell ?_ ?_ _) | (with_reducible refine Below.trans ?_ (Below.mono (by assumption) ?_)) | (with_reducible exact Nat.le_refl _) | omega | (simp only [World.size_alloc, World.size_setCell, World.size_drew]; omega) | (simp; omega) | (simp; done)))⟩
  case round =>
    obtain ⟨k, hk, rfl, hown, hbel⟩ := hrel
    have hbase := hbel.size
    by_cases hlt : k < 8
    · have HY : Hid (allTo (k + 1) = allTo k ++ [symK k]) := allTo_succ k
      go_wp2_with (at_builtin; go_loud (refine wpList_append_own _ rfl _ _ 100 rfl w.heap.size 49 i0 (.agg #[.int .i64 0, .bool false]) 2 16 Try.underlying100 hi hz0 hz1 hz2 rfl (by decide) _ k (symCells (allTo k)) rfl ?hown ⟨wr.heap.size, 0, Option.none⟩ 1 1 [.int .i64 (symK k).1, .bool (symK k).2] rfl rfl ?c1 ?c2 ?c3 ?c4 ?c5 ?_))
      case hown => (change World.ownsRow _ _ _ _ u1 _ _; (repeat (first | (with_reducible assumption) | (with_reducible refine World.ownsRow.alloc ?_ _) | (with_reducible refine World.ownsRow.drew ?_) | (with_reducible refine ownsBelow (by assumption) ?_))))
      case c1 =>
        intro j u hj
        rcases j with _ | _ | j <;> simp [symK] at hj <;> subst hj <;> simp [Addr.add]
      case c2 =>
        intro u hu
        simp at hu
        rcases hu with rfl | rfl <;> rfl
      case c3 => (unfold maxLen; omega)
      case c4 => omega
      case c5 => first | omega | (simp only [World.size_alloc, World.size_setCell, World.size_drew]; omega)
      intro v' w2 hown' hgrow _
      have hb2 : Below w.heap.size w w2 := Below.grown (by (repeat' (first | (with_reducible exact Below.refl _ _) | (with_reducible assumption) | (with_reducible refine Below.alloc ?_ ?_ _) | (with_reducible refine Below.drew ?_) | (with_reducible refine Below.setCell ?_ ?_ _) | (with_reducible refine Below.trans ?_ (Below.mono (by assumption) ?_)) | (with_reducible exact Nat.le_refl _) | omega | (simp only [World.size_alloc, World.size_setCell, World.size_drew]; omega) | (simp; omega) | (simp; done)))) hgrow (by first | omega | (simp only [World.size_alloc, World.size_setCell, World.size_drew]; omega)) (fun q hq => (hown.lt q hq).1)
      clear hgrow
      go_wp2
      go_roundw
      case rel => exact ⟨k + 1, by omega, by go_num, by rw [HY.out, symCells_snoc]; simpa using hown', hb2⟩
      case measure => simp [intOf]; omega
    · have hk8 : k = 8 := by omega
      subst hk8
      obtain ⟨g, cap, rfl⟩ := ownsRow_form hown (by omega)
      go_wp2
      go_ret
      exact ⟨_, _, rfl, hown, hbel⟩
end Go.Proofs.Ytekkgpanmccdgaa

/-
  Shards as they lie in memory; which points and shards are valid.
-/
namespace Go.Proofs.Ytekkgpanmccdgaa
open Go.ChangeShapes Go.WideShapes Go.ChangeAt Go.RowKit Go.Joins
set_option linter.unusedSimpArgs false
set_option linter.unusedVariables false
set_option maxRecDepth 100000
attribute [local go_sem] store_f
open Ieee

/-- A shard: the parts of its corners, its glass. -/
structure Shd where
  a1 : Nat
  a2 : Nat
  b1 : Nat
  b2 : Nat
  c1 : Nat
  c2 : Nat
  r : Nat
  g : Nat
  b : Nat
  k : Nat
instance : Inhabited Shd := ⟨⟨0, 0, 0, 0, 0, 0, 0, 0, 0, 0⟩⟩
def Shd.cells (s : Shd) : List Value := [.complex .f32 s.a1 s.a2, .complex .f32 s.b1 s.b2, .complex .f32 s.c1 s.c2, .float .f32 s.r, .float .f32 s.g, .float .f32 s.b, .float .f32 s.k]
def shCells (l : List Shd) : List Value := l.flatMap Shd.cells
theorem shCells_len (l : List Shd) : (shCells l).length = l.length * 7 := by
  induction l with
  | nil => rfl
  | cons p l ih => simp [shCells, Shd.cells] at ih ⊢; omega
theorem shCells_snoc (l : List Shd) (s : Shd) : shCells (l ++ [s]) = shCells l ++ s.cells := by simp [shCells]

/-- The cells of a list of shards, from a place of a block on. -/
def ShRow (W : World) (b off : Nat) (l : List Shd) : Prop :=
  ∀ k, k < l.length → W.cell? ⟨b, (off + k * 7), Option.none⟩ = some (.complex .f32 (l.getD k default).a1 (l.getD k default).a2) ∧ W.cell? ⟨b, (off + k * 7) + 1, Option.none⟩ = some (.complex .f32 (l.getD k default).b1 (l.getD k default).b2) ∧ W.cell? ⟨b, (off + k * 7) + 2, Option.none⟩ = some (.complex .f32 (l.getD k default).c1 (l.getD k default).c2) ∧ W.cell? ⟨b, (off + k * 7) + 3, Option.none⟩ = some (.float .f32 (l.getD k default).r) ∧ W.cell? ⟨b, (off + k * 7) + 4, Option.none⟩ = some (.float .f32 (l.getD k default).g) ∧ W.cell? ⟨b, (off + k * 7) + 5, Option.none⟩ = some (.float .f32 (l.getD k default).b) ∧ W.cell? ⟨b, (off + k * 7) + 6, Option.none⟩ = some (.float .f32 (l.getD k default).k)
/-- A list of shards as a slice shows it. -/
def RowAt (W : World) (a : Option Addr) (l : List Shd) : Prop :=
  l = [] ∨ ∃ b off, a = some ⟨b, off, Option.none⟩ ∧ ShRow W b off l

theorem ShRow.below {W w1 : World} {b off : Nat} {l : List Shd} (h : ShRow W b off l) (hb : Below W.heap.size W w1) : ShRow w1 b off l := fun k hk => by
  obtain ⟨h0, h1, h2, h3, h4, h5, h6⟩ := h k hk
  exact ⟨cBelow hb h0, cBelow hb h1, cBelow hb h2, cBelow hb h3, cBelow hb h4, cBelow hb h5, cBelow hb h6⟩
theorem ShRow.grown {W w1 : World} {b off : Nat} {l : List Shd} {r : Option Nat} (h : ShRow W b off l) (hg : W.grownBy w1 r) (hne : r ≠ some b) : ShRow w1 b off l := fun k hk => by
  obtain ⟨h0, h1, h2, h3, h4, h5, h6⟩ := h k hk
  have hl := cell_lt h0
  have e : ∀ i, w1.cell? ⟨b, i, Option.none⟩ = W.cell? ⟨b, i, Option.none⟩ := fun i => World.cell?_of_block (hg.block b hl (fun e => hne e.symm))
  rw [e, e, e, e, e, e, e]
  exact ⟨h0, h1, h2, h3, h4, h5, h6⟩
theorem ShRow.set {W : World} {b off : Nat} {a : Addr} {v : Value} {l : List Shd} (h : ShRow W b off l) (hne : b ≠ a.block) : ShRow (W.setCell a v) b off l := fun k hk => by
  obtain ⟨h0, h1, h2, h3, h4, h5, h6⟩ := h k hk
  exact ⟨cSet hne h0, cSet hne h1, cSet hne h2, cSet hne h3, cSet hne h4, cSet hne h5, cSet hne h6⟩
theorem RowAt.below {W w1 : World} {a : Option Addr} {l : List Shd} (h : RowAt W a l) (hb : Below W.heap.size W w1) : RowAt w1 a l := by
  rcases h with h | ⟨b, off, e, h⟩
  · exact .inl h
  · exact .inr ⟨b, off, e, h.below hb⟩

theorem shCells_get : ∀ (l : List Shd) (k : Nat), k < l.length → ∀ j, j < 7 → (shCells l)[k * 7 + j]? = (l.getD k default).cells[j]?
  | p :: l, 0, _, j, hj => by
    have e : shCells (p :: l) = p.cells ++ shCells l := rfl
    rw [e, Nat.zero_mul, Nat.zero_add, List.getElem?_append_left (by simp [Shd.cells]; omega)]
    rfl
  | p :: l, k + 1, h, j, hj => by
    have ih := shCells_get l k (by simpa using h) j hj
    have e : shCells (p :: l) = p.cells ++ shCells l := rfl
    have hl : p.cells.length = 7 := rfl
    rw [e, List.getElem?_append_right (by omega), hl, show (k + 1) * 7 + j - 7 = k * 7 + j by omega, ih]
    rfl
theorem ShRow.left {W : World} {b off : Nat} {l : List Shd} (h : ShRow W b off l) (n : Nat) : ShRow W b off (l.take n) := fun k hk => by
  have h1 : k < l.length := by simp at hk; omega
  have h2 : k < n := by simp at hk; omega
  have e : (l.take n).getD k default = l.getD k default := by simp [List.getD, h2]
  rw [e]; exact h k h1
theorem ShRow.right {W : World} {b off : Nat} {l : List Shd} (h : ShRow W b off l) (n : Nat) : ShRow W b (off + n * 7) (l.drop n) := fun k hk => by
  have h1 : n + k < l.length := by simp at hk; omega
  have e : (l.drop n).getD k default = l.getD (n + k) default := by simp [List.getD]
  have e2 : off + n * 7 + k * 7 = off + (n + k) * 7 := by omega
  rw [e, e2]; exact h (n + k) h1

/-- Is it a point? -/
def ptB (x y : Nat) : Bool := inB x && inB y
def shardB (s : Shd) : Bool := ptB s.a1 s.a2 && ptB s.b1 s.b2 && ptB s.c1 s.c2 && colB s.r s.g s.b && shareB s.k
/-- A shard of 32-bit words that is valid. -/
structure Shd.Ok (s : Shd) : Prop where
  a1 : Rch s.a1
  a2 : Rch s.a2
  b1 : Rch s.b1
  b2 : Rch s.b2
  c1 : Rch s.c1
  c2 : Rch s.c2
  r : Part s.r
  g : Part s.g
  b : Part s.b
  k : Part s.k
theorem parts_col {r g b : Nat} (hr : Part r) (hg : Part g) (hb : Part b) : colB r g b = true := by
  unfold colB; rw [part_share hr, part_share hg, part_share hb]; rfl
theorem Shd.Ok.yes {s : Shd} (h : s.Ok) : shardB s = true := by
  unfold shardB ptB
  rw [h.a1.inb, h.a2.inb, h.b1.inb, h.b2.inb, h.c1.inb, h.c2.inb, parts_col h.r h.g h.b, part_share h.k]; rfl

structure PtIs (x y : Nat) (p : Bool) : Prop where
  call : ∀ w : World, Calls Try.prog 54 #[.complex .f32 x y] w fun e w' => e = .returned (.bool p) ∧ w' = w
theorem ptIs (x y : Nat) : PtIs x y (ptB x y) := ⟨fun w => by
  unfold ptB
  cases hx : inB x
  all_goals
    go_enter Try.func54, Try.ntmps54
    go_wp2_with (go_at_call 102; refine (inReach_i _ _).mono ?_; rintro e w1 ⟨rfl, rfl⟩)
    all_goals (go_ret; exact ⟨by simp_all, rfl⟩)⟩

end Go.Proofs.Ytekkgpanmccdgaa

/-
  Is it a shard? The side of a point.
-/
namespace Go.Proofs.Ytekkgpanmccdgaa
open Go.ChangeShapes Go.WideShapes Go.ChangeAt Go.RowKit Go.Joins
set_option linter.unusedSimpArgs false
set_option linter.unusedVariables false
set_option maxRecDepth 100000
attribute [local go_sem] store_f
open Ieee

structure ColIs (r g b : Nat) (p : Bool) : Prop where
  call : ∀ w : World, Calls Try.prog 87 #[.agg #[.float .f32 r, .float .f32 g, .float .f32 b]] w fun e w' => e = .returned (.bool p) ∧ Below w.heap.size w w'
theorem colIs (r g b : Nat) : ColIs r g b (colB r g b) := ⟨fun w => isColour_i r g b w⟩
structure ShareIs (k : Nat) (p : Bool) : Prop where
  call : ∀ w : World, Calls Try.prog 55 #[.float .f32 k] w fun e w' => e = .returned (.bool p) ∧ w' = w
theorem shareIs (k : Nat) : ShareIs k (shareB k) := ⟨fun w => isShare_i k w⟩
/-- An operation on two singles. -/
structure Op2 (F : FuncId) (a b r : Nat) : Prop where
  call : ∀ w : World, Calls Try.prog F #[.float .f32 a, .float .f32 b] w fun e w' => e = .returned (.float .f32 r) ∧ w' = w
theorem diff2 {a b : Nat} (ha : Fin32 a) (hb : Fin32 b) : Op2 128 a b (clT (valOf F32 a - valOf F32 b)) := ⟨fun w => by
  obtain ⟨r, e, h⟩ := sub_cl ha hb
  rw [← h]; exact differenceOf_i a b r w e⟩
theorem sum2 {a b : Nat} (ha : Fin32 a) (hb : Fin32 b) : Op2 63 a b (clT (valOf F32 a + valOf F32 b)) := ⟨fun w => by
  obtain ⟨r, e, h⟩ := add_cl ha hb
  rw [← h]; exact sumOf_i a b r w e⟩
theorem prod2 {a b : Nat} (ha : Fin32 a) (hb : Fin32 b) : Op2 64 a b (clM (valOf F32 a * valOf F32 b)) := ⟨fun w => by
  obtain ⟨r, e, h⟩ := mul_cl ha hb
  rw [← h]; exact productOf_i a b r w e⟩

structure Join (F : FuncId) (a1 a2 b1 b2 x y : Nat) : Prop where
  call : ∀ w : World, Calls Try.prog 66 #[.complex .f32 a1 a2, .complex .f32 b1 b2, .func (.func F) #[] #[]] w fun e w' => e = .returned (.complex .f32 x y) ∧ w' = w
theorem ptYes {x y : Nat} (hx : inB x = true) (hy : inB y = true) : PtIs x y true := by
  have h := ptIs x y
  unfold ptB at h
  rwa [hx, hy] at h
end Go.Proofs.Ytekkgpanmccdgaa

/-
  Points in reach as a type.
-/
namespace Go.Proofs.Ytekkgpanmccdgaa
open Go.ChangeShapes Go.WideShapes Go.ChangeAt Go.RowKit Go.Joins
set_option linter.unusedSimpArgs false
set_option linter.unusedVariables false
set_option maxRecDepth 100000
attribute [local go_sem] store_f
open Ieee Go.Lib

/-- A point whose parts are finite words of 32 bits in reach, 0 being +0. -/
abbrev PtW := { p : Nat × Nat // Pt p.1 ∧ Pt p.2 }
instance : Inhabited PtW := ⟨⟨(0, 0), ⟨⟨cl_zero, ok_zero⟩, ⟨cl_zero, ok_zero⟩⟩⟩⟩
/-- The point as the value that it is in memory. -/
def encP (p : PtW) : Value := .complex .f32 p.1.1 p.1.2
/-- The values of the parts. -/
def vX (p : PtW) : Int := valOf F32 p.1.1
def vY (p : PtW) : Int := valOf F32 p.1.2
theorem cl_inj {x y : Nat} (hx : Cl x) (hy : Cl y) (h : valOf F32 x = valOf F32 y) : x = y := by
  by_cases h0 : rungOf F32 x = 0
  · have h1 := val_eq_zero.2 h0
    rw [h1] at h
    rw [hx.zero h0, hy.zero (val_eq_zero.1 h.symm)]
  · have e1 : magOf F32 (rungOf F32 x) = magOf F32 (rungOf F32 y) := by
      unfold valOf at h
      split at h <;> split at h <;> omega
    have e2 : rungOf F32 x = rungOf F32 y := magOf_inj F32 e1
    have hp : 0 < magOf F32 (rungOf F32 x) := magOf_pos (by omega)
    have e3 : negOf F32 x = negOf F32 y := by
      unfold valOf at h
      cases hnx : negOf F32 x <;> cases hny : negOf F32 y <;> simp [hnx, hny] at h ⊢ <;> omega
    rw [← word_of F32 (w := x) (by rw [F32_w]; exact hx.lt), ← word_of F32 (w := y) (by rw [F32_w]; exact hy.lt), e2, e3]
theorem ptW_inj {p q : PtW} (h1 : vX p = vX q) (h2 : vY p = vY q) : p = q := by
  apply Subtype.ext
  apply Prod.ext
  · exact cl_inj p.2.1.cl q.2.1.cl h1
  · exact cl_inj p.2.2.cl q.2.2.cl h2
theorem eq_words {x y : Nat} (hx : Cl x) (hy : Cl y) : (FloatKind.f32.format.order x y == some .eq) = decide (x = y) := by
  show (F32.order x y == some .eq) = _
  rw [order_fin F32 hx.fin hy.fin, cmp_eq]
  by_cases h : x = y
  · subst h; simp
  · have : ¬ valOf F32 x = valOf F32 y := fun e => h (cl_inj hx hy e)
    simp [h, this]
theorem eq_points (p q : PtW) : ((FloatKind.f32.format.order p.1.1 q.1.1 == some .eq) && (FloatKind.f32.format.order p.1.2 q.1.2 == some .eq)) = decide (p = q) := by
  rw [eq_words p.2.1.cl q.2.1.cl, eq_words p.2.2.cl q.2.2.cl]
  by_cases h : p = q
  · subst h; simp
  · have : ¬ (p.1.1 = q.1.1 ∧ p.1.2 = q.1.2) := fun e => h (Subtype.ext (Prod.ext e.1 e.2))
    simp only [h, decide_false]
    simp only [Bool.and_eq_false_iff, decide_eq_false_iff_not]
    omega
end Go.Proofs.Ytekkgpanmccdgaa

/-
  Contracts of the program on the symmetries of mirrors.
-/
namespace Go.Proofs.Ytekkgpanmccdgaa
open Go.ChangeShapes Go.WideShapes Go.ChangeAt Go.RowKit Go.Joins 
set_option linter.unusedSimpArgs false
set_option linter.unusedVariables false
/-- Is a symmetry one of mirrors of a kind? -/
def ofB (kind t : Int) (f : Bool) : Bool :=
  isSymB t && (if kind = 0 then t == 0 && !f else if kind = 1 then t == 0 else if kind = 2 then t % 2 == 0 else kind == 3)

theorem symAt_i (k : Nat) (w : World) (hk : k < 8) :
    Calls Try.prog 104 #[.int .i64 k] w fun e w' => e = .returned (.agg #[.int .i64 ((k : Int) % 4), .bool (decide (4 ≤ (k : Int)))]) ∧ Below w.heap.size w w' := by
  go_enter Try.func104, Try.ntmps104
  go_wp2
  go_returns; exact ⟨by first | rfl | (simp; omega), by (repeat' (first | (with_reducible exact Below.refl _ _) | (with_reducible assumption) | (with_reducible refine Below.alloc ?_ ?_ _) | (with_reducible refine Below.drew ?_) | (with_reducible refine Below.setCell ?_ ?_ _) | (with_reducible refine Below.trans ?_ (Below.mono (by assumption) ?_)) | (with_reducible exact Nat.le_refl _) | omega | (simp only [World.size_alloc, World.size_setCell, World.size_drew]; omega) | (simp; omega) | (simp; done)))⟩

theorem isSymOf_i (kind t : Int) (f : Bool) (w : World) :
    Calls Try.prog 105 #[.int .i64 kind, .agg #[.int .i64 t, .bool f]] w fun e w' => e = .returned (.bool (ofB kind t f)) ∧ Below w.heap.size w w' := by
  by_cases ht : isSymB t = true
  · obtain ⟨h1, h2⟩ := isSymB_iff.1 ht
    by_cases k0 : kind = 0
    · subst k0
      by_cases t0 : t = 0
      · subst t0
        have e : ofB 0 0 f = !f := by simp [ofB, isSymB]
        rw [e]
        cases f
        all_goals
          go_enter Try.func105, Try.ntmps105
          go_wp2_with (first | (go_at_call 60; refine (isSym_i _ _ _).mono ?_; rintro e w1 ⟨rfl, hb⟩; obtain ⟨hc, hf⟩ := bcell hb; have HL := keepL (by (repeat (first | (with_reducible assumption) | (with_reducible apply AllLt.alloc) | (with_reducible apply AllLt.setCell) | (with_reducible apply AllLt.drew) | (with_reducible exact AllLt.nil _)))) hb; have hq := HL; simp only [AllLt, and_true, World.size_alloc, World.size_setCell, World.size_drew] at hq; have hbs := hb.size; try simp only [World.size_alloc, World.size_setCell, World.size_drew] at hbs))
          go_returns; exact ⟨rfl, by (repeat' (first | (with_reducible exact Below.refl _ _) | (with_reducible assumption) | (with_reducible refine Below.alloc ?_ ?_ _) | (with_reducible refine Below.drew ?_) | (with_reducible refine Below.setCell ?_ ?_ _) | (with_reducible refine Below.trans ?_ (Below.mono (by assumption) ?_)) | (with_reducible exact Nat.le_refl _) | omega | (simp only [World.size_alloc, World.size_setCell, World.size_drew]; omega) | (simp; omega) | (simp; done)))⟩
      · have e : ofB 0 t f = false := by simp [ofB, t0]
        rw [e]
        have t1 : (t == 0) = false := by simpa using t0
        cases f
        all_goals
          go_enter Try.func105, Try.ntmps105
          go_wp2_with (first | (go_at_call 60; refine (isSym_i _ _ _).mono ?_; rintro e w1 ⟨rfl, hb⟩; obtain ⟨hc, hf⟩ := bcell hb; have HL := keepL (by (repeat (first | (with_reducible assumption) | (with_reducible apply AllLt.alloc) | (with_reducible apply AllLt.setCell) | (with_reducible apply AllLt.drew) | (with_reducible exact AllLt.nil _)))) hb; have hq := HL; simp only [AllLt, and_true, World.size_alloc, World.size_setCell, World.size_drew] at hq; have hbs := hb.size; try simp only [World.size_alloc, World.size_setCell, World.size_drew] at hbs))
          go_returns; exact ⟨rfl, by (repeat' (first | (with_reducible exact Below.refl _ _) | (with_reducible assumption) | (with_reducible refine Below.alloc ?_ ?_ _) | (with_reducible refine Below.drew ?_) | (with_reducible refine Below.setCell ?_ ?_ _) | (with_reducible refine Below.trans ?_ (Below.mono (by assumption) ?_)) | (with_reducible exact Nat.le_refl _) | omega | (simp only [World.size_alloc, World.size_setCell, World.size_drew]; omega) | (simp; omega) | (simp; done)))⟩
    · by_cases k1 : kind = 1
      · subst k1
        have e : ofB 1 t f = (t == 0) := by simp [ofB, ht]
        rw [e]
        go_enter Try.func105, Try.ntmps105
        go_wp2_with (first | (go_at_call 60; refine (isSym_i _ _ _).mono ?_; rintro e w1 ⟨rfl, hb⟩; obtain ⟨hc, hf⟩ := bcell hb; have HL := keepL (by (repeat (first | (with_reducible assumption) | (with_reducible apply AllLt.alloc) | (with_reducible apply AllLt.setCell) | (with_reducible apply AllLt.drew) | (with_reducible exact AllLt.nil _)))) hb; have hq := HL; simp only [AllLt, and_true, World.size_alloc, World.size_setCell, World.size_drew] at hq; have hbs := hb.size; try simp only [World.size_alloc, World.size_setCell, World.size_drew] at hbs))
        go_returns; exact ⟨rfl, by (repeat' (first | (with_reducible exact Below.refl _ _) | (with_reducible assumption) | (with_reducible refine Below.alloc ?_ ?_ _) | (with_reducible refine Below.drew ?_) | (with_reducible refine Below.setCell ?_ ?_ _) | (with_reducible refine Below.trans ?_ (Below.mono (by assumption) ?_)) | (with_reducible exact Nat.le_refl _) | omega | (simp only [World.size_alloc, World.size_setCell, World.size_drew]; omega) | (simp; omega) | (simp; done)))⟩
      · by_cases k2 : kind = 2
        · subst k2
          have e : ofB 2 t f = (t % 2 == 0) := by simp [ofB, ht]
          rw [e]
          go_enter Try.func105, Try.ntmps105
          go_wp2_with (first | (go_at_call 60; refine (isSym_i _ _ _).mono ?_; rintro e w1 ⟨rfl, hb⟩; obtain ⟨hc, hf⟩ := bcell hb; have HL := keepL (by (repeat (first | (with_reducible assumption) | (with_reducible apply AllLt.alloc) | (with_reducible apply AllLt.setCell) | (with_reducible apply AllLt.drew) | (with_reducible exact AllLt.nil _)))) hb; have hq := HL; simp only [AllLt, and_true, World.size_alloc, World.size_setCell, World.size_drew] at hq; have hbs := hb.size; try simp only [World.size_alloc, World.size_setCell, World.size_drew] at hbs))
          go_returns; exact ⟨rfl, by (repeat' (first | (with_reducible exact Below.refl _ _) | (with_reducible assumption) | (with_reducible refine Below.alloc ?_ ?_ _) | (with_reducible refine Below.drew ?_) | (with_reducible refine Below.setCell ?_ ?_ _) | (with_reducible refine Below.trans ?_ (Below.mono (by assumption) ?_)) | (with_reducible exact Nat.le_refl _) | omega | (simp only [World.size_alloc, World.size_setCell, World.size_drew]; omega) | (simp; omega) | (simp; done)))⟩
        · by_cases k3 : kind = 3
          · subst k3
            have e : ofB 3 t f = true := by simp [ofB, ht]
            rw [e]
            go_enter Try.func105, Try.ntmps105
            go_wp2_with (first | (go_at_call 60; refine (isSym_i _ _ _).mono ?_; rintro e w1 ⟨rfl, hb⟩; obtain ⟨hc, hf⟩ := bcell hb; have HL := keepL (by (repeat (first | (with_reducible assumption) | (with_reducible apply AllLt.alloc) | (with_reducible apply AllLt.setCell) | (with_reducible apply AllLt.drew) | (with_reducible exact AllLt.nil _)))) hb; have hq := HL; simp only [AllLt, and_true, World.size_alloc, World.size_setCell, World.size_drew] at hq; have hbs := hb.size; try simp only [World.size_alloc, World.size_setCell, World.size_drew] at hbs))
            go_returns; exact ⟨rfl, by (repeat' (first | (with_reducible exact Below.refl _ _) | (with_reducible assumption) | (with_reducible refine Below.alloc ?_ ?_ _) | (with_reducible refine Below.drew ?_) | (with_reducible refine Below.setCell ?_ ?_ _) | (with_reducible refine Below.trans ?_ (Below.mono (by assumption) ?_)) | (with_reducible exact Nat.le_refl _) | omega | (simp only [World.size_alloc, World.size_setCell, World.size_drew]; omega) | (simp; omega) | (simp; done)))⟩
          · have e : ofB kind t f = false := by simp [ofB, k0, k1, k2, k3]
            rw [e]
            clear e
            have q0 : (kind == 0) = false := by simpa using k0
            have q1 : (kind == 1) = false := by simpa using k1
            have q2 : (kind == 2) = false := by simpa using k2
            have q3 : (kind == 3) = false := by simpa using k3
            clear k0 k1 k2 k3
            go_enter Try.func105, Try.ntmps105
            go_wp2_with (first | (go_at_call 60; refine (isSym_i _ _ _).mono ?_; rintro e w1 ⟨rfl, hb⟩; obtain ⟨hc, hf⟩ := bcell hb; have HL := keepL (by (repeat (first | (with_reducible assumption) | (with_reducible apply AllLt.alloc) | (with_reducible apply AllLt.setCell) | (with_reducible apply AllLt.drew) | (with_reducible exact AllLt.nil _)))) hb; have hq := HL; simp only [AllLt, and_true, World.size_alloc, World.size_setCell, World.size_drew] at hq; have hbs := hb.size; try simp only [World.size_alloc, World.size_setCell, World.size_drew] at hbs))
            go_returns; exact ⟨rfl, by (repeat' (first | (with_reducible exact Below.refl _ _) | (with_reducible assumption) | (with_reducible refine Below.alloc ?_ ?_ _) | (with_reducible refine Below.drew ?_) | (with_reducible refine Below.setCell ?_ ?_ _) | (with_reducible refine Below.trans ?_ (Below.mono (by assumption) ?_)) | (with_reducible exact Nat.le_refl _) | omega | (simp only [World.size_alloc, World.size_setCell, World.size_drew]; omega) | (simp; omega) | (simp; done)))⟩
  · have e : ofB kind t f = false := by simp [ofB, ht]
    rw [e]
    go_enter Try.func105, Try.ntmps105
    go_wp2_with (first | (go_at_call 60; refine (isSym_i _ _ _).mono ?_; rintro e w1 ⟨rfl, hb⟩; obtain ⟨hc, hf⟩ := bcell hb; have HL := keepL (by (repeat (first | (with_reducible assumption) | (with_reducible apply AllLt.alloc) | (with_reducible apply AllLt.setCell) | (with_reducible apply AllLt.drew) | (with_reducible exact AllLt.nil _)))) hb; have hq := HL; simp only [AllLt, and_true, World.size_alloc, World.size_setCell, World.size_drew] at hq; have hbs := hb.size; try simp only [World.size_alloc, World.size_setCell, World.size_drew] at hbs))
    go_returns; exact ⟨rfl, by (repeat' (first | (with_reducible exact Below.refl _ _) | (with_reducible assumption) | (with_reducible refine Below.alloc ?_ ?_ _) | (with_reducible refine Below.drew ?_) | (with_reducible refine Below.setCell ?_ ?_ _) | (with_reducible refine Below.trans ?_ (Below.mono (by assumption) ?_)) | (with_reducible exact Nat.le_refl _) | omega | (simp only [World.size_alloc, World.size_setCell, World.size_drew]; omega) | (simp; omega) | (simp; done)))⟩
end Go.Proofs.Ytekkgpanmccdgaa

/-
  The symmetries of mirrors of a kind, as the program lists them.
-/
namespace Go.Proofs.Ytekkgpanmccdgaa
open Go.ChangeShapes Go.WideShapes Go.ChangeAt Go.RowKit Go.Joins 
set_option linter.unusedSimpArgs false
set_option linter.unusedVariables false
/-- Of the first k symmetries those of mirrors of a kind. -/
def symsTo (kind : Int) (k : Nat) : List (Int × Bool) := ((List.range k).map symK).filter fun p => ofB kind p.1 p.2
theorem symsTo_yes {kind : Int} {k : Nat} (h : ofB kind (symK k).1 (symK k).2 = true) : symsTo kind (k + 1) = symsTo kind k ++ [symK k] := by
  simp [symsTo, List.range_succ, h]
theorem symsTo_no {kind : Int} {k : Nat} (h : ofB kind (symK k).1 (symK k).2 = false) : symsTo kind (k + 1) = symsTo kind k := by
  simp [symsTo, List.range_succ, h]
theorem symsTo_le (kind : Int) (k : Nat) : (symsTo kind k).length ≤ k := by
  have := List.length_filter_le (fun p => ofB kind p.1 p.2) ((List.range k).map symK)
  simpa [symsTo] using this

set_option maxHeartbeats 1600000 in
set_option maxRecDepth 1000000 in
theorem symsOf_i (kind : Int) (w : World) :
    Calls Try.prog 59 #[.int .i64 kind] w fun e w' => ∃ g cap, e = .returned (.slice (some ⟨g, 0, Option.none⟩) (symsTo kind 8).length cap) ∧ w'.ownsRow w.heap.size 49 2 (.slice (some ⟨g, 0, Option.none⟩) (symsTo kind 8).length cap) (symsTo kind 8).length (symCells (symsTo kind 8)) ∧ Below w.heap.size w w' := by
  obtain ⟨i0, hi, hz0, hz1, hz2⟩ := info_parts infoSym
  go_enter Try.func59, Try.ntmps59
  go_wp2
  go_loopw [3, 7] (fun v i wr => ∃ k : Nat, k ≤ 8 ∧ i = .int .i64 k ∧ wr.ownsRow w.heap.size 49 2 v (symsTo kind k).length (symCells (symsTo kind k)) ∧ v ≠ .slice Option.none 0 0 ∧ Below w.heap.size w wr)
    (fun _ i _ => 8 - (intOf i).toNat)
  case atStart => exact ⟨0, by omega, rfl, World.ownsRow_lit _ #[] 0 (by simp) (by unfold maxLen; omega) rfl, by simp, by (repeat' (first | (with_reducible exact Below.refl _ _) | (with_reducible assumption) | (with_reducible refine Below.alloc ?_ ?_ _) | (with_reducible refine Below.drew ?_) | (with_reducible refine Below.setCell ?_ ?_ _) | (with_reducible refine Below.trans ?_ (Below.mono (by assumption) ?_)) | (with_reducible exact Nat.le_refl _) | omega | (simp only [World.size_alloc, World.size_setCell, World.size_drew]; omega) | (simp; omega) | (simp; done)))⟩
  case round =>
    obtain ⟨k, hk, rfl, hown, hnn, hbel⟩ := hrel
    have HNN : Hid (u3 ≠ .slice Option.none 0 0) := hnn
    clear hnn
    have hbase := hbel.size
    by_cases hlt : k < 8
    · have hle := symsTo_le kind k
      cases hB : ofB kind ((k : Int) % 4) (decide (4 ≤ (k : Int))) with
      | true =>
        have hy := symsTo_yes (kind := kind) (k := k) hB
        have HY : Hid (symsTo kind (k + 1) = symsTo kind k ++ [symK k]) := hy
        clear hy
        go_wp2_with (first | (go_at_call 104; refine (symAt_i _ _ hlt).mono ?_; rintro e w1 ⟨rfl, hb⟩; obtain ⟨hc, hf⟩ := bcell hb; have HL := keepL (by (repeat (first | (with_reducible assumption) | (with_reducible apply AllLt.alloc) | (with_reducible apply AllLt.setCell) | (with_reducible apply AllLt.drew) | (with_reducible exact AllLt.nil _)))) hb; have hq := HL; simp only [AllLt, and_true, World.size_alloc, World.size_setCell, World.size_drew] at hq; have hbs := hb.size; try simp only [World.size_alloc, World.size_setCell, World.size_drew] at hbs) | (go_at_call 105; refine (isSymOf_i _ _ _ _).mono ?_; rintro e w1 ⟨rfl, hb⟩; obtain ⟨hc, hf⟩ := bcell hb; have HL := keepL (by (repeat (first | (with_reducible assumption) | (with_reducible apply AllLt.alloc) | (with_reducible apply AllLt.setCell) | (with_reducible apply AllLt.drew) | (with_reducible exact AllLt.nil _)))) hb; have hq := HL; simp only [AllLt, and_true, World.size_alloc, World.size_setCell, World.size_drew] at hq; have hbs := hb.size; try simp only [World.size_alloc, World.size_setCell, World.size_drew] at hbs) | (at_builtin; go_loud (refine wpList_append_own _ rfl _ _ 100 rfl w.heap.size 49 i0 (.agg #[.int .i64 0, .bool false]) 2 16 Try.underlying100 hi hz0 hz1 hz2 rfl (by decide) _ (symsTo kind k).length (symCells (symsTo kind k)) rfl ?hown ⟨w1.heap.size, 0, Option.none⟩ 1 1 [.int .i64 (symK k).1, .bool (symK k).2] rfl rfl ?c1 ?c2 ?c3 ?c4 ?c5 ?_)))
        case hown => (change World.ownsRow _ _ _ _ u3 _ _; (repeat (first | (with_reducible assumption) | (with_reducible refine World.ownsRow.alloc ?_ _) | (with_reducible refine World.ownsRow.drew ?_) | (with_reducible refine ownsBelow (by assumption) ?_))))
        case c1 =>
          intro j u hj
          rcases j with _ | _ | j <;> simp [symK] at hj <;> subst hj <;> simp [Addr.add]
        case c2 =>
          intro u hu
          simp at hu
          rcases hu with rfl | rfl <;> rfl
        case c3 => (unfold maxLen; omega)
        case c4 => omega
        case c5 => first | omega | (simp only [World.size_alloc, World.size_setCell, World.size_drew]; omega)
        intro v' w2 hown' hgrow hvn
        have HVN : Hid (v' ≠ .slice Option.none 0 0) := hvn
        clear hvn
        have hb2 : Below w.heap.size w w2 := Below.grown (by (repeat' (first | (with_reducible exact Below.refl _ _) | (with_reducible assumption) | (with_reducible refine Below.alloc ?_ ?_ _) | (with_reducible refine Below.drew ?_) | (with_reducible refine Below.setCell ?_ ?_ _) | (with_reducible refine Below.trans ?_ (Below.mono (by assumption) ?_)) | (with_reducible exact Nat.le_refl _) | omega | (simp only [World.size_alloc, World.size_setCell, World.size_drew]; omega) | (simp; omega) | (simp; done)))) hgrow (by first | omega | (simp only [World.size_alloc, World.size_setCell, World.size_drew]; omega)) (fun q hq => (hown.lt q hq).1)
        clear hgrow
        go_wp2
        go_roundw
        case rel => exact ⟨k + 1, by omega, by go_num, by rw [HY.out, symCells_snoc]; simpa using hown', HVN.out, hb2⟩
        case measure => simp [intOf]; omega
      | false =>
        have hn := symsTo_no (kind := kind) (k := k) hB
        have HN : Hid (symsTo kind (k + 1) = symsTo kind k) := hn
        clear hn
        go_wp2_with (first | (go_at_call 104; refine (symAt_i _ _ hlt).mono ?_; rintro e w1 ⟨rfl, hb⟩; obtain ⟨hc, hf⟩ := bcell hb; have HL := keepL (by (repeat (first | (with_reducible assumption) | (with_reducible apply AllLt.alloc) | (with_reducible apply AllLt.setCell) | (with_reducible apply AllLt.drew) | (with_reducible exact AllLt.nil _)))) hb; have hq := HL; simp only [AllLt, and_true, World.size_alloc, World.size_setCell, World.size_drew] at hq; have hbs := hb.size; try simp only [World.size_alloc, World.size_setCell, World.size_drew] at hbs) | (go_at_call 105; refine (isSymOf_i _ _ _ _).mono ?_; rintro e w1 ⟨rfl, hb⟩; obtain ⟨hc, hf⟩ := bcell hb; have HL := keepL (by (repeat (first | (with_reducible assumption) | (with_reducible apply AllLt.alloc) | (with_reducible apply AllLt.setCell) | (with_reducible apply AllLt.drew) | (with_reducible exact AllLt.nil _)))) hb; have hq := HL; simp only [AllLt, and_true, World.size_alloc, World.size_setCell, World.size_drew] at hq; have hbs := hb.size; try simp only [World.size_alloc, World.size_setCell, World.size_drew] at hbs))
        go_roundw
        case rel => exact ⟨k + 1, by omega, by go_num, by rw [HN.out]; (repeat (first | (with_reducible assumption) | (with_reducible refine World.ownsRow.alloc ?_ _) | (with_reducible refine World.ownsRow.drew ?_) | (with_reducible refine ownsBelow (by assumption) ?_))), HNN.out, by (repeat' (first | (with_reducible exact Below.refl _ _) | (with_reducible assumption) | (with_reducible refine Below.alloc ?_ ?_ _) | (with_reducible refine Below.drew ?_) | (with_reducible refine Below.setCell ?_ ?_ _) | (with_reducible refine Below.trans ?_ (Below.mono (by assumption) ?_)) | (with_reducible exact Nat.le_refl _) | omega | (simp only [World.size_alloc, World.size_setCell, World.size_drew]; omega) | (simp; omega) | (simp; done)))⟩
        case measure => simp [intOf]; omega
    · have hk8 : k = 8 := by omega
      subst hk8
      rcases ownsRow_forms hown with ⟨e, _⟩ | ⟨g, cap, rfl⟩
      · exact absurd e HNN.out
      go_wp2
      go_ret
      exact ⟨_, _, rfl, hown, hbel⟩
end Go.Proofs.Ytekkgpanmccdgaa

/-
  The image of a point.
-/
namespace Go.Proofs.Ytekkgpanmccdgaa
open Go.ChangeShapes Go.WideShapes Go.ChangeAt Go.RowKit Go.Joins
set_option linter.unusedSimpArgs false
set_option linter.unusedVariables false
set_option maxRecDepth 100000
attribute [local go_sem] store_f
open Ieee Go.Lib

/-- The image of a point. -/
def actP (s : Int × Bool) (p : PtW) : PtW := ⟨actV s.1.toNat s.2 p.1.1 (ngB p.1.1) p.1.2 (ngB p.1.2), act_pt _ _ p.2.1 p.2.2⟩
/-- The point that two drawn words stand for. -/
def ptOf {x y : Nat} (hx : okB x = true) (hy : okB y = true) : PtW := ⟨(cleanB x, cleanB y), pt_clean hx, pt_clean hy⟩
/-- The images by the symmetries of mirrors of a kind, in their order. -/
def imgs (l : List (Int × Bool)) (p : PtW) : List PtW := l.map fun s => actP s p
theorem actM_of {x y : Nat} (hx : okB x = true) (hy : okB y = true) {s : Int × Bool} (h : isSymB s.1 = true) : ActM s.1 s.2 x y (actP s (ptOf hx hy)).1.1 (actP s (ptOf hx hy)).1.2 := by
  obtain ⟨h1, h2⟩ := isSymB_iff.1 h
  have := act_of (t := s.1.toNat) s.2 (by omega) hx hy
  rwa [Int.toNat_of_nonneg h1] at this
theorem actM_pt (p : PtW) {s : Int × Bool} (h : isSymB s.1 = true) : ActM s.1 s.2 p.1.1 p.1.2 (actP s p).1.1 (actP s p).1.2 := by
  obtain ⟨h1, h2⟩ := isSymB_iff.1 h
  have := act_of_pt (t := s.1.toNat) s.2 (by omega) p.2.1 p.2.2
  rwa [Int.toNat_of_nonneg h1] at this
/-- What the images of a point are called as: a contract of ActSym at one word pair. -/
structure Acts (l : List (Int × Bool)) (x y : Nat) (p : PtW) : Prop where
  call : ∀ k, k < l.length → ActM (l.getD k (0, false)).1 (l.getD k (0, false)).2 x y (actP (l.getD k (0, false)) p).1.1 (actP (l.getD k (0, false)) p).1.2
theorem getD_memS {l : List (Int × Bool)} {k : Nat} (h : k < l.length) : l.getD k (0, false) ∈ l := by simp [List.getD, h]
theorem acts_of {l : List (Int × Bool)} (hl : ∀ s ∈ l, isSymB s.1 = true) {x y : Nat} (hx : okB x = true) (hy : okB y = true) : Acts l x y (ptOf hx hy) :=
  ⟨fun k hk => actM_of hx hy (hl _ (getD_memS hk))⟩
theorem acts_pt {l : List (Int × Bool)} (hl : ∀ s ∈ l, isSymB s.1 = true) (p : PtW) : Acts l p.1.1 p.1.2 p :=
  ⟨fun k hk => actM_pt p (hl _ (getD_memS hk))⟩
theorem imgs_len (l : List (Int × Bool)) (p : PtW) : (imgs l p).length = l.length := by simp [imgs]
structure PtYes (x y : Nat) : Prop where
  call : ∀ w : World, Calls Try.prog 54 #[.complex .f32 x y] w fun e w' => e = .returned (.bool true) ∧ w' = w
structure SymsM (kind : Int) (l : List (Int × Bool)) : Prop where
  call : ∀ w : World, Calls Try.prog 59 #[.int .i64 kind] w fun e w' => ∃ g cap, e = .returned (.slice (some ⟨g, 0, Option.none⟩) l.length cap) ∧ w'.ownsRow w.heap.size 49 2 (.slice (some ⟨g, 0, Option.none⟩) l.length cap) l.length (symCells l) ∧ Below w.heap.size w w'
end Go.Proofs.Ytekkgpanmccdgaa

/-
  Images as pairs of whole numbers.
-/
namespace Go.Proofs.Ytekkgpanmccdgaa
open Go.ChangeShapes Go.WideShapes Go.ChangeAt Go.RowKit Go.Joins
set_option linter.unusedSimpArgs false
set_option linter.unusedVariables false
set_option maxRecDepth 100000
attribute [local go_sem] store_f
open Ieee Go.Lib

/-- The image of a pair of numbers. -/
def actI (s : Int × Bool) (z : Int × Int) : Int × Int :=
  match s.1.toNat, s.2 with
  | 0, false => (z.1, z.2)
  | 0, true => (z.1, -z.2)
  | 1, false => (-z.2, z.1)
  | 1, true => (z.2, z.1)
  | 2, false => (-z.1, -z.2)
  | 2, true => (-z.1, z.2)
  | _, false => (z.2, -z.1)
  | _, true => (-z.2, -z.1)
theorem val_ng {x : Nat} (h : Fin32 x) : valOf F32 (ngB x) = -valOf F32 x := by
  have hr := fin_rung h
  unfold ngB
  by_cases h0 : rungOf F32 x = 0
  · rw [if_pos h0, val_zero, val_eq_zero.2 h0]; rfl
  · rw [if_neg h0]
    unfold valOf
    rw [rungOf_word F32 _ (by rw [F32_sw]; omega), negOf_word F32 _ (by rw [F32_sw]; omega)]
    cases negOf F32 x <;> simp
def vP (p : PtW) : Int × Int := (vX p, vY p)
theorem vP_inj {p q : PtW} (h : vP p = vP q) : p = q := ptW_inj (Prod.mk.inj h).1 (Prod.mk.inj h).2
theorem vP_act (s : Int × Bool) (p : PtW) : vP (actP s p) = actI s (vP p) := by
  have nx := val_ng p.2.1.cl.fin
  have ny := val_ng p.2.2.cl.fin
  obtain ⟨t, f⟩ := s
  unfold vP vX vY actP actI
  dsimp only
  generalize t.toNat = n
  rcases n with _ | _ | _ | n <;> cases f <;> simp [actV, nx, ny]
theorem syms0 : symsTo 0 8 = [(0, false)] := by decide
theorem syms1 : symsTo 1 8 = [(0, false), (0, true)] := by decide
theorem syms2 : symsTo 2 8 = [(0, false), (2, false), (0, true), (2, true)] := by decide
theorem syms3 : symsTo 3 8 = [(0, false), (1, false), (2, false), (3, false), (0, true), (1, true), (2, true), (3, true)] := by decide
end Go.Proofs.Ytekkgpanmccdgaa

/-
  A list of symmetries as it lies in memory.
-/
namespace Go.Proofs.Ytekkgpanmccdgaa
open Go.ChangeShapes Go.WideShapes Go.ChangeAt Go.RowKit Go.Joins 
set_option linter.unusedSimpArgs false
set_option linter.unusedVariables false
/-- The cells of a list of symmetries, from a block's head on. -/
def SymRow (W : World) (g : Nat) (l : List (Int × Bool)) : Prop :=
  ∀ k, k < l.length → W.cell? ⟨g, k * 2, Option.none⟩ = some (.int .i64 (l.getD k (0, false)).1) ∧ W.cell? ⟨g, k * 2 + 1, Option.none⟩ = some (.bool (l.getD k (0, false)).2)

theorem symCells_get : ∀ (l : List (Int × Bool)) (k : Nat), k < l.length → (symCells l)[k * 2]? = some (.int .i64 (l.getD k (0, false)).1) ∧ (symCells l)[k * 2 + 1]? = some (.bool (l.getD k (0, false)).2)
  | p :: l, 0, _ => ⟨rfl, rfl⟩
  | p :: l, k + 1, h => by
    have ih := symCells_get l k (by simpa using h)
    have e : symCells (p :: l) = .int .i64 p.1 :: .bool p.2 :: symCells l := rfl
    rw [e, show (k + 1) * 2 = k * 2 + 1 + 1 by omega]
    simpa using ih

theorem symRow_of {W : World} {base g n cap : Nat} {l : List (Int × Bool)} (h : W.ownsRow base 49 2 (.slice (some ⟨g, 0, Option.none⟩) n cap) n (symCells l)) (hn : l.length = n) : SymRow W g l := fun k hk => by
  have hg := symCells_get l k hk
  rw [h.cellAt _ (by omega), h.cellAt _ (by omega)]
  exact hg

theorem SymRow.below {W w1 : World} {g : Nat} {l : List (Int × Bool)} (h : SymRow W g l) (hb : Below W.heap.size W w1) : SymRow w1 g l :=
  fun k hk => ⟨cBelow hb (h k hk).1, cBelow hb (h k hk).2⟩

theorem SymRow.set {W : World} {g : Nat} {a : Addr} {v : Value} {l : List (Int × Bool)} (h : SymRow W g l) (hne : g ≠ a.block) : SymRow (W.setCell a v) g l :=
  fun k hk => ⟨cSet hne (h k hk).1, cSet hne (h k hk).2⟩
theorem SymRow.alloc {W : World} {g : Nat} {o : Obj} {l : List (Int × Bool)} (h : SymRow W g l) : SymRow (W.alloc o) g l :=
  fun k hk => ⟨cAlloc (h k hk).1, cAlloc (h k hk).2⟩

end Go.Proofs.Ytekkgpanmccdgaa

/-
  Is a symmetry in a list?
-/
namespace Go.Proofs.Ytekkgpanmccdgaa
open Go.ChangeShapes Go.WideShapes Go.ChangeAt Go.RowKit Go.Joins 
set_option linter.unusedSimpArgs false
set_option linter.unusedVariables false
theorem syms_back (kind : Int) (h0 : 0 ≤ kind) (h3 : kind ≤ 3) : ∀ p ∈ symsTo kind 8, (backT p.1 p.2, backF p.1 p.2) ∈ symsTo kind 8 := by
  rcases (by omega : kind = 0 ∨ kind = 1 ∨ kind = 2 ∨ kind = 3) with rfl | rfl | rfl | rfl <;> decide
theorem syms_range (kind : Int) (h0 : 0 ≤ kind) (h3 : kind ≤ 3) : ∀ p ∈ symsTo kind 8, isSymB p.1 = true := by
  rcases (by omega : kind = 0 ∨ kind = 1 ∨ kind = 2 ∨ kind = 3) with rfl | rfl | rfl | rfl <;> decide
theorem syms_count (kind : Int) (h0 : 0 ≤ kind) (h3 : kind ≤ 3) : (symsTo kind 8).length = [1, 2, 4, 8].getD kind.toNat 0 := by
  rcases (by omega : kind = 0 ∨ kind = 1 ∨ kind = 2 ∨ kind = 3) with rfl | rfl | rfl | rfl <;> decide
end Go.Proofs.Ytekkgpanmccdgaa
