/-
  Texts Ap, joined.
-/
import Derived.Test.YtfdgijmmgllmgaaGreatDoorS03
import Derived.Deep.DeepCutAuto
import Derived.Deep.RegionHeld3
import Derived.StillTactics
namespace Go.Proofs.YtfdgijmmgllmgaaGreatDoor
open Go.ChangeShapes Go.WideShapes Go.ChangeAt Go.RowKit Go.Joins
set_option linter.unusedSimpArgs false
set_option linter.unusedVariables false
set_option maxRecDepth 100000
attribute [local go_sem] store_f
open Ieee
def inB (x : Nat) : Bool := (FloatKind.f32.format.order x 3313500160 == some .gt || FloatKind.f32.format.order x 3313500160 == some .eq) && (FloatKind.f32.format.order x 1166016512 == some .lt || FloatKind.f32.format.order x 1166016512 == some .eq)
theorem isSym_yes (t : Int) (f : Bool) (w : World) (h0 : 0 ≤ t) (h4 : t < 4) :
    Calls Tryz.prog 30 #[.agg #[.int .i64 t, .bool f]] w fun e w' => e = .returned (.bool true) ∧ Below w.heap.size w w' := by
  go_enter Tryz.func30, Tryz.ntmps30
  go_wp2
  go_returns
  exact ⟨rfl, by go_grown⟩
theorem inReach_i (x : Nat) (w : World) :
    Calls Tryz.prog 109 #[.float .f32 x] w fun e w' => e = .returned (.bool (inB x)) ∧ w' = w := by
  go_enter Tryz.func109, Tryz.ntmps109
  go_wp2
  all_goals (go_ret; exact ⟨by simp_all [inB], rfl⟩)
theorem isPoint_yes (x y : Nat) (w : World) (hx : inB x = true) (hy : inB y = true) :
    Calls Tryz.prog 75 #[.complex .f32 x y] w fun e w' => e = .returned (.bool true) ∧ w' = w := by
  go_enter Tryz.func75, Tryz.ntmps75
  go_wp2_with (go_at_call 109; refine (inReach_i _ _).mono ?_; rintro e w1 ⟨rfl, rfl⟩)
  all_goals (go_ret; exact ⟨by simp_all, rfl⟩)
theorem idx_0 (w : World) : (Instr.index 171 (.agg #[.complex .f32 1065353216 0, .complex .f32 0 1065353216, .complex .f32 0 1065353216, .complex .f32 3212836864 0, .complex .f32 3212836864 0, .complex .f32 2147483648 3212836864, .complex .f32 2147483648 3212836864, .complex .f32 1065353216 2147483648, .complex .f32 1065353216 0, .complex .f32 0 3212836864, .complex .f32 0 1065353216, .complex .f32 1065353216 0, .complex .f32 3212836864 0, .complex .f32 0 1065353216, .complex .f32 2147483648 3212836864, .complex .f32 3212836864 0]) (.int .i64 0)).run Tryz.prog w = .ok (.agg #[.complex .f32 1065353216 0, .complex .f32 0 1065353216]) w := by kernel_rfl
theorem idx_1 (w : World) : (Instr.index 171 (.agg #[.complex .f32 1065353216 0, .complex .f32 0 1065353216, .complex .f32 0 1065353216, .complex .f32 3212836864 0, .complex .f32 3212836864 0, .complex .f32 2147483648 3212836864, .complex .f32 2147483648 3212836864, .complex .f32 1065353216 2147483648, .complex .f32 1065353216 0, .complex .f32 0 3212836864, .complex .f32 0 1065353216, .complex .f32 1065353216 0, .complex .f32 3212836864 0, .complex .f32 0 1065353216, .complex .f32 2147483648 3212836864, .complex .f32 3212836864 0]) (.int .i64 1)).run Tryz.prog w = .ok (.agg #[.complex .f32 0 1065353216, .complex .f32 3212836864 0]) w := by kernel_rfl
theorem idx_2 (w : World) : (Instr.index 171 (.agg #[.complex .f32 1065353216 0, .complex .f32 0 1065353216, .complex .f32 0 1065353216, .complex .f32 3212836864 0, .complex .f32 3212836864 0, .complex .f32 2147483648 3212836864, .complex .f32 2147483648 3212836864, .complex .f32 1065353216 2147483648, .complex .f32 1065353216 0, .complex .f32 0 3212836864, .complex .f32 0 1065353216, .complex .f32 1065353216 0, .complex .f32 3212836864 0, .complex .f32 0 1065353216, .complex .f32 2147483648 3212836864, .complex .f32 3212836864 0]) (.int .i64 2)).run Tryz.prog w = .ok (.agg #[.complex .f32 3212836864 0, .complex .f32 2147483648 3212836864]) w := by kernel_rfl
theorem idx_3 (w : World) : (Instr.index 171 (.agg #[.complex .f32 1065353216 0, .complex .f32 0 1065353216, .complex .f32 0 1065353216, .complex .f32 3212836864 0, .complex .f32 3212836864 0, .complex .f32 2147483648 3212836864, .complex .f32 2147483648 3212836864, .complex .f32 1065353216 2147483648, .complex .f32 1065353216 0, .complex .f32 0 3212836864, .complex .f32 0 1065353216, .complex .f32 1065353216 0, .complex .f32 3212836864 0, .complex .f32 0 1065353216, .complex .f32 2147483648 3212836864, .complex .f32 3212836864 0]) (.int .i64 3)).run Tryz.prog w = .ok (.agg #[.complex .f32 2147483648 3212836864, .complex .f32 1065353216 2147483648]) w := by kernel_rfl
theorem idx_4 (w : World) : (Instr.index 171 (.agg #[.complex .f32 1065353216 0, .complex .f32 0 1065353216, .complex .f32 0 1065353216, .complex .f32 3212836864 0, .complex .f32 3212836864 0, .complex .f32 2147483648 3212836864, .complex .f32 2147483648 3212836864, .complex .f32 1065353216 2147483648, .complex .f32 1065353216 0, .complex .f32 0 3212836864, .complex .f32 0 1065353216, .complex .f32 1065353216 0, .complex .f32 3212836864 0, .complex .f32 0 1065353216, .complex .f32 2147483648 3212836864, .complex .f32 3212836864 0]) (.int .i64 4)).run Tryz.prog w = .ok (.agg #[.complex .f32 1065353216 0, .complex .f32 0 3212836864]) w := by kernel_rfl
theorem idx_5 (w : World) : (Instr.index 171 (.agg #[.complex .f32 1065353216 0, .complex .f32 0 1065353216, .complex .f32 0 1065353216, .complex .f32 3212836864 0, .complex .f32 3212836864 0, .complex .f32 2147483648 3212836864, .complex .f32 2147483648 3212836864, .complex .f32 1065353216 2147483648, .complex .f32 1065353216 0, .complex .f32 0 3212836864, .complex .f32 0 1065353216, .complex .f32 1065353216 0, .complex .f32 3212836864 0, .complex .f32 0 1065353216, .complex .f32 2147483648 3212836864, .complex .f32 3212836864 0]) (.int .i64 5)).run Tryz.prog w = .ok (.agg #[.complex .f32 0 1065353216, .complex .f32 1065353216 0]) w := by kernel_rfl
theorem idx_6 (w : World) : (Instr.index 171 (.agg #[.complex .f32 1065353216 0, .complex .f32 0 1065353216, .complex .f32 0 1065353216, .complex .f32 3212836864 0, .complex .f32 3212836864 0, .complex .f32 2147483648 3212836864, .complex .f32 2147483648 3212836864, .complex .f32 1065353216 2147483648, .complex .f32 1065353216 0, .complex .f32 0 3212836864, .complex .f32 0 1065353216, .complex .f32 1065353216 0, .complex .f32 3212836864 0, .complex .f32 0 1065353216, .complex .f32 2147483648 3212836864, .complex .f32 3212836864 0]) (.int .i64 6)).run Tryz.prog w = .ok (.agg #[.complex .f32 3212836864 0, .complex .f32 0 1065353216]) w := by kernel_rfl
theorem idx_7 (w : World) : (Instr.index 171 (.agg #[.complex .f32 1065353216 0, .complex .f32 0 1065353216, .complex .f32 0 1065353216, .complex .f32 3212836864 0, .complex .f32 3212836864 0, .complex .f32 2147483648 3212836864, .complex .f32 2147483648 3212836864, .complex .f32 1065353216 2147483648, .complex .f32 1065353216 0, .complex .f32 0 3212836864, .complex .f32 0 1065353216, .complex .f32 1065353216 0, .complex .f32 3212836864 0, .complex .f32 0 1065353216, .complex .f32 2147483648 3212836864, .complex .f32 3212836864 0]) (.int .i64 7)).run Tryz.prog w = .ok (.agg #[.complex .f32 2147483648 3212836864, .complex .f32 3212836864 0]) w := by kernel_rfl
attribute [local go_sem] idx_0 idx_1 idx_2 idx_3 idx_4 idx_5 idx_6 idx_7 store_c
structure Prod (a b r : Nat) : Prop where
  call : ∀ w : World, Calls Tryz.prog 85 #[.float .f32 a, .float .f32 b] w fun e w' => e = .returned (.float .f32 r) ∧ w' = w
structure Sum (a b r : Nat) : Prop where
  call : ∀ w : World, Calls Tryz.prog 88 #[.float .f32 a, .float .f32 b] w fun e w' => e = .returned (.float .f32 r) ∧ w' = w
theorem prod_of {a b r : Nat} (h : ∃ z, F32.mul a b = some z ∧ setB z = r) : Prod a b r := ⟨fun w => by
  obtain ⟨z, h1, rfl⟩ := h
  exact productOf_i a b z w h1⟩
theorem sum_of {a b r : Nat} (h : ∃ z, F32.add a b = some z ∧ setB z = r) : Sum a b r := ⟨fun w => by
  obtain ⟨z, h1, rfl⟩ := h
  exact sumOf_i a b z w h1⟩
structure Pairs (v : Array Value) : Prop where
  call : ∀ w : World, Calls Tryz.prog 124 #[] w fun e w' => e = .returned (.agg v) ∧ Below w.heap.size w w'
structure PlaceIs (t : Int) (f : Bool) (k : Int) : Prop where
  call : ∀ w : World, Calls Tryz.prog 125 #[.agg #[.int .i64 t, .bool f]] w fun e w' => e = .returned (.int .i64 k) ∧ Below w.heap.size w w'
structure IsY (t : Int) (f : Bool) : Prop where
  call : ∀ w : World, Calls Tryz.prog 30 #[.agg #[.int .i64 t, .bool f]] w fun e w' => e = .returned (.bool true) ∧ Below w.heap.size w w'
structure PtY (x y : Nat) : Prop where
  call : ∀ w : World, Calls Tryz.prog 75 #[.complex .f32 x y] w fun e w' => e = .returned (.bool true) ∧ w' = w
structure Parts (x c n : Nat) : Prop where
  p : Prod x 1065353216 c
  m : Prod x 3212836864 n
  z : Prod x 0 0
  u : Prod x 2147483648 0
  c0 : Sum c 0 c
  n0 : Sum n 0 n
  oc : Sum 0 c c
  on : Sum 0 n n
theorem parts_of {x : Nat} (h : Fin32 x) (hx : x < 4294967296) : Parts x (cleanB x) (ngB x) :=
  ⟨prod_of (mul_unit h hx), prod_of (mul_munit h), prod_of (mul_none h (.inl rfl)), prod_of (mul_none h (.inr rfl)),
   sum_of (add_none (cl_clean h hx)), sum_of (add_none (cl_ng h)), sum_of (none_add (cl_clean h hx)), sum_of (none_add (cl_ng h))⟩
def actV : Nat → Bool → (cx nx cy ny : Nat) → Nat × Nat
  | 0, false, cx, _, cy, _ => (cx, cy)
  | 0, true, cx, _, _, ny => (cx, ny)
  | 1, false, cx, _, _, ny => (ny, cx)
  | 1, true, cx, _, cy, _ => (cy, cx)
  | 2, false, _, nx, _, ny => (nx, ny)
  | 2, true, _, nx, cy, _ => (nx, cy)
  | _, false, _, nx, cy, _ => (cy, nx)
  | _, true, _, nx, _, ny => (ny, nx)
set_option maxHeartbeats 8000000 in
theorem actSym_i (t : Nat) (f : Bool) (x y cx nx cy ny : Nat) (w : World) (ht : t < 4) (hx : inB x = true) (hy : inB y = true) (X : Parts x cx nx) (Y : Parts y cy ny) :
    Calls Tryz.prog 90 #[.agg #[.int .i64 t, .bool f], .complex .f32 x y] w fun e w' => e = .returned (.complex .f32 (actV t f cx nx cy ny).1 (actV t f cx nx cy ny).2) ∧ Below w.heap.size w w' := by
  have U : Pairs #[.complex .f32 1065353216 0, .complex .f32 0 1065353216, .complex .f32 0 1065353216, .complex .f32 3212836864 0, .complex .f32 3212836864 0, .complex .f32 2147483648 3212836864, .complex .f32 2147483648 3212836864, .complex .f32 1065353216 2147483648, .complex .f32 1065353216 0, .complex .f32 0 3212836864, .complex .f32 0 1065353216, .complex .f32 1065353216 0, .complex .f32 3212836864 0, .complex .f32 0 1065353216, .complex .f32 2147483648 3212836864, .complex .f32 3212836864 0] := ⟨fun w => unitPairs_i w⟩
  rcases (by omega : t = 0 ∨ t = 1 ∨ t = 2 ∨ t = 3) with rfl | rfl | rfl | rfl <;> cases f
  · have L : PlaceIs 0 false 0 := ⟨fun w => placeOf_i _ _ _ (by omega) (by omega)⟩
    have SY : IsY 0 false := ⟨fun w => isSym_yes _ _ _ (by omega) (by omega)⟩
    have PY : PtY x y := ⟨fun w => isPoint_yes _ _ _ hx hy⟩
    clear hx hy
    go_enter Tryz.func90, Tryz.ntmps90
    go_wp2_with fail
    refine (SY.call _).mono ?_
    rintro e w1 ⟨rfl, hb1⟩
    have hc : Blk w1 w.heap.size #[.int .i64 0, .bool false] 52 := Blk.belowAt hb1 (Blk.new _ _ _)
    have hB1 : Below w.heap.size w w1 := by (repeat' (first | (with_reducible exact Below.refl _ _) | (with_reducible assumption) | (with_reducible refine Below.alloc ?_ ?_ _) | (with_reducible refine Below.drew ?_) | (with_reducible refine Below.setCell ?_ ?_ _) | (with_reducible refine Below.trans ?_ (Below.mono (by assumption) ?_)) | (with_reducible exact Nat.le_refl _) | omega | (simp only [World.size_alloc, World.size_setCell, World.size_drew]; omega) | (simp; omega) | (simp; done)))
    have hl1 := hc.lt
    have c0 := Blk.cellAt (i := 0) hc rfl
    have c1 := Blk.cellAt (i := 1) hc rfl
    simp only [List.getElem_toArray, List.getElem_cons_zero, List.getElem_cons_succ] at c0 c1
    clear hc hb1
    go_wp2_with fail
    refine (PY.call _).mono ?_
    rintro e w2 ⟨rfl, rfl⟩
    go_wp2_with fail
    go_cut [5] (fun s wx => ∃ g : Nat, s = .pointer (some ⟨g, 0, Option.none⟩) ∧ wx.cell? ⟨g, 0, Option.none⟩ = some (.complex .f32 1065353216 0) ∧ wx.cell? ⟨g, 1, Option.none⟩ = some (.complex .f32 0 1065353216) ∧ Below w.heap.size w wx)
    case first =>
      go_region_held3 (fun wx => Below w.heap.size w wx ∧ w.heap.size < wx.heap.size ∧ wx.cell? ⟨w.heap.size, 0, Option.none⟩ = some (.int .i64 (0)) ∧ wx.cell? ⟨w.heap.size, 1, Option.none⟩ = some (.bool (false)))
        (((repeat' apply And.intro) <;> first | (with_reducible assumption) | (((repeat (first | (with_reducible assumption) | (with_reducible exact cNewAt (by first | rfl | (simp only [World.size_alloc, World.size_setCell, World.size_drew]; done) | omega) rfl) | (with_reducible exact sNewAt (by first | rfl | (simp only [World.size_alloc, World.size_setCell, World.size_drew]; done) | omega) rfl) | (simp; done) | (with_reducible apply cAlloc) | (with_reducible apply cDrew) | (with_reducible refine cSet (by dsimp only; omega) ?_) | (with_reducible refine cSetOff (by dsimp only; omega) ?_) | (with_reducible apply cSame) | (with_reducible refine cBelow (by assumption) ?_) | (with_reducible apply sAlloc) | (with_reducible apply sDrew) | (with_reducible refine sBelow (by assumption) ?_) | (with_reducible refine sSet (by dsimp only; omega) ?_))); first | done | (simp [*]; done)); done) | (simp only [World.size_alloc, World.size_setCell, World.size_drew]; omega) | omega | (go_keep; done) | ((repeat' (first | (with_reducible exact Below.refl _ _) | (with_reducible assumption) | (with_reducible refine Below.alloc ?_ ?_ _) | (with_reducible refine Below.drew ?_) | (with_reducible refine Below.setCell ?_ ?_ _) | (with_reducible refine Below.trans ?_ (Below.mono (by assumption) ?_)) | (with_reducible exact Nat.le_refl _) | omega | (simp only [World.size_alloc, World.size_setCell, World.size_drew]; omega) | (simp; omega) | (simp; done))); done)))
        (first | (go_at_call 124; (with_reducible refine (U.call _).mono ?_); rintro e w4 ⟨rfl, hb⟩; obtain ⟨hc, hf⟩ := bcell hb; have HL := keepL (by (repeat (first | (with_reducible assumption) | (with_reducible apply AllLt.alloc) | (with_reducible apply AllLt.setCell) | (with_reducible apply AllLt.drew) | (with_reducible exact AllLt.nil _)))) hb; have hq := HL; simp only [AllLt, and_true, World.size_alloc, World.size_setCell, World.size_drew] at hq; have hbs := hb.size; try simp only [World.size_alloc, World.size_setCell, World.size_drew] at hbs) | (go_at_call 125; (with_reducible refine (L.call _).mono ?_); rintro e w4 ⟨rfl, hb⟩; obtain ⟨hc, hf⟩ := bcell hb; have HL := keepL (by (repeat (first | (with_reducible assumption) | (with_reducible apply AllLt.alloc) | (with_reducible apply AllLt.setCell) | (with_reducible apply AllLt.drew) | (with_reducible exact AllLt.nil _)))) hb; have hq := HL; simp only [AllLt, and_true, World.size_alloc, World.size_setCell, World.size_drew] at hq; have hbs := hb.size; try simp only [World.size_alloc, World.size_setCell, World.size_drew] at hbs))
      all_goals (go_wp2_with fail; go_meet; refine ⟨_, rfl, ?_⟩; ((repeat' apply And.intro) <;> first | (with_reducible assumption) | (((repeat (first | (with_reducible assumption) | (with_reducible exact cNewAt (by first | rfl | (simp only [World.size_alloc, World.size_setCell, World.size_drew]; done) | omega) rfl) | (with_reducible exact sNewAt (by first | rfl | (simp only [World.size_alloc, World.size_setCell, World.size_drew]; done) | omega) rfl) | (simp; done) | (with_reducible apply cAlloc) | (with_reducible apply cDrew) | (with_reducible refine cSet (by dsimp only; omega) ?_) | (with_reducible refine cSetOff (by dsimp only; omega) ?_) | (with_reducible apply cSame) | (with_reducible refine cBelow (by assumption) ?_) | (with_reducible apply sAlloc) | (with_reducible apply sDrew) | (with_reducible refine sBelow (by assumption) ?_) | (with_reducible refine sSet (by dsimp only; omega) ?_))); first | done | (simp [*]; done)); done) | (simp only [World.size_alloc, World.size_setCell, World.size_drew]; omega) | omega | (go_keep; done) | ((repeat' (first | (with_reducible exact Below.refl _ _) | (with_reducible assumption) | (with_reducible refine Below.alloc ?_ ?_ _) | (with_reducible refine Below.drew ?_) | (with_reducible refine Below.setCell ?_ ?_ _) | (with_reducible refine Below.trans ?_ (Below.mono (by assumption) ?_)) | (with_reducible exact Nat.le_refl _) | omega | (simp only [World.size_alloc, World.size_setCell, World.size_drew]; omega) | (simp; omega) | (simp; done))); done)))
    case rest =>
      obtain ⟨g, rfl, c0, c1, hB⟩ := hcut
      have hgl := cell_lt c0
      go_wp2_with fail
      clear U L SY PY
      refine wp_region_still_lit (by kernel_rfl) (by kernel_rfl) ?_
      repeat still_step
      still_call (X.p.call _)
      repeat still_step
      still_call (Y.z.call _)
      repeat still_step
      still_call (X.c0.call _)
      repeat still_step
      still_call (X.z.call _)
      repeat still_step
      still_call (Y.p.call _)
      repeat still_step
      still_call (Y.oc.call _)
      repeat still_step
      refine wpStill_nil ?_
      go_wp2
      all_goals (go_returns; exact ⟨rfl, hB.drew⟩)
  · have L : PlaceIs 0 true 4 := ⟨fun w => placeOf_i _ _ _ (by omega) (by omega)⟩
    have SY : IsY 0 true := ⟨fun w => isSym_yes _ _ _ (by omega) (by omega)⟩
    have PY : PtY x y := ⟨fun w => isPoint_yes _ _ _ hx hy⟩
    clear hx hy
    go_enter Tryz.func90, Tryz.ntmps90
    go_wp2_with fail
    refine (SY.call _).mono ?_
    rintro e w1 ⟨rfl, hb1⟩
    have hc : Blk w1 w.heap.size #[.int .i64 0, .bool true] 52 := Blk.belowAt hb1 (Blk.new _ _ _)
    have hB1 : Below w.heap.size w w1 := by (repeat' (first | (with_reducible exact Below.refl _ _) | (with_reducible assumption) | (with_reducible refine Below.alloc ?_ ?_ _) | (with_reducible refine Below.drew ?_) | (with_reducible refine Below.setCell ?_ ?_ _) | (with_reducible refine Below.trans ?_ (Below.mono (by assumption) ?_)) | (with_reducible exact Nat.le_refl _) | omega | (simp only [World.size_alloc, World.size_setCell, World.size_drew]; omega) | (simp; omega) | (simp; done)))
    have hl1 := hc.lt
    have c0 := Blk.cellAt (i := 0) hc rfl
    have c1 := Blk.cellAt (i := 1) hc rfl
    simp only [List.getElem_toArray, List.getElem_cons_zero, List.getElem_cons_succ] at c0 c1
    clear hc hb1
    go_wp2_with fail
    refine (PY.call _).mono ?_
    rintro e w2 ⟨rfl, rfl⟩
    go_wp2_with fail
    go_cut [5] (fun s wx => ∃ g : Nat, s = .pointer (some ⟨g, 0, Option.none⟩) ∧ wx.cell? ⟨g, 0, Option.none⟩ = some (.complex .f32 1065353216 0) ∧ wx.cell? ⟨g, 1, Option.none⟩ = some (.complex .f32 0 3212836864) ∧ Below w.heap.size w wx)
    case first =>
      go_region_held3 (fun wx => Below w.heap.size w wx ∧ w.heap.size < wx.heap.size ∧ wx.cell? ⟨w.heap.size, 0, Option.none⟩ = some (.int .i64 (0)) ∧ wx.cell? ⟨w.heap.size, 1, Option.none⟩ = some (.bool (true)))
        (((repeat' apply And.intro) <;> first | (with_reducible assumption) | (((repeat (first | (with_reducible assumption) | (with_reducible exact cNewAt (by first | rfl | (simp only [World.size_alloc, World.size_setCell, World.size_drew]; done) | omega) rfl) | (with_reducible exact sNewAt (by first | rfl | (simp only [World.size_alloc, World.size_setCell, World.size_drew]; done) | omega) rfl) | (simp; done) | (with_reducible apply cAlloc) | (with_reducible apply cDrew) | (with_reducible refine cSet (by dsimp only; omega) ?_) | (with_reducible refine cSetOff (by dsimp only; omega) ?_) | (with_reducible apply cSame) | (with_reducible refine cBelow (by assumption) ?_) | (with_reducible apply sAlloc) | (with_reducible apply sDrew) | (with_reducible refine sBelow (by assumption) ?_) | (with_reducible refine sSet (by dsimp only; omega) ?_))); first | done | (simp [*]; done)); done) | (simp only [World.size_alloc, World.size_setCell, World.size_drew]; omega) | omega | (go_keep; done) | ((repeat' (first | (with_reducible exact Below.refl _ _) | (with_reducible assumption) | (with_reducible refine Below.alloc ?_ ?_ _) | (with_reducible refine Below.drew ?_) | (with_reducible refine Below.setCell ?_ ?_ _) | (with_reducible refine Below.trans ?_ (Below.mono (by assumption) ?_)) | (with_reducible exact Nat.le_refl _) | omega | (simp only [World.size_alloc, World.size_setCell, World.size_drew]; omega) | (simp; omega) | (simp; done))); done)))
        (first | (go_at_call 124; (with_reducible refine (U.call _).mono ?_); rintro e w4 ⟨rfl, hb⟩; obtain ⟨hc, hf⟩ := bcell hb; have HL := keepL (by (repeat (first | (with_reducible assumption) | (with_reducible apply AllLt.alloc) | (with_reducible apply AllLt.setCell) | (with_reducible apply AllLt.drew) | (with_reducible exact AllLt.nil _)))) hb; have hq := HL; simp only [AllLt, and_true, World.size_alloc, World.size_setCell, World.size_drew] at hq; have hbs := hb.size; try simp only [World.size_alloc, World.size_setCell, World.size_drew] at hbs) | (go_at_call 125; (with_reducible refine (L.call _).mono ?_); rintro e w4 ⟨rfl, hb⟩; obtain ⟨hc, hf⟩ := bcell hb; have HL := keepL (by (repeat (first | (with_reducible assumption) | (with_reducible apply AllLt.alloc) | (with_reducible apply AllLt.setCell) | (with_reducible apply AllLt.drew) | (with_reducible exact AllLt.nil _)))) hb; have hq := HL; simp only [AllLt, and_true, World.size_alloc, World.size_setCell, World.size_drew] at hq; have hbs := hb.size; try simp only [World.size_alloc, World.size_setCell, World.size_drew] at hbs))
      all_goals (go_wp2_with fail; go_meet; refine ⟨_, rfl, ?_⟩; ((repeat' apply And.intro) <;> first | (with_reducible assumption) | (((repeat (first | (with_reducible assumption) | (with_reducible exact cNewAt (by first | rfl | (simp only [World.size_alloc, World.size_setCell, World.size_drew]; done) | omega) rfl) | (with_reducible exact sNewAt (by first | rfl | (simp only [World.size_alloc, World.size_setCell, World.size_drew]; done) | omega) rfl) | (simp; done) | (with_reducible apply cAlloc) | (with_reducible apply cDrew) | (with_reducible refine cSet (by dsimp only; omega) ?_) | (with_reducible refine cSetOff (by dsimp only; omega) ?_) | (with_reducible apply cSame) | (with_reducible refine cBelow (by assumption) ?_) | (with_reducible apply sAlloc) | (with_reducible apply sDrew) | (with_reducible refine sBelow (by assumption) ?_) | (with_reducible refine sSet (by dsimp only; omega) ?_))); first | done | (simp [*]; done)); done) | (simp only [World.size_alloc, World.size_setCell, World.size_drew]; omega) | omega | (go_keep; done) | ((repeat' (first | (with_reducible exact Below.refl _ _) | (with_reducible assumption) | (with_reducible refine Below.alloc ?_ ?_ _) | (with_reducible refine Below.drew ?_) | (with_reducible refine Below.setCell ?_ ?_ _) | (with_reducible refine Below.trans ?_ (Below.mono (by assumption) ?_)) | (with_reducible exact Nat.le_refl _) | omega | (simp only [World.size_alloc, World.size_setCell, World.size_drew]; omega) | (simp; omega) | (simp; done))); done)))
    case rest =>
      obtain ⟨g, rfl, c0, c1, hB⟩ := hcut
      have hgl := cell_lt c0
      go_wp2_with fail
      clear U L SY PY
      refine wp_region_still_lit (by kernel_rfl) (by kernel_rfl) ?_
      repeat still_step
      still_call (X.p.call _)
      repeat still_step
      still_call (Y.z.call _)
      repeat still_step
      still_call (X.c0.call _)
      repeat still_step
      still_call (X.z.call _)
      repeat still_step
      still_call (Y.m.call _)
      repeat still_step
      still_call (Y.on.call _)
      repeat still_step
      refine wpStill_nil ?_
      go_wp2
      all_goals (go_returns; exact ⟨rfl, hB.drew⟩)
  · have L : PlaceIs 1 false 1 := ⟨fun w => placeOf_i _ _ _ (by omega) (by omega)⟩
    have SY : IsY 1 false := ⟨fun w => isSym_yes _ _ _ (by omega) (by omega)⟩
    have PY : PtY x y := ⟨fun w => isPoint_yes _ _ _ hx hy⟩
    clear hx hy
    go_enter Tryz.func90, Tryz.ntmps90
    go_wp2_with fail
    refine (SY.call _).mono ?_
    rintro e w1 ⟨rfl, hb1⟩
    have hc : Blk w1 w.heap.size #[.int .i64 1, .bool false] 52 := Blk.belowAt hb1 (Blk.new _ _ _)
    have hB1 : Below w.heap.size w w1 := by (repeat' (first | (with_reducible exact Below.refl _ _) | (with_reducible assumption) | (with_reducible refine Below.alloc ?_ ?_ _) | (with_reducible refine Below.drew ?_) | (with_reducible refine Below.setCell ?_ ?_ _) | (with_reducible refine Below.trans ?_ (Below.mono (by assumption) ?_)) | (with_reducible exact Nat.le_refl _) | omega | (simp only [World.size_alloc, World.size_setCell, World.size_drew]; omega) | (simp; omega) | (simp; done)))
    have hl1 := hc.lt
    have c0 := Blk.cellAt (i := 0) hc rfl
    have c1 := Blk.cellAt (i := 1) hc rfl
    simp only [List.getElem_toArray, List.getElem_cons_zero, List.getElem_cons_succ] at c0 c1
    clear hc hb1
    go_wp2_with fail
    refine (PY.call _).mono ?_
    rintro e w2 ⟨rfl, rfl⟩
    go_wp2_with fail
    go_cut [5] (fun s wx => ∃ g : Nat, s = .pointer (some ⟨g, 0, Option.none⟩) ∧ wx.cell? ⟨g, 0, Option.none⟩ = some (.complex .f32 0 1065353216) ∧ wx.cell? ⟨g, 1, Option.none⟩ = some (.complex .f32 3212836864 0) ∧ Below w.heap.size w wx)
    case first =>
      go_region_held3 (fun wx => Below w.heap.size w wx ∧ w.heap.size < wx.heap.size ∧ wx.cell? ⟨w.heap.size, 0, Option.none⟩ = some (.int .i64 (1)) ∧ wx.cell? ⟨w.heap.size, 1, Option.none⟩ = some (.bool (false)))
        (((repeat' apply And.intro) <;> first | (with_reducible assumption) | (((repeat (first | (with_reducible assumption) | (with_reducible exact cNewAt (by first | rfl | (simp only [World.size_alloc, World.size_setCell, World.size_drew]; done) | omega) rfl) | (with_reducible exact sNewAt (by first | rfl | (simp only [World.size_alloc, World.size_setCell, World.size_drew]; done) | omega) rfl) | (simp; done) | (with_reducible apply cAlloc) | (with_reducible apply cDrew) | (with_reducible refine cSet (by dsimp only; omega) ?_) | (with_reducible refine cSetOff (by dsimp only; omega) ?_) | (with_reducible apply cSame) | (with_reducible refine cBelow (by assumption) ?_) | (with_reducible apply sAlloc) | (with_reducible apply sDrew) | (with_reducible refine sBelow (by assumption) ?_) | (with_reducible refine sSet (by dsimp only; omega) ?_))); first | done | (simp [*]; done)); done) | (simp only [World.size_alloc, World.size_setCell, World.size_drew]; omega) | omega | (go_keep; done) | ((repeat' (first | (with_reducible exact Below.refl _ _) | (with_reducible assumption) | (with_reducible refine Below.alloc ?_ ?_ _) | (with_reducible refine Below.drew ?_) | (with_reducible refine Below.setCell ?_ ?_ _) | (with_reducible refine Below.trans ?_ (Below.mono (by assumption) ?_)) | (with_reducible exact Nat.le_refl _) | omega | (simp only [World.size_alloc, World.size_setCell, World.size_drew]; omega) | (simp; omega) | (simp; done))); done)))
        (first | (go_at_call 124; (with_reducible refine (U.call _).mono ?_); rintro e w4 ⟨rfl, hb⟩; obtain ⟨hc, hf⟩ := bcell hb; have HL := keepL (by (repeat (first | (with_reducible assumption) | (with_reducible apply AllLt.alloc) | (with_reducible apply AllLt.setCell) | (with_reducible apply AllLt.drew) | (with_reducible exact AllLt.nil _)))) hb; have hq := HL; simp only [AllLt, and_true, World.size_alloc, World.size_setCell, World.size_drew] at hq; have hbs := hb.size; try simp only [World.size_alloc, World.size_setCell, World.size_drew] at hbs) | (go_at_call 125; (with_reducible refine (L.call _).mono ?_); rintro e w4 ⟨rfl, hb⟩; obtain ⟨hc, hf⟩ := bcell hb; have HL := keepL (by (repeat (first | (with_reducible assumption) | (with_reducible apply AllLt.alloc) | (with_reducible apply AllLt.setCell) | (with_reducible apply AllLt.drew) | (with_reducible exact AllLt.nil _)))) hb; have hq := HL; simp only [AllLt, and_true, World.size_alloc, World.size_setCell, World.size_drew] at hq; have hbs := hb.size; try simp only [World.size_alloc, World.size_setCell, World.size_drew] at hbs))
      all_goals (go_wp2_with fail; go_meet; refine ⟨_, rfl, ?_⟩; ((repeat' apply And.intro) <;> first | (with_reducible assumption) | (((repeat (first | (with_reducible assumption) | (with_reducible exact cNewAt (by first | rfl | (simp only [World.size_alloc, World.size_setCell, World.size_drew]; done) | omega) rfl) | (with_reducible exact sNewAt (by first | rfl | (simp only [World.size_alloc, World.size_setCell, World.size_drew]; done) | omega) rfl) | (simp; done) | (with_reducible apply cAlloc) | (with_reducible apply cDrew) | (with_reducible refine cSet (by dsimp only; omega) ?_) | (with_reducible refine cSetOff (by dsimp only; omega) ?_) | (with_reducible apply cSame) | (with_reducible refine cBelow (by assumption) ?_) | (with_reducible apply sAlloc) | (with_reducible apply sDrew) | (with_reducible refine sBelow (by assumption) ?_) | (with_reducible refine sSet (by dsimp only; omega) ?_))); first | done | (simp [*]; done)); done) | (simp only [World.size_alloc, World.size_setCell, World.size_drew]; omega) | omega | (go_keep; done) | ((repeat' (first | (with_reducible exact Below.refl _ _) | (with_reducible assumption) | (with_reducible refine Below.alloc ?_ ?_ _) | (with_reducible refine Below.drew ?_) | (with_reducible refine Below.setCell ?_ ?_ _) | (with_reducible refine Below.trans ?_ (Below.mono (by assumption) ?_)) | (with_reducible exact Nat.le_refl _) | omega | (simp only [World.size_alloc, World.size_setCell, World.size_drew]; omega) | (simp; omega) | (simp; done))); done)))
    case rest =>
      obtain ⟨g, rfl, c0, c1, hB⟩ := hcut
      have hgl := cell_lt c0
      go_wp2_with fail
      clear U L SY PY
      refine wp_region_still_lit (by kernel_rfl) (by kernel_rfl) ?_
      repeat still_step
      still_call (X.z.call _)
      repeat still_step
      still_call (Y.m.call _)
      repeat still_step
      still_call (Y.on.call _)
      repeat still_step
      still_call (X.p.call _)
      repeat still_step
      still_call (Y.z.call _)
      repeat still_step
      still_call (X.c0.call _)
      repeat still_step
      refine wpStill_nil ?_
      go_wp2
      all_goals (go_returns; exact ⟨rfl, hB.drew⟩)
  · have L : PlaceIs 1 true 5 := ⟨fun w => placeOf_i _ _ _ (by omega) (by omega)⟩
    have SY : IsY 1 true := ⟨fun w => isSym_yes _ _ _ (by omega) (by omega)⟩
    have PY : PtY x y := ⟨fun w => isPoint_yes _ _ _ hx hy⟩
    clear hx hy
    go_enter Tryz.func90, Tryz.ntmps90
    go_wp2_with fail
    refine (SY.call _).mono ?_
    rintro e w1 ⟨rfl, hb1⟩
    have hc : Blk w1 w.heap.size #[.int .i64 1, .bool true] 52 := Blk.belowAt hb1 (Blk.new _ _ _)
    have hB1 : Below w.heap.size w w1 := by (repeat' (first | (with_reducible exact Below.refl _ _) | (with_reducible assumption) | (with_reducible refine Below.alloc ?_ ?_ _) | (with_reducible refine Below.drew ?_) | (with_reducible refine Below.setCell ?_ ?_ _) | (with_reducible refine Below.trans ?_ (Below.mono (by assumption) ?_)) | (with_reducible exact Nat.le_refl _) | omega | (simp only [World.size_alloc, World.size_setCell, World.size_drew]; omega) | (simp; omega) | (simp; done)))
    have hl1 := hc.lt
    have c0 := Blk.cellAt (i := 0) hc rfl
    have c1 := Blk.cellAt (i := 1) hc rfl
    simp only [List.getElem_toArray, List.getElem_cons_zero, List.getElem_cons_succ] at c0 c1
    clear hc hb1
    go_wp2_with fail
    refine (PY.call _).mono ?_
    rintro e w2 ⟨rfl, rfl⟩
    go_wp2_with fail
    go_cut [5] (fun s wx => ∃ g : Nat, s = .pointer (some ⟨g, 0, Option.none⟩) ∧ wx.cell? ⟨g, 0, Option.none⟩ = some (.complex .f32 0 1065353216) ∧ wx.cell? ⟨g, 1, Option.none⟩ = some (.complex .f32 1065353216 0) ∧ Below w.heap.size w wx)
    case first =>
      go_region_held3 (fun wx => Below w.heap.size w wx ∧ w.heap.size < wx.heap.size ∧ wx.cell? ⟨w.heap.size, 0, Option.none⟩ = some (.int .i64 (1)) ∧ wx.cell? ⟨w.heap.size, 1, Option.none⟩ = some (.bool (true)))
        (((repeat' apply And.intro) <;> first | (with_reducible assumption) | (((repeat (first | (with_reducible assumption) | (with_reducible exact cNewAt (by first | rfl | (simp only [World.size_alloc, World.size_setCell, World.size_drew]; done) | omega) rfl) | (with_reducible exact sNewAt (by first | rfl | (simp only [World.size_alloc, World.size_setCell, World.size_drew]; done) | omega) rfl) | (simp; done) | (with_reducible apply cAlloc) | (with_reducible apply cDrew) | (with_reducible refine cSet (by dsimp only; omega) ?_) | (with_reducible refine cSetOff (by dsimp only; omega) ?_) | (with_reducible apply cSame) | (with_reducible refine cBelow (by assumption) ?_) | (with_reducible apply sAlloc) | (with_reducible apply sDrew) | (with_reducible refine sBelow (by assumption) ?_) | (with_reducible refine sSet (by dsimp only; omega) ?_))); first | done | (simp [*]; done)); done) | (simp only [World.size_alloc, World.size_setCell, World.size_drew]; omega) | omega | (go_keep; done) | ((repeat' (first | (with_reducible exact Below.refl _ _) | (with_reducible assumption) | (with_reducible refine Below.alloc ?_ ?_ _) | (with_reducible refine Below.drew ?_) | (with_reducible refine Below.setCell ?_ ?_ _) | (with_reducible refine Below.trans ?_ (Below.mono (by assumption) ?_)) | (with_reducible exact Nat.le_refl _) | omega | (simp only [World.size_alloc, World.size_setCell, World.size_drew]; omega) | (simp; omega) | (simp; done))); done)))
        (first | (go_at_call 124; (with_reducible refine (U.call _).mono ?_); rintro e w4 ⟨rfl, hb⟩; obtain ⟨hc, hf⟩ := bcell hb; have HL := keepL (by (repeat (first | (with_reducible assumption) | (with_reducible apply AllLt.alloc) | (with_reducible apply AllLt.setCell) | (with_reducible apply AllLt.drew) | (with_reducible exact AllLt.nil _)))) hb; have hq := HL; simp only [AllLt, and_true, World.size_alloc, World.size_setCell, World.size_drew] at hq; have hbs := hb.size; try simp only [World.size_alloc, World.size_setCell, World.size_drew] at hbs) | (go_at_call 125; (with_reducible refine (L.call _).mono ?_); rintro e w4 ⟨rfl, hb⟩; obtain ⟨hc, hf⟩ := bcell hb; have HL := keepL (by (repeat (first | (with_reducible assumption) | (with_reducible apply AllLt.alloc) | (with_reducible apply AllLt.setCell) | (with_reducible apply AllLt.drew) | (with_reducible exact AllLt.nil _)))) hb; have hq := HL; simp only [AllLt, and_true, World.size_alloc, World.size_setCell, World.size_drew] at hq; have hbs := hb.size; try simp only [World.size_alloc, World.size_setCell, World.size_drew] at hbs))
      all_goals (go_wp2_with fail; go_meet; refine ⟨_, rfl, ?_⟩; ((repeat' apply And.intro) <;> first | (with_reducible assumption) | (((repeat (first | (with_reducible assumption) | (with_reducible exact cNewAt (by first | rfl | (simp only [World.size_alloc, World.size_setCell, World.size_drew]; done) | omega) rfl) | (with_reducible exact sNewAt (by first | rfl | (simp only [World.size_alloc, World.size_setCell, World.size_drew]; done) | omega) rfl) | (simp; done) | (with_reducible apply cAlloc) | (with_reducible apply cDrew) | (with_reducible refine cSet (by dsimp only; omega) ?_) | (with_reducible refine cSetOff (by dsimp only; omega) ?_) | (with_reducible apply cSame) | (with_reducible refine cBelow (by assumption) ?_) | (with_reducible apply sAlloc) | (with_reducible apply sDrew) | (with_reducible refine sBelow (by assumption) ?_) | (with_reducible refine sSet (by dsimp only; omega) ?_))); first | done | (simp [*]; done)); done) | (simp only [World.size_alloc, World.size_setCell, World.size_drew]; omega) | omega | (go_keep; done) | ((repeat' (first | (with_reducible exact Below.refl _ _) | (with_reducible assumption) | (with_reducible refine Below.alloc ?_ ?_ _) | (with_reducible refine Below.drew ?_) | (with_reducible refine Below.setCell ?_ ?_ _) | (with_reducible refine Below.trans ?_ (Below.mono (by assumption) ?_)) | (with_reducible exact Nat.le_refl _) | omega | (simp only [World.size_alloc, World.size_setCell, World.size_drew]; omega) | (simp; omega) | (simp; done))); done)))
    case rest =>
      obtain ⟨g, rfl, c0, c1, hB⟩ := hcut
      have hgl := cell_lt c0
      go_wp2_with fail
      clear U L SY PY
      refine wp_region_still_lit (by kernel_rfl) (by kernel_rfl) ?_
      repeat still_step
      still_call (X.z.call _)
      repeat still_step
      still_call (Y.p.call _)
      repeat still_step
      still_call (Y.oc.call _)
      repeat still_step
      still_call (X.p.call _)
      repeat still_step
      still_call (Y.z.call _)
      repeat still_step
      still_call (X.c0.call _)
      repeat still_step
      refine wpStill_nil ?_
      go_wp2
      all_goals (go_returns; exact ⟨rfl, hB.drew⟩)
  · have L : PlaceIs 2 false 2 := ⟨fun w => placeOf_i _ _ _ (by omega) (by omega)⟩
    have SY : IsY 2 false := ⟨fun w => isSym_yes _ _ _ (by omega) (by omega)⟩
    have PY : PtY x y := ⟨fun w => isPoint_yes _ _ _ hx hy⟩
    clear hx hy
    go_enter Tryz.func90, Tryz.ntmps90
    go_wp2_with fail
    refine (SY.call _).mono ?_
    rintro e w1 ⟨rfl, hb1⟩
    have hc : Blk w1 w.heap.size #[.int .i64 2, .bool false] 52 := Blk.belowAt hb1 (Blk.new _ _ _)
    have hB1 : Below w.heap.size w w1 := by (repeat' (first | (with_reducible exact Below.refl _ _) | (with_reducible assumption) | (with_reducible refine Below.alloc ?_ ?_ _) | (with_reducible refine Below.drew ?_) | (with_reducible refine Below.setCell ?_ ?_ _) | (with_reducible refine Below.trans ?_ (Below.mono (by assumption) ?_)) | (with_reducible exact Nat.le_refl _) | omega | (simp only [World.size_alloc, World.size_setCell, World.size_drew]; omega) | (simp; omega) | (simp; done)))
    have hl1 := hc.lt
    have c0 := Blk.cellAt (i := 0) hc rfl
    have c1 := Blk.cellAt (i := 1) hc rfl
    simp only [List.getElem_toArray, List.getElem_cons_zero, List.getElem_cons_succ] at c0 c1
    clear hc hb1
    go_wp2_with fail
    refine (PY.call _).mono ?_
    rintro e w2 ⟨rfl, rfl⟩
    go_wp2_with fail
    go_cut [5] (fun s wx => ∃ g : Nat, s = .pointer (some ⟨g, 0, Option.none⟩) ∧ wx.cell? ⟨g, 0, Option.none⟩ = some (.complex .f32 3212836864 0) ∧ wx.cell? ⟨g, 1, Option.none⟩ = some (.complex .f32 2147483648 3212836864) ∧ Below w.heap.size w wx)
    case first =>
      go_region_held3 (fun wx => Below w.heap.size w wx ∧ w.heap.size < wx.heap.size ∧ wx.cell? ⟨w.heap.size, 0, Option.none⟩ = some (.int .i64 (2)) ∧ wx.cell? ⟨w.heap.size, 1, Option.none⟩ = some (.bool (false)))
        (((repeat' apply And.intro) <;> first | (with_reducible assumption) | (((repeat (first | (with_reducible assumption) | (with_reducible exact cNewAt (by first | rfl | (simp only [World.size_alloc, World.size_setCell, World.size_drew]; done) | omega) rfl) | (with_reducible exact sNewAt (by first | rfl | (simp only [World.size_alloc, World.size_setCell, World.size_drew]; done) | omega) rfl) | (simp; done) | (with_reducible apply cAlloc) | (with_reducible apply cDrew) | (with_reducible refine cSet (by dsimp only; omega) ?_) | (with_reducible refine cSetOff (by dsimp only; omega) ?_) | (with_reducible apply cSame) | (with_reducible refine cBelow (by assumption) ?_) | (with_reducible apply sAlloc) | (with_reducible apply sDrew) | (with_reducible refine sBelow (by assumption) ?_) | (with_reducible refine sSet (by dsimp only; omega) ?_))); first | done | (simp [*]; done)); done) | (simp only [World.size_alloc, World.size_setCell, World.size_drew]; omega) | omega | (go_keep; done) | ((repeat' (first | (with_reducible exact Below.refl _ _) | (with_reducible assumption) | (with_reducible refine Below.alloc ?_ ?_ _) | (with_reducible refine Below.drew ?_) | (with_reducible refine Below.setCell ?_ ?_ _) | (with_reducible refine Below.trans ?_ (Below.mono (by assumption) ?_)) | (with_reducible exact Nat.le_refl _) | omega | (simp only [World.size_alloc, World.size_setCell, World.size_drew]; omega) | (simp; omega) | (simp; done))); done)))
        (first | (go_at_call 124; (with_reducible refine (U.call _).mono ?_); rintro e w4 ⟨rfl, hb⟩; obtain ⟨hc, hf⟩ := bcell hb; have HL := keepL (by (repeat (first | (with_reducible assumption) | (with_reducible apply AllLt.alloc) | (with_reducible apply AllLt.setCell) | (with_reducible apply AllLt.drew) | (with_reducible exact AllLt.nil _)))) hb; have hq := HL; simp only [AllLt, and_true, World.size_alloc, World.size_setCell, World.size_drew] at hq; have hbs := hb.size; try simp only [World.size_alloc, World.size_setCell, World.size_drew] at hbs) | (go_at_call 125; (with_reducible refine (L.call _).mono ?_); rintro e w4 ⟨rfl, hb⟩; obtain ⟨hc, hf⟩ := bcell hb; have HL := keepL (by (repeat (first | (with_reducible assumption) | (with_reducible apply AllLt.alloc) | (with_reducible apply AllLt.setCell) | (with_reducible apply AllLt.drew) | (with_reducible exact AllLt.nil _)))) hb; have hq := HL; simp only [AllLt, and_true, World.size_alloc, World.size_setCell, World.size_drew] at hq; have hbs := hb.size; try simp only [World.size_alloc, World.size_setCell, World.size_drew] at hbs))
      all_goals (go_wp2_with fail; go_meet; refine ⟨_, rfl, ?_⟩; ((repeat' apply And.intro) <;> first | (with_reducible assumption) | (((repeat (first | (with_reducible assumption) | (with_reducible exact cNewAt (by first | rfl | (simp only [World.size_alloc, World.size_setCell, World.size_drew]; done) | omega) rfl) | (with_reducible exact sNewAt (by first | rfl | (simp only [World.size_alloc, World.size_setCell, World.size_drew]; done) | omega) rfl) | (simp; done) | (with_reducible apply cAlloc) | (with_reducible apply cDrew) | (with_reducible refine cSet (by dsimp only; omega) ?_) | (with_reducible refine cSetOff (by dsimp only; omega) ?_) | (with_reducible apply cSame) | (with_reducible refine cBelow (by assumption) ?_) | (with_reducible apply sAlloc) | (with_reducible apply sDrew) | (with_reducible refine sBelow (by assumption) ?_) | (with_reducible refine sSet (by dsimp only; omega) ?_))); first | done | (simp [*]; done)); done) | (simp only [World.size_alloc, World.size_setCell, World.size_drew]; omega) | omega | (go_keep; done) | ((repeat' (first | (with_reducible exact Below.refl _ _) | (with_reducible assumption) | (with_reducible refine Below.alloc ?_ ?_ _) | (with_reducible refine Below.drew ?_) | (with_reducible refine Below.setCell ?_ ?_ _) | (with_reducible refine Below.trans ?_ (Below.mono (by assumption) ?_)) | (with_reducible exact Nat.le_refl _) | omega | (simp only [World.size_alloc, World.size_setCell, World.size_drew]; omega) | (simp; omega) | (simp; done))); done)))
    case rest =>
      obtain ⟨g, rfl, c0, c1, hB⟩ := hcut
      have hgl := cell_lt c0
      go_wp2_with fail
      clear U L SY PY
      refine wp_region_still_lit (by kernel_rfl) (by kernel_rfl) ?_
      repeat still_step
      still_call (X.m.call _)
      repeat still_step
      still_call (Y.u.call _)
      repeat still_step
      still_call (X.n0.call _)
      repeat still_step
      still_call (X.z.call _)
      repeat still_step
      still_call (Y.m.call _)
      repeat still_step
      still_call (Y.on.call _)
      repeat still_step
      refine wpStill_nil ?_
      go_wp2
      all_goals (go_returns; exact ⟨rfl, hB.drew⟩)
  · have L : PlaceIs 2 true 6 := ⟨fun w => placeOf_i _ _ _ (by omega) (by omega)⟩
    have SY : IsY 2 true := ⟨fun w => isSym_yes _ _ _ (by omega) (by omega)⟩
    have PY : PtY x y := ⟨fun w => isPoint_yes _ _ _ hx hy⟩
    clear hx hy
    go_enter Tryz.func90, Tryz.ntmps90
    go_wp2_with fail
    refine (SY.call _).mono ?_
    rintro e w1 ⟨rfl, hb1⟩
    have hc : Blk w1 w.heap.size #[.int .i64 2, .bool true] 52 := Blk.belowAt hb1 (Blk.new _ _ _)
    have hB1 : Below w.heap.size w w1 := by (repeat' (first | (with_reducible exact Below.refl _ _) | (with_reducible assumption) | (with_reducible refine Below.alloc ?_ ?_ _) | (with_reducible refine Below.drew ?_) | (with_reducible refine Below.setCell ?_ ?_ _) | (with_reducible refine Below.trans ?_ (Below.mono (by assumption) ?_)) | (with_reducible exact Nat.le_refl _) | omega | (simp only [World.size_alloc, World.size_setCell, World.size_drew]; omega) | (simp; omega) | (simp; done)))
    have hl1 := hc.lt
    have c0 := Blk.cellAt (i := 0) hc rfl
    have c1 := Blk.cellAt (i := 1) hc rfl
    simp only [List.getElem_toArray, List.getElem_cons_zero, List.getElem_cons_succ] at c0 c1
    clear hc hb1
    go_wp2_with fail
    refine (PY.call _).mono ?_
    rintro e w2 ⟨rfl, rfl⟩
    go_wp2_with fail
    go_cut [5] (fun s wx => ∃ g : Nat, s = .pointer (some ⟨g, 0, Option.none⟩) ∧ wx.cell? ⟨g, 0, Option.none⟩ = some (.complex .f32 3212836864 0) ∧ wx.cell? ⟨g, 1, Option.none⟩ = some (.complex .f32 0 1065353216) ∧ Below w.heap.size w wx)
    case first =>
      go_region_held3 (fun wx => Below w.heap.size w wx ∧ w.heap.size < wx.heap.size ∧ wx.cell? ⟨w.heap.size, 0, Option.none⟩ = some (.int .i64 (2)) ∧ wx.cell? ⟨w.heap.size, 1, Option.none⟩ = some (.bool (true)))
        (((repeat' apply And.intro) <;> first | (with_reducible assumption) | (((repeat (first | (with_reducible assumption) | (with_reducible exact cNewAt (by first | rfl | (simp only [World.size_alloc, World.size_setCell, World.size_drew]; done) | omega) rfl) | (with_reducible exact sNewAt (by first | rfl | (simp only [World.size_alloc, World.size_setCell, World.size_drew]; done) | omega) rfl) | (simp; done) | (with_reducible apply cAlloc) | (with_reducible apply cDrew) | (with_reducible refine cSet (by dsimp only; omega) ?_) | (with_reducible refine cSetOff (by dsimp only; omega) ?_) | (with_reducible apply cSame) | (with_reducible refine cBelow (by assumption) ?_) | (with_reducible apply sAlloc) | (with_reducible apply sDrew) | (with_reducible refine sBelow (by assumption) ?_) | (with_reducible refine sSet (by dsimp only; omega) ?_))); first | done | (simp [*]; done)); done) | (simp only [World.size_alloc, World.size_setCell, World.size_drew]; omega) | omega | (go_keep; done) | ((repeat' (first | (with_reducible exact Below.refl _ _) | (with_reducible assumption) | (with_reducible refine Below.alloc ?_ ?_ _) | (with_reducible refine Below.drew ?_) | (with_reducible refine Below.setCell ?_ ?_ _) | (with_reducible refine Below.trans ?_ (Below.mono (by assumption) ?_)) | (with_reducible exact Nat.le_refl _) | omega | (simp only [World.size_alloc, World.size_setCell, World.size_drew]; omega) | (simp; omega) | (simp; done))); done)))
        (first | (go_at_call 124; (with_reducible refine (U.call _).mono ?_); rintro e w4 ⟨rfl, hb⟩; obtain ⟨hc, hf⟩ := bcell hb; have HL := keepL (by (repeat (first | (with_reducible assumption) | (with_reducible apply AllLt.alloc) | (with_reducible apply AllLt.setCell) | (with_reducible apply AllLt.drew) | (with_reducible exact AllLt.nil _)))) hb; have hq := HL; simp only [AllLt, and_true, World.size_alloc, World.size_setCell, World.size_drew] at hq; have hbs := hb.size; try simp only [World.size_alloc, World.size_setCell, World.size_drew] at hbs) | (go_at_call 125; (with_reducible refine (L.call _).mono ?_); rintro e w4 ⟨rfl, hb⟩; obtain ⟨hc, hf⟩ := bcell hb; have HL := keepL (by (repeat (first | (with_reducible assumption) | (with_reducible apply AllLt.alloc) | (with_reducible apply AllLt.setCell) | (with_reducible apply AllLt.drew) | (with_reducible exact AllLt.nil _)))) hb; have hq := HL; simp only [AllLt, and_true, World.size_alloc, World.size_setCell, World.size_drew] at hq; have hbs := hb.size; try simp only [World.size_alloc, World.size_setCell, World.size_drew] at hbs))
      all_goals (go_wp2_with fail; go_meet; refine ⟨_, rfl, ?_⟩; ((repeat' apply And.intro) <;> first | (with_reducible assumption) | (((repeat (first | (with_reducible assumption) | (with_reducible exact cNewAt (by first | rfl | (simp only [World.size_alloc, World.size_setCell, World.size_drew]; done) | omega) rfl) | (with_reducible exact sNewAt (by first | rfl | (simp only [World.size_alloc, World.size_setCell, World.size_drew]; done) | omega) rfl) | (simp; done) | (with_reducible apply cAlloc) | (with_reducible apply cDrew) | (with_reducible refine cSet (by dsimp only; omega) ?_) | (with_reducible refine cSetOff (by dsimp only; omega) ?_) | (with_reducible apply cSame) | (with_reducible refine cBelow (by assumption) ?_) | (with_reducible apply sAlloc) | (with_reducible apply sDrew) | (with_reducible refine sBelow (by assumption) ?_) | (with_reducible refine sSet (by dsimp only; omega) ?_))); first | done | (simp [*]; done)); done) | (simp only [World.size_alloc, World.size_setCell, World.size_drew]; omega) | omega | (go_keep; done) | ((repeat' (first | (with_reducible exact Below.refl _ _) | (with_reducible assumption) | (with_reducible refine Below.alloc ?_ ?_ _) | (with_reducible refine Below.drew ?_) | (with_reducible refine Below.setCell ?_ ?_ _) | (with_reducible refine Below.trans ?_ (Below.mono (by assumption) ?_)) | (with_reducible exact Nat.le_refl _) | omega | (simp only [World.size_alloc, World.size_setCell, World.size_drew]; omega) | (simp; omega) | (simp; done))); done)))
    case rest =>
      obtain ⟨g, rfl, c0, c1, hB⟩ := hcut
      have hgl := cell_lt c0
      go_wp2_with fail
      clear U L SY PY
      refine wp_region_still_lit (by kernel_rfl) (by kernel_rfl) ?_
      repeat still_step
      still_call (X.m.call _)
      repeat still_step
      still_call (Y.z.call _)
      repeat still_step
      still_call (X.n0.call _)
      repeat still_step
      still_call (X.z.call _)
      repeat still_step
      still_call (Y.p.call _)
      repeat still_step
      still_call (Y.oc.call _)
      repeat still_step
      refine wpStill_nil ?_
      go_wp2
      all_goals (go_returns; exact ⟨rfl, hB.drew⟩)
  · have L : PlaceIs 3 false 3 := ⟨fun w => placeOf_i _ _ _ (by omega) (by omega)⟩
    have SY : IsY 3 false := ⟨fun w => isSym_yes _ _ _ (by omega) (by omega)⟩
    have PY : PtY x y := ⟨fun w => isPoint_yes _ _ _ hx hy⟩
    clear hx hy
    go_enter Tryz.func90, Tryz.ntmps90
    go_wp2_with fail
    refine (SY.call _).mono ?_
    rintro e w1 ⟨rfl, hb1⟩
    have hc : Blk w1 w.heap.size #[.int .i64 3, .bool false] 52 := Blk.belowAt hb1 (Blk.new _ _ _)
    have hB1 : Below w.heap.size w w1 := by (repeat' (first | (with_reducible exact Below.refl _ _) | (with_reducible assumption) | (with_reducible refine Below.alloc ?_ ?_ _) | (with_reducible refine Below.drew ?_) | (with_reducible refine Below.setCell ?_ ?_ _) | (with_reducible refine Below.trans ?_ (Below.mono (by assumption) ?_)) | (with_reducible exact Nat.le_refl _) | omega | (simp only [World.size_alloc, World.size_setCell, World.size_drew]; omega) | (simp; omega) | (simp; done)))
    have hl1 := hc.lt
    have c0 := Blk.cellAt (i := 0) hc rfl
    have c1 := Blk.cellAt (i := 1) hc rfl
    simp only [List.getElem_toArray, List.getElem_cons_zero, List.getElem_cons_succ] at c0 c1
    clear hc hb1
    go_wp2_with fail
    refine (PY.call _).mono ?_
    rintro e w2 ⟨rfl, rfl⟩
    go_wp2_with fail
    go_cut [5] (fun s wx => ∃ g : Nat, s = .pointer (some ⟨g, 0, Option.none⟩) ∧ wx.cell? ⟨g, 0, Option.none⟩ = some (.complex .f32 2147483648 3212836864) ∧ wx.cell? ⟨g, 1, Option.none⟩ = some (.complex .f32 1065353216 2147483648) ∧ Below w.heap.size w wx)
    case first =>
      go_region_held3 (fun wx => Below w.heap.size w wx ∧ w.heap.size < wx.heap.size ∧ wx.cell? ⟨w.heap.size, 0, Option.none⟩ = some (.int .i64 (3)) ∧ wx.cell? ⟨w.heap.size, 1, Option.none⟩ = some (.bool (false)))
        (((repeat' apply And.intro) <;> first | (with_reducible assumption) | (((repeat (first | (with_reducible assumption) | (with_reducible exact cNewAt (by first | rfl | (simp only [World.size_alloc, World.size_setCell, World.size_drew]; done) | omega) rfl) | (with_reducible exact sNewAt (by first | rfl | (simp only [World.size_alloc, World.size_setCell, World.size_drew]; done) | omega) rfl) | (simp; done) | (with_reducible apply cAlloc) | (with_reducible apply cDrew) | (with_reducible refine cSet (by dsimp only; omega) ?_) | (with_reducible refine cSetOff (by dsimp only; omega) ?_) | (with_reducible apply cSame) | (with_reducible refine cBelow (by assumption) ?_) | (with_reducible apply sAlloc) | (with_reducible apply sDrew) | (with_reducible refine sBelow (by assumption) ?_) | (with_reducible refine sSet (by dsimp only; omega) ?_))); first | done | (simp [*]; done)); done) | (simp only [World.size_alloc, World.size_setCell, World.size_drew]; omega) | omega | (go_keep; done) | ((repeat' (first | (with_reducible exact Below.refl _ _) | (with_reducible assumption) | (with_reducible refine Below.alloc ?_ ?_ _) | (with_reducible refine Below.drew ?_) | (with_reducible refine Below.setCell ?_ ?_ _) | (with_reducible refine Below.trans ?_ (Below.mono (by assumption) ?_)) | (with_reducible exact Nat.le_refl _) | omega | (simp only [World.size_alloc, World.size_setCell, World.size_drew]; omega) | (simp; omega) | (simp; done))); done)))
        (first | (go_at_call 124; (with_reducible refine (U.call _).mono ?_); rintro e w4 ⟨rfl, hb⟩; obtain ⟨hc, hf⟩ := bcell hb; have HL := keepL (by (repeat (first | (with_reducible assumption) | (with_reducible apply AllLt.alloc) | (with_reducible apply AllLt.setCell) | (with_reducible apply AllLt.drew) | (with_reducible exact AllLt.nil _)))) hb; have hq := HL; simp only [AllLt, and_true, World.size_alloc, World.size_setCell, World.size_drew] at hq; have hbs := hb.size; try simp only [World.size_alloc, World.size_setCell, World.size_drew] at hbs) | (go_at_call 125; (with_reducible refine (L.call _).mono ?_); rintro e w4 ⟨rfl, hb⟩; obtain ⟨hc, hf⟩ := bcell hb; have HL := keepL (by (repeat (first | (with_reducible assumption) | (with_reducible apply AllLt.alloc) | (with_reducible apply AllLt.setCell) | (with_reducible apply AllLt.drew) | (with_reducible exact AllLt.nil _)))) hb; have hq := HL; simp only [AllLt, and_true, World.size_alloc, World.size_setCell, World.size_drew] at hq; have hbs := hb.size; try simp only [World.size_alloc, World.size_setCell, World.size_drew] at hbs))
      all_goals (go_wp2_with fail; go_meet; refine ⟨_, rfl, ?_⟩; ((repeat' apply And.intro) <;> first | (with_reducible assumption) | (((repeat (first | (with_reducible assumption) | (with_reducible exact cNewAt (by first | rfl | (simp only [World.size_alloc, World.size_setCell, World.size_drew]; done) | omega) rfl) | (with_reducible exact sNewAt (by first | rfl | (simp only [World.size_alloc, World.size_setCell, World.size_drew]; done) | omega) rfl) | (simp; done) | (with_reducible apply cAlloc) | (with_reducible apply cDrew) | (with_reducible refine cSet (by dsimp only; omega) ?_) | (with_reducible refine cSetOff (by dsimp only; omega) ?_) | (with_reducible apply cSame) | (with_reducible refine cBelow (by assumption) ?_) | (with_reducible apply sAlloc) | (with_reducible apply sDrew) | (with_reducible refine sBelow (by assumption) ?_) | (with_reducible refine sSet (by dsimp only; omega) ?_))); first | done | (simp [*]; done)); done) | (simp only [World.size_alloc, World.size_setCell, World.size_drew]; omega) | omega | (go_keep; done) | ((repeat' (first | (with_reducible exact Below.refl _ _) | (with_reducible assumption) | (with_reducible refine Below.alloc ?_ ?_ _) | (with_reducible refine Below.drew ?_) | (with_reducible refine Below.setCell ?_ ?_ _) | (with_reducible refine Below.trans ?_ (Below.mono (by assumption) ?_)) | (with_reducible exact Nat.le_refl _) | omega | (simp only [World.size_alloc, World.size_setCell, World.size_drew]; omega) | (simp; omega) | (simp; done))); done)))
    case rest =>
      obtain ⟨g, rfl, c0, c1, hB⟩ := hcut
      have hgl := cell_lt c0
      go_wp2_with fail
      clear U L SY PY
      refine wp_region_still_lit (by kernel_rfl) (by kernel_rfl) ?_
      repeat still_step
      still_call (X.u.call _)
      repeat still_step
      still_call (Y.p.call _)
      repeat still_step
      still_call (Y.oc.call _)
      repeat still_step
      still_call (X.m.call _)
      repeat still_step
      still_call (Y.u.call _)
      repeat still_step
      still_call (X.n0.call _)
      repeat still_step
      refine wpStill_nil ?_
      go_wp2
      all_goals (go_returns; exact ⟨rfl, hB.drew⟩)
  · have L : PlaceIs 3 true 7 := ⟨fun w => placeOf_i _ _ _ (by omega) (by omega)⟩
    have SY : IsY 3 true := ⟨fun w => isSym_yes _ _ _ (by omega) (by omega)⟩
    have PY : PtY x y := ⟨fun w => isPoint_yes _ _ _ hx hy⟩
    clear hx hy
    go_enter Tryz.func90, Tryz.ntmps90
    go_wp2_with fail
    refine (SY.call _).mono ?_
    rintro e w1 ⟨rfl, hb1⟩
    have hc : Blk w1 w.heap.size #[.int .i64 3, .bool true] 52 := Blk.belowAt hb1 (Blk.new _ _ _)
    have hB1 : Below w.heap.size w w1 := by (repeat' (first | (with_reducible exact Below.refl _ _) | (with_reducible assumption) | (with_reducible refine Below.alloc ?_ ?_ _) | (with_reducible refine Below.drew ?_) | (with_reducible refine Below.setCell ?_ ?_ _) | (with_reducible refine Below.trans ?_ (Below.mono (by assumption) ?_)) | (with_reducible exact Nat.le_refl _) | omega | (simp only [World.size_alloc, World.size_setCell, World.size_drew]; omega) | (simp; omega) | (simp; done)))
    have hl1 := hc.lt
    have c0 := Blk.cellAt (i := 0) hc rfl
    have c1 := Blk.cellAt (i := 1) hc rfl
    simp only [List.getElem_toArray, List.getElem_cons_zero, List.getElem_cons_succ] at c0 c1
    clear hc hb1
    go_wp2_with fail
    refine (PY.call _).mono ?_
    rintro e w2 ⟨rfl, rfl⟩
    go_wp2_with fail
    go_cut [5] (fun s wx => ∃ g : Nat, s = .pointer (some ⟨g, 0, Option.none⟩) ∧ wx.cell? ⟨g, 0, Option.none⟩ = some (.complex .f32 2147483648 3212836864) ∧ wx.cell? ⟨g, 1, Option.none⟩ = some (.complex .f32 3212836864 0) ∧ Below w.heap.size w wx)
    case first =>
      go_region_held3 (fun wx => Below w.heap.size w wx ∧ w.heap.size < wx.heap.size ∧ wx.cell? ⟨w.heap.size, 0, Option.none⟩ = some (.int .i64 (3)) ∧ wx.cell? ⟨w.heap.size, 1, Option.none⟩ = some (.bool (true)))
        (((repeat' apply And.intro) <;> first | (with_reducible assumption) | (((repeat (first | (with_reducible assumption) | (with_reducible exact cNewAt (by first | rfl | (simp only [World.size_alloc, World.size_setCell, World.size_drew]; done) | omega) rfl) | (with_reducible exact sNewAt (by first | rfl | (simp only [World.size_alloc, World.size_setCell, World.size_drew]; done) | omega) rfl) | (simp; done) | (with_reducible apply cAlloc) | (with_reducible apply cDrew) | (with_reducible refine cSet (by dsimp only; omega) ?_) | (with_reducible refine cSetOff (by dsimp only; omega) ?_) | (with_reducible apply cSame) | (with_reducible refine cBelow (by assumption) ?_) | (with_reducible apply sAlloc) | (with_reducible apply sDrew) | (with_reducible refine sBelow (by assumption) ?_) | (with_reducible refine sSet (by dsimp only; omega) ?_))); first | done | (simp [*]; done)); done) | (simp only [World.size_alloc, World.size_setCell, World.size_drew]; omega) | omega | (go_keep; done) | ((repeat' (first | (with_reducible exact Below.refl _ _) | (with_reducible assumption) | (with_reducible refine Below.alloc ?_ ?_ _) | (with_reducible refine Below.drew ?_) | (with_reducible refine Below.setCell ?_ ?_ _) | (with_reducible refine Below.trans ?_ (Below.mono (by assumption) ?_)) | (with_reducible exact Nat.le_refl _) | omega | (simp only [World.size_alloc, World.size_setCell, World.size_drew]; omega) | (simp; omega) | (simp; done))); done)))
        (first | (go_at_call 124; (with_reducible refine (U.call _).mono ?_); rintro e w4 ⟨rfl, hb⟩; obtain ⟨hc, hf⟩ := bcell hb; have HL := keepL (by (repeat (first | (with_reducible assumption) | (with_reducible apply AllLt.alloc) | (with_reducible apply AllLt.setCell) | (with_reducible apply AllLt.drew) | (with_reducible exact AllLt.nil _)))) hb; have hq := HL; simp only [AllLt, and_true, World.size_alloc, World.size_setCell, World.size_drew] at hq; have hbs := hb.size; try simp only [World.size_alloc, World.size_setCell, World.size_drew] at hbs) | (go_at_call 125; (with_reducible refine (L.call _).mono ?_); rintro e w4 ⟨rfl, hb⟩; obtain ⟨hc, hf⟩ := bcell hb; have HL := keepL (by (repeat (first | (with_reducible assumption) | (with_reducible apply AllLt.alloc) | (with_reducible apply AllLt.setCell) | (with_reducible apply AllLt.drew) | (with_reducible exact AllLt.nil _)))) hb; have hq := HL; simp only [AllLt, and_true, World.size_alloc, World.size_setCell, World.size_drew] at hq; have hbs := hb.size; try simp only [World.size_alloc, World.size_setCell, World.size_drew] at hbs))
      all_goals (go_wp2_with fail; go_meet; refine ⟨_, rfl, ?_⟩; ((repeat' apply And.intro) <;> first | (with_reducible assumption) | (((repeat (first | (with_reducible assumption) | (with_reducible exact cNewAt (by first | rfl | (simp only [World.size_alloc, World.size_setCell, World.size_drew]; done) | omega) rfl) | (with_reducible exact sNewAt (by first | rfl | (simp only [World.size_alloc, World.size_setCell, World.size_drew]; done) | omega) rfl) | (simp; done) | (with_reducible apply cAlloc) | (with_reducible apply cDrew) | (with_reducible refine cSet (by dsimp only; omega) ?_) | (with_reducible refine cSetOff (by dsimp only; omega) ?_) | (with_reducible apply cSame) | (with_reducible refine cBelow (by assumption) ?_) | (with_reducible apply sAlloc) | (with_reducible apply sDrew) | (with_reducible refine sBelow (by assumption) ?_) | (with_reducible refine sSet (by dsimp only; omega) ?_))); first | done | (simp [*]; done)); done) | (simp only [World.size_alloc, World.size_setCell, World.size_drew]; omega) | omega | (go_keep; done) | ((repeat' (first | (with_reducible exact Below.refl _ _) | (with_reducible assumption) | (with_reducible refine Below.alloc ?_ ?_ _) | (with_reducible refine Below.drew ?_) | (with_reducible refine Below.setCell ?_ ?_ _) | (with_reducible refine Below.trans ?_ (Below.mono (by assumption) ?_)) | (with_reducible exact Nat.le_refl _) | omega | (simp only [World.size_alloc, World.size_setCell, World.size_drew]; omega) | (simp; omega) | (simp; done))); done)))
    case rest =>
      obtain ⟨g, rfl, c0, c1, hB⟩ := hcut
      have hgl := cell_lt c0
      go_wp2_with fail
      clear U L SY PY
      refine wp_region_still_lit (by kernel_rfl) (by kernel_rfl) ?_
      repeat still_step
      still_call (X.u.call _)
      repeat still_step
      still_call (Y.m.call _)
      repeat still_step
      still_call (Y.on.call _)
      repeat still_step
      still_call (X.m.call _)
      repeat still_step
      still_call (Y.z.call _)
      repeat still_step
      still_call (X.n0.call _)
      repeat still_step
      refine wpStill_nil ?_
      go_wp2
      all_goals (go_returns; exact ⟨rfl, hB.drew⟩)
end Go.Proofs.YtfdgijmmgllmgaaGreatDoor
