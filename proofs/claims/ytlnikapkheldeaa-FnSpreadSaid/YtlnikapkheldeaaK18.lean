/-
  Texts of this proof, joined: Mb.
-/
import Derived.Test.YtlnikapkheldeaaK16
import Derived.Test.YtlnikapkheldeaaK10
import Derived.Test.YtlnikapkheldeaaK12
import Derived.Test.YtlnikapkheldeaaK17
import Derived.Deep.RegionHeld3
/-
  The model's CellTo, and the first cell to which symmetries lead.
-/
namespace Go.Proofs.Ytlnikapkheldeaa
open Go.ChangeShapes Go.WideShapes Go.ChangeAt Go.RowKit Go.Joins
set_option linter.unusedSimpArgs false
set_option linter.unusedVariables false
set_option maxRecDepth 100000
attribute [local go_sem] store_f
open Ieee
attribute [local go_sem] store_c

structure PlaceS (n k : Int) (x y : Nat) : Prop where
  call : ∀ w : World, Calls Try.prog 116 #[.int .i64 n, .int .i64 k] w fun e w' => e = .returned (.complex .f32 x y) ∧ Below w.heap.size w w'
set_option maxHeartbeats 4000000 in
theorem placeS {n k : Nat} (h1 : 1 ≤ n) (h8 : n ≤ 8) (hk : k < n * n) : PlaceS n k (iw (plX n k)) (iw (plY n k)) := ⟨fun w => by
  unfold plX plY iw
  rcases (by omega : n = 1 ∨ n = 2 ∨ n = 3 ∨ n = 4 ∨ n = 5 ∨ n = 6 ∨ n = 7 ∨ n = 8) with rfl | rfl | rfl | rfl | rfl | rfl | rfl | rfl
  all_goals
    go_enter Try.func116, Try.ntmps116
    go_wp2
    go_quiet (fail)
    go_wp2
    go_ret
    exact ⟨by simp, below_draws _ _ _⟩⟩
theorem l4Cell_s {n : Nat} {x y : Int} (h1 : 1 ≤ n) (h8 : n ≤ 8) (hx : -((n : Int) - 1) ≤ x ∧ x ≤ (n : Int) - 1) (hy : -((n : Int) - 1) ≤ y ∧ y ≤ (n : Int) - 1) (w : World) :
    Calls Try.prog 118 #[.int .i64 n, .complex .f32 (iw x) (iw y)] w fun e w' => e = .returned (.int .i64 (cellOf n x y : Nat)) ∧ w' = w := by
  have hcx := fun w => run_convert_float_int (P := Try.prog) w 47 3 .f32 .i64 (iw x) x (by rw [Try.underlying47]; rfl) Try.underlying3 (iw_of (z := x) (by omega) (by omega)).2.2.2
  have hcy := fun w => run_convert_float_int (P := Try.prog) w 47 3 .f32 .i64 (iw y) y (by rw [Try.underlying47]; rfl) Try.underlying3 (iw_of (z := y) (by omega) (by omega)).2.2.2
  unfold cellOf
  generalize iw x = a at *
  generalize iw y = b at *
  rcases (by omega : n = 1 ∨ n = 2 ∨ n = 3 ∨ n = 4 ∨ n = 5 ∨ n = 6 ∨ n = 7 ∨ n = 8) with rfl | rfl | rfl | rfl | rfl | rfl | rfl | rfl
  · obtain rfl : x = 0 := by omega
    obtain rfl : y = 0 := by omega
    go_enter Try.func118, Try.ntmps118
    go_wp2_with (first | simp only [hcx] | simp only [hcy])
    go_ret
    exact ⟨by first | rfl | (simp; done), rfl⟩
  all_goals
    go_enter Try.func118, Try.ntmps118
    go_wp2_with (first | simp only [hcx] | simp only [hcy])
    go_ret
    exact ⟨by first | (congr 2; omega) | (simp; omega), rfl⟩


structure LieM (x lo hi : Int) (b : Bool) : Prop where
  call : ∀ w : World, Calls Try.prog 112 #[.int .i64 x, .int .i64 lo, .int .i64 hi] w fun e w' => e = .returned (.bool b) ∧ Below w.heap.size w w'
theorem lieM_yes {x lo hi : Int} (h : lo ≤ x) (h' : x ≤ hi) : LieM x lo hi true := ⟨fun w => by
  have H := l1In_s x lo hi w
  rwa [lieB_yes h h'] at H⟩
theorem lieM_no {x lo hi : Int} (h : ¬ (lo ≤ x ∧ x ≤ hi)) : LieM x lo hi false := ⟨fun w => by
  have H := l1In_s x lo hi w
  rwa [lieB_no h] at H⟩
structure IsSymS (t : Int) (f : Bool) (b : Bool) : Prop where
  call : ∀ w : World, Calls Try.prog 117 #[.agg #[.int .i64 t, .bool f]] w fun e w' => e = .returned (.bool b) ∧ Below w.heap.size w w'
theorem isSymS (t : Int) (f : Bool) : IsSymS t f (isSymB t) := ⟨fun w => by
  have L : LieM t 0 3 (isSymB t) := by
    cases h : isSymB t
    · exact lieM_no (by rcases isSymB_no h with h | h <;> omega)
    · obtain ⟨h1, h2⟩ := isSymB_iff.1 h
      exact lieM_yes (by omega) (by omega)
  generalize isSymB t = b at L ⊢
  go_enter Try.func117, Try.ntmps117
  go_wp2_with ((go_at_call 112; refine (L.call _).mono ?_; rintro e w1 ⟨rfl, hb⟩; obtain ⟨hc, hf⟩ := bcell hb; have HL := keepL (by (repeat (first | (with_reducible assumption) | (with_reducible apply AllLt.alloc) | (with_reducible apply AllLt.setCell) | (with_reducible apply AllLt.drew) | (with_reducible exact AllLt.nil _)))) hb; have hq := HL; simp only [AllLt, and_true, World.size_alloc, World.size_setCell, World.size_drew] at hq; have hbs := hb.size; try simp only [World.size_alloc, World.size_setCell, World.size_drew] at hbs))
  go_ret
  exact ⟨rfl, by (repeat' (first | (with_reducible exact Below.refl _ _) | (with_reducible assumption) | (with_reducible refine Below.alloc ?_ ?_ _) | (with_reducible refine Below.drew ?_) | (with_reducible refine Below.setCell ?_ ?_ _) | (with_reducible refine Below.trans ?_ (Below.mono (by assumption) ?_)) | (with_reducible exact Nat.le_refl _) | omega | (simp only [World.size_alloc, World.size_setCell, World.size_drew]; omega) | (simp; omega) | (simp; done)))⟩⟩

structure CellS (n k t : Int) (f : Bool) (c : Int) : Prop where
  call : ∀ w : World, Calls Try.prog 49 #[.int .i64 n, .int .i64 k, .agg #[.int .i64 t, .bool f]] w fun e w' => e = .returned (.int .i64 c) ∧ Below w.heap.size w w'
structure CellAtS (n : Nat) (x y : Nat) (c : Nat) : Prop where
  call : ∀ w : World, Calls Try.prog 118 #[.int .i64 n, .complex .f32 x y] w fun e w' => e = .returned (.int .i64 c) ∧ w' = w
set_option maxHeartbeats 8000000 in
theorem cellS_of {n k N : Nat} {t : Nat} {f : Bool} {x y p q c : Nat} (ht : t < 4) (h1 : 1 ≤ n) (h8 : n ≤ 8) (hN : N = n * n) (hk : k < N) (P : PlaceS n k x y) (A : ActS t f x y p q) (C : CellAtS n p q c) : CellS n k t f c := ⟨fun w => by
  have L1 : LieM n 1 8 true := lieM_yes (by omega) (by omega)
  have hN64 : N ≤ 64 := by rw [hN]; exact Nat.le_trans (Nat.mul_le_mul h8 h8) (by omega)
  have L2 : LieM k 0 ((N : Int) - 1) true := lieM_yes (by omega) (by omega)
  have Y := isSymS t f
  have ey : isSymB (t : Int) = true := isSymB_iff.2 (by omega)
  rw [ey] at Y
  have hNN : (n : Int) * (n : Int) = (N : Int) := by rw [hN]; simp
  clear ey hN
  go_enter Try.func49, Try.ntmps49
  go_wp2_with fail
  have HS : Hid (Blk (w.alloc (.cells #[.int .i64 t, .bool f] 25)) w.heap.size #[.int .i64 t, .bool f] 25) := Blk.new _ _ _
  have HB : Hid (Below w.heap.size w (w.alloc (.cells #[.int .i64 t, .bool f] 25))) := (Below.refl _ _).alloc (Nat.le_refl _) _
  refine (L1.call _).mono ?_
  rintro e w1 ⟨rfl, hb⟩
  have HS1 : Hid (Blk w1 w.heap.size #[.int .i64 t, .bool f] 25) := HS.out.below hb
  have HB1 : Hid (Below w.heap.size w w1) := HB.out.trans (hb.mono (by simp))
  clear hb HS HB
  go_wp2_with fail
  refine (L2.call _).mono ?_
  rintro e w2 ⟨rfl, hb⟩
  have HS2 := HS1.out.below hb
  have HB2 : Hid (Below w.heap.size w w2) := HB1.out.trans (hb.mono HB1.out.size)
  have s0 := Blk.cellAt (i := 0) HS2 rfl
  have s1 := Blk.cellAt (i := 1) HS2 rfl
  simp only [List.getElem_toArray, List.getElem_cons_zero, List.getElem_cons_succ] at s0 s1
  clear hb HS1 HB1
  have HS2H : Hid (Blk w2 w.heap.size #[.int .i64 t, .bool f] 25) := HS2
  clear HS2
  go_wp2_with fail
  refine (Y.call _).mono ?_
  rintro e w3 ⟨rfl, hb⟩
  have HS3 := HS2H.out.below hb
  have B3 : Below w.heap.size w w3 := HB2.out.trans (hb.mono HB2.out.size)
  have s0 := Blk.cellAt (i := 0) HS3 rfl
  have s1 := Blk.cellAt (i := 1) HS3 rfl
  have z3 := B3.size
  have l3 := HS3.lt
  simp only [List.getElem_toArray, List.getElem_cons_zero, List.getElem_cons_succ] at s0 s1
  clear hb HS2H HB2 HS3 L1 L2 Y hNN
  go_wp2_with fail
  go_region_held3 (fun wx => Below w.heap.size w wx ∧ w.heap.size ≤ wx.heap.size ∧ w.heap.size < wx.heap.size ∧ wx.cell? ⟨w.heap.size, 0, Option.none⟩ = some (.int .i64 (t)) ∧ wx.cell? ⟨w.heap.size, 1, Option.none⟩ = some (.bool (f)))
    (((repeat' apply And.intro) <;> first | (with_reducible assumption) | (((repeat (first | (with_reducible assumption) | (with_reducible exact cNewAt (by first | rfl | (simp only [World.size_alloc, World.size_setCell, World.size_drew]; done) | omega) rfl) | (with_reducible exact sNewAt (by first | rfl | (simp only [World.size_alloc, World.size_setCell, World.size_drew]; done) | omega) rfl) | (simp; done) | (with_reducible apply cAlloc) | (with_reducible apply cDrew) | (with_reducible refine cSet (by dsimp only; omega) ?_) | (with_reducible refine cSetOff (by dsimp only; omega) ?_) | (with_reducible apply cSame) | (with_reducible refine cBelow (by assumption) ?_) | (with_reducible apply sAlloc) | (with_reducible apply sDrew) | (with_reducible refine sBelow (by assumption) ?_) | (with_reducible refine sSet (by dsimp only; omega) ?_))); first | done | (simp [*]; done)); done) | (simp only [World.size_alloc, World.size_setCell, World.size_drew]; omega) | omega | (go_keep; done) | ((repeat' (first | (with_reducible exact Below.refl _ _) | (with_reducible assumption) | (with_reducible refine Below.alloc ?_ ?_ _) | (with_reducible refine Below.drew ?_) | (with_reducible refine Below.setCell ?_ ?_ _) | (with_reducible refine Below.trans ?_ (Below.mono (by assumption) ?_)) | (with_reducible exact Nat.le_refl _) | omega | (simp only [World.size_alloc, World.size_setCell, World.size_drew]; omega) | (simp; omega) | (simp; done))); done)))
    (first | (go_at_call 116; (with_reducible refine (P.call _).mono ?_); rintro e w5 ⟨rfl, hb⟩; have hbs := hb.size; try simp only [World.size_alloc, World.size_setCell, World.size_drew] at hbs) | (go_at_call 119; (with_reducible refine (A.call _).mono ?_); rintro e w6 ⟨rfl, hb⟩; have hbs := hb.size; try simp only [World.size_alloc, World.size_setCell, World.size_drew] at hbs) | (go_at_call 118; (with_reducible refine (C.call _).mono ?_); rintro e w7 ⟨rfl, rfl⟩))
  all_goals
    rename_i hHeld
    have HZ : Hid (Below w.heap.size w w7) := hHeld.1
    clear hHeld
    go_wp2
    go_ret
    exact ⟨rfl, HZ.out⟩⟩
theorem cellS_yes {n k t : Nat} (f : Bool) (h1 : 1 ≤ n) (h8 : n ≤ 8) (hk : k < n * n) (ht : t < 4) : CellS n k t f (cellN n t f k : Nat) := by
  obtain ⟨b1, b2⟩ := pl_bd h1 (cell_lt' (f := f) h8 hk ht)
  obtain ⟨a1, a2⟩ := pl_bd h1 hk
  obtain ⟨e1, e2⟩ := cell_place (f := f) h8 hk ht
  refine cellS_of ht h1 h8 rfl hk (placeS h1 h8 hk) (actS f ht (by omega) (by omega)) ⟨fun w => ?_⟩
  have h := l4Cell_s h1 h8 b1 b2 w
  rw [e1, e2] at h
  exact h
end Go.Proofs.Ytlnikapkheldeaa
