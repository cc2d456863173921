/-
  Draws of parts and of colours.
-/
import Derived.Test.YtkcfekhpppihhaaDgen
import Derived.Test.YtkcfekhpppihhaaCc
import Derived.Test.YtkcfekhpppihhaaCop
namespace Go.Proofs.Ytkcfekhpppihhaa
open Go.ChangeShapes Go.WideShapes Go.ChangeAt Go.RowKit Go.Joins
set_option linter.unusedSimpArgs false
set_option linter.unusedVariables false
set_option maxRecDepth 100000
attribute [local go_sem] store_f
open Ieee

structure PartDrawn (B q : Nat) (w : World) (e : Ending) (w' : World) (x : Nat) : Prop where
  ret : e = .returned (.float .f32 x)
  le : x ≤ 1065353216
  cur : Cur B w' q
  grown : w.grownBy w' (some q)

/-- n hundredths, as bits. -/
def centB (n : Nat) : Nat := match FloatKind.f32.format.div (floatOfInt .f32 n) 1120403456 with | some r => r | none => 0
theorem cents : ∀ n : Nat, n < 101 → FloatKind.f32.format.div (floatOfInt .f32 n) 1120403456 = some (centB n) ∧ centB n ≤ 1065353216 := by decide +kernel

set_option maxHeartbeats 1000000 in
theorem l2One_s (B q : Nat) (w : World) (hcur : Cur B w q) :
    Calls Try.prog 58 #[.pointer (some ⟨q, 0, Option.none⟩)] w fun e w' => ∃ x : Nat, PartDrawn B q w e w' x := by
  have HC : Hid (Cur B w q) := hcur
  clear hcur
  go_enter Try.func58, Try.ntmps58
  go_wp2_with fail
  refine (l1Once_s B q 3 _ HC.out (by omega) (by omega)).mono ?_
  rintro e w1 ⟨t, ⟨rfl, hc1, hg1⟩⟩
  have HC1 : Hid (Cur B w1 q) := hc1
  have HG1 : Hid (w.grownBy w1 (some q)) := hg1
  have s1 := hg1.size
  clear hc1 hg1
  cases t
  · go_wp2_with fail
    refine (l1Below_s B q 101 _ HC1.out (by omega) (by omega)).mono ?_
    rintro e w2 ⟨x, rfl, hx0, hx1, hc2, hg2⟩
    have HC2 : Hid (Cur B w2 q) := hc2
    have HG2 : Hid (w1.grownBy w2 (some q)) := hg2
    clear hc2 hg2
    obtain ⟨n, rfl⟩ : ∃ n : Nat, x = n := ⟨x.toNat, by omega⟩
    have hn : n < 101 := by omega
    have hop := fun t W => run_float_arith (P := Try.prog) W .quo t .f32 (floatOfInt .f32 n) 1120403456 _ (cents n hn).1
    have hle : Hid (centB n ≤ 1065353216) := (cents n hn).2
    generalize centB n = y at hop hle
    clear hx0 hx1
    go_wp2_with (simp only [hop])
    go_ret
    exact ⟨y, rfl, hle.out, HC2.out, grownBy_trans HG1.out HG2.out⟩
  · have hqlt := HC1.out.lt
    go_wp2_with fail
    have HA : Hid (Cur B (w1.alloc (.cells #[.float .f32 0, .float .f32 1065353216, .float .f32 1056964608, .float .f32 1048576000] 26)) q) := HC1.out.alloc
    have HK : Hid (Blk (w1.alloc (.cells #[.float .f32 0, .float .f32 1065353216, .float .f32 1056964608, .float .f32 1048576000] 26)) w1.heap.size #[.float .f32 0, .float .f32 1065353216, .float .f32 1056964608, .float .f32 1048576000] 26) := Blk.new _ _ _
    refine (l1Below_s B q 4 _ HA.out (by omega) (by omega)).mono ?_
    rintro e w2 ⟨x, rfl, hx0, hx1, hc2, hg2⟩
    have HB2 := HK.out.grown hg2 (by omega)
    have HC2 : Hid (Cur B w2 q) := hc2
    have HG2 : Hid (w.grownBy w2 (some q)) := grownBy_trans (grown_alloc HG1.out _) hg2
    have l2 := HB2.lt
    have d0 := Blk.cellAt (i := 0) HB2 rfl
    have d1 := Blk.cellAt (i := 1) HB2 rfl
    have d2 := Blk.cellAt (i := 2) HB2 rfl
    have d3 := Blk.cellAt (i := 3) HB2 rfl
    simp at d0 d1 d2 d3
    clear hc2 hg2 HB2
    rcases (by omega : x = 0 ∨ x = 1 ∨ x = 2 ∨ x = 3) with rfl | rfl | rfl | rfl
    all_goals
      go_wp2
      go_ret
      exact ⟨_, rfl, by omega, HC2.out, HG2.out⟩

structure ColDrawn (B q : Nat) (w : World) (e : Ending) (w' : World) (r g b : Nat) : Prop where
  ret : e = .returned (.agg #[.float .f32 r, .float .f32 g, .float .f32 b])
  lr : r ≤ 1065353216
  lg : g ≤ 1065353216
  lb : b ≤ 1065353216
  cur : Cur B w' q
  grown : w.grownBy w' (some q)

set_option maxHeartbeats 1000000 in
theorem l2Draw_s (B q : Nat) (w : World) (hcur : Cur B w q) :
    Calls Try.prog 26 #[.pointer (some ⟨q, 0, Option.none⟩)] w fun e w' => ∃ r g b : Nat, ColDrawn B q w e w' r g b := by
  have HC : Hid (Cur B w q) := hcur
  have hq := hcur.lt
  clear hcur
  go_enter Try.func26, Try.ntmps26
  go_wp2_with fail
  have HA : Hid (Cur B (w.alloc (.cells #[.float .f32 0, .float .f32 0, .float .f32 0] 28)) q) := HC.out.alloc
  have HK : Hid (Blk (w.alloc (.cells #[.float .f32 0, .float .f32 0, .float .f32 0] 28)) w.heap.size #[.float .f32 0, .float .f32 0, .float .f32 0] 28) := Blk.new _ _ _
  refine (l2One_s B q _ HA.out).mono ?_
  rintro e w1 ⟨r, ⟨rfl, lr, hc1, hg1⟩⟩
  have K1 : Hid (Blk w1 w.heap.size #[.float .f32 0, .float .f32 0, .float .f32 0] 28) := HK.out.grown hg1 (by omega)
  have C1 : Hid (Cur B w1 q) := hc1
  have G1 : Hid (w.grownBy w1 (some q)) := grownBy_trans (grown_alloc (grownBy_refl _ _) _) hg1
  clear hc1 hg1
  go_wp2_with fail
  refine (l2One_s B q _ C1.out).mono ?_
  rintro e w2 ⟨g, ⟨rfl, lg, hc2, hg2⟩⟩
  have K2 : Hid (Blk w2 w.heap.size #[.float .f32 0, .float .f32 0, .float .f32 0] 28) := K1.out.grown hg2 (by omega)
  have C2 : Hid (Cur B w2 q) := hc2
  have G2 : Hid (w.grownBy w2 (some q)) := grownBy_trans G1.out hg2
  clear hc2 hg2
  go_wp2_with fail
  refine (l2One_s B q _ C2.out).mono ?_
  rintro e w3 ⟨b, ⟨rfl, lb, hc3, hg3⟩⟩
  have HB3 := K2.out.grown hg3 (by omega)
  have C3 : Hid (Cur B w3 q) := hc3
  have G3 : Hid (w.grownBy w3 (some q)) := grownBy_trans G2.out hg3
  clear hc3 hg3
  have l3 := HB3.lt
  have d0 := Blk.cellAt (i := 0) HB3 rfl
  have d1 := Blk.cellAt (i := 1) HB3 rfl
  have d2 := Blk.cellAt (i := 2) HB3 rfl
  have f0 := Blk.freeAt (i := 0) HB3
  have f1 := Blk.freeAt (i := 1) HB3
  have f2 := Blk.freeAt (i := 2) HB3
  simp at d0 d1 d2
  have K3 : Hid (Blk w3 w.heap.size #[.float .f32 0, .float .f32 0, .float .f32 0] 28) := HB3
  clear HB3
  have LR : Hid (r ≤ 1065353216) := lr
  have LG : Hid (g ≤ 1065353216) := lg
  have LB : Hid (b ≤ 1065353216) := lb
  clear lr lg lb
  go_wp2
  have e0 := (K3.out.set (i := 0) (v := .float .f32 r)).cell 0
  have e1 := ((K3.out.set (i := 0) (v := .float .f32 r)).set (i := 1) (v := .float .f32 g)).cell 1
  have e2 := (((K3.out.set (i := 0) (v := .float .f32 r)).set (i := 1) (v := .float .f32 g)).set (i := 2) (v := .float .f32 b)).cell 2
  simp only [List.setIfInBounds_toArray, List.set_cons_zero, List.set_cons_succ, List.getElem?_toArray, List.getElem?_cons_zero, List.getElem?_cons_succ] at e0 e1 e2
  have CF : Cur B (((w3.setCell ⟨w.heap.size, 0, Option.none⟩ (.float .f32 r)).setCell ⟨w.heap.size, 1, Option.none⟩ (.float .f32 g)).setCell ⟨w.heap.size, 2, Option.none⟩ (.float .f32 b)) q := by
    have h := C3.out
    have hB := h.ge
    obtain ⟨a, len, cap, bs, i, hh, h1, h2, h3, h4, h5⟩ := h
    exact ⟨a, len, cap, bs, i, hh, ((h1.other (by dsimp only; omega)).other (by dsimp only; omega)).other (by dsimp only; omega), h2, h3, h4.of (by
      have h6 : Below B w3 w3 := Below.refl _ _
      exact Below.setCell (Below.setCell (Below.setCell h6 (by dsimp only; omega) _) (by dsimp only; omega) _) (by dsimp only; omega) _), h5⟩
  have GF : w.grownBy (((w3.setCell ⟨w.heap.size, 0, Option.none⟩ (.float .f32 r)).setCell ⟨w.heap.size, 1, Option.none⟩ (.float .f32 g)).setCell ⟨w.heap.size, 2, Option.none⟩ (.float .f32 b)) (some q) :=
    grown_setNew (grown_setNew (grown_setNew G3.out (Nat.le_refl _) _) (Nat.le_refl _) _) (Nat.le_refl _) _
  exact bodyPost_ret (v := .agg #[.float .f32 r, .float .f32 g, .float .f32 b]) (by simp [results, Try.results26, go_sem, e0, e1, e2]) rfl ⟨r, g, b, rfl, LR.out, LG.out, LB.out, CF, GF⟩
end Go.Proofs.Ytkcfekhpppihhaa
