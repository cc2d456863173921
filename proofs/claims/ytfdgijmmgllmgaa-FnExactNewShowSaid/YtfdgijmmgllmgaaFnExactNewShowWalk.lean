/-
  The call of FnExactNewShow returns true and writes nothing that was there.
-/
import Derived.Test.YtfdgijmmgllmgaaRe
namespace Go.Proofs.Ytfdgijmmgllmgaa.wFnExactNewShow
open Go.ChangeShapes Go.WideShapes Go.ChangeAt Go.RowKit Go.Joins
set_option linter.unusedSimpArgs false
set_option linter.unusedVariables false
set_option maxRecDepth 100000
attribute [local go_sem] store_f
open Ieee Go.Lib
attribute [local go_sem] store_c

set_option maxHeartbeats 64000000 in
theorem walk (k n : Int) (t r g b : Nat) (w : World) (_ : -9223372036854775808 ≤ k) (_ : k ≤ 9223372036854775807) (_ : -9223372036854775808 ≤ n) (_ : n ≤ 9223372036854775807) (ht : t < 4294967296) (hr : r < 4294967296) (hg : g < 4294967296) (hb : b < 4294967296) :
    Calls Try.prog 5 #[.int .i64 k, .int .i64 n, .float .f32 t, .agg #[.float .f32 r, .float .f32 g, .float .f32 b]] w fun e w' => e = .returned (.bool true) ∧ Below w.heap.size w w' := by
  obtain ⟨k', n', t', r', g', b', p, I, S, h1, h2, h3, h4⟩ := new_both (k := k) (n := n) ht hr hg hb
  have E : Hid (∀ w : World, Calls Try.prog 23 #[.agg #[.int .i64 n', .float .f32 t', .float .f32 r', .float .f32 g', .float .f32 b', .slice Option.none 0 0, .int .i64 k', .complex .f32 0 0, .float .f32 0, .slice Option.none 0 0, .int .i64 0, .slice Option.none 0 0], .agg #[.int .i64 n', .float .f32 t', .float .f32 r', .float .f32 g', .float .f32 b', .slice Option.none 0 0, .int .i64 k', .complex .f32 0 0, .float .f32 0, .slice Option.none 0 0, .int .i64 0, .slice Option.none 0 0]] w fun e w' => e = .returned (.bool true) ∧ Below w.heap.size w w') := fun w => eqShow_i k' n' h1 h2 h3 h4 w
  clear h1 h2 h3 h4 ht hr hg hb
  cases p
  all_goals
    go_enter Try.func5, Try.ntmps5
    go_wp2_with fail
    obtain ⟨X, hX⟩ : ∃ X, w.alloc (.cells #[.float .f32 r, .float .f32 g, .float .f32 b] 46) = X := ⟨_, rfl⟩
    rw [hX]
    have C0 : Hid (Blk X w.heap.size #[.float .f32 r, .float .f32 g, .float .f32 b] 46) := by rw [← hX]; exact Blk.new _ _ _
    have G0 : Hid (Below w.heap.size w X) := by rw [← hX]; show Below w.heap.size w _; (repeat' (first | (with_reducible exact Below.refl _ _) | (with_reducible assumption) | (with_reducible refine Below.alloc ?_ ?_ _) | (with_reducible refine Below.drew ?_) | (with_reducible refine Below.setCell ?_ ?_ _) | (with_reducible refine Below.trans ?_ (Below.mono (by assumption) ?_)) | (with_reducible exact Nat.le_refl _) | omega | (simp only [World.size_alloc, World.size_setCell, World.size_drew]; omega) | (simp; omega) | (simp; done)))
    clear hX
    refine (toColour_any _ _ _ _).mono ?_
    rintro e w1 ⟨rfl, hb⟩
    have C1 := Lib.hid (C0.out.below hb)
    have G1 : Hid (Below w.heap.size w w1) := G0.out.trans (hb.mono G0.out.size)
    clear hb C0 G0 
    go_wp2_with fail
    refine (S.call _).mono ?_
    rintro e w2 ⟨rfl, hb⟩
    have C2 := Lib.hid (C1.out.below hb)
    have G2 : Hid (Below w.heap.size w w2) := G1.out.trans (hb.mono G1.out.size)
    clear hb C1 G1 
    have c0 := Blk.cellAt (i := 0) C2.out rfl
    have c1 := Blk.cellAt (i := 1) C2.out rfl
    have c2 := Blk.cellAt (i := 2) C2.out rfl
    simp only [List.getElem_toArray, List.getElem_cons_zero, List.getElem_cons_succ] at c0 c1 c2
    have lC := C2.out.lt
    go_wp2_with fail
    obtain ⟨X, hX⟩ : ∃ X, w2.alloc (.cells #[.int .i64 n', .float .f32 t', .float .f32 r', .float .f32 g', .float .f32 b', .slice Option.none 0 0, .int .i64 k', .complex .f32 0 0, .float .f32 0, .slice Option.none 0 0, .int .i64 0, .slice Option.none 0 0] 55) = X := ⟨_, rfl⟩
    rw [hX]
    have C3 : Hid (Blk X (w.heap.size) #[.float .f32 r, .float .f32 g, .float .f32 b] 46) := by rw [← hX]; exact C2.out.alloc
    have M3 : Hid (Blk X (w2.heap.size) #[.int .i64 n', .float .f32 t', .float .f32 r', .float .f32 g', .float .f32 b', .slice Option.none 0 0, .int .i64 k', .complex .f32 0 0, .float .f32 0, .slice Option.none 0 0, .int .i64 0, .slice Option.none 0 0] 55) := by rw [← hX]; exact Blk.new _ _ _
    have H : Below w2.heap.size w2 X := by rw [← hX]; show Below w2.heap.size w2 _; (repeat' (first | (with_reducible exact Below.refl _ _) | (with_reducible assumption) | (with_reducible refine Below.alloc ?_ ?_ _) | (with_reducible refine Below.drew ?_) | (with_reducible refine Below.setCell ?_ ?_ _) | (with_reducible refine Below.trans ?_ (Below.mono (by assumption) ?_)) | (with_reducible exact Nat.le_refl _) | omega | (simp only [World.size_alloc, World.size_setCell, World.size_drew]; omega) | (simp; omega) | (simp; done)))
    have G3 : Hid (Below w.heap.size w X) := G2.out.trans (H.mono G2.out.size)
    clear H hX C2 G2 c0 c1 c2 lC
    -- world X
    refine (toColour_any _ _ _ _).mono ?_
    rintro e w4 ⟨rfl, hb⟩
    have C4 := Lib.hid (C3.out.below hb)
    have M4 := Lib.hid (M3.out.below hb)
    have G4 : Hid (Below w.heap.size w w4) := G3.out.trans (hb.mono G3.out.size)
    clear hb C3 M3 G3 
    go_wp2_with fail
    refine (I.call _).mono ?_
    rintro e w5 ⟨rfl, hb⟩
    have C5 := Lib.hid (C4.out.below hb)
    have M5 := Lib.hid (M4.out.below hb)
    have G5 : Hid (Below w.heap.size w w5) := G4.out.trans (hb.mono G4.out.size)
    clear hb C4 M4 G4 
    (have m0 := Blk.cellAt (i := 0) M5.out rfl; have m1 := Blk.cellAt (i := 1) M5.out rfl; have m2 := Blk.cellAt (i := 2) M5.out rfl; have m3 := Blk.cellAt (i := 3) M5.out rfl; have m4 := Blk.cellAt (i := 4) M5.out rfl; have m5 := Blk.cellAt (i := 5) M5.out rfl; have m6 := Blk.cellAt (i := 6) M5.out rfl; have m7 := Blk.cellAt (i := 7) M5.out rfl; have m8 := Blk.cellAt (i := 8) M5.out rfl; have m9 := Blk.cellAt (i := 9) M5.out rfl; have m10 := Blk.cellAt (i := 10) M5.out rfl; have m11 := Blk.cellAt (i := 11) M5.out rfl; simp only [List.getElem_toArray, List.getElem_cons_zero, List.getElem_cons_succ] at m0 m1 m2 m3 m4 m5 m6 m7 m8 m9 m10 m11)
    have lM := M5.out.lt
    go_wp2_with fail
    obtain ⟨X, hX⟩ : ∃ X, w5.alloc (.cells #[.int .i64 n', .float .f32 t', .float .f32 r', .float .f32 g', .float .f32 b', .slice Option.none 0 0, .int .i64 k', .complex .f32 0 0, .float .f32 0, .slice Option.none 0 0, .int .i64 0, .slice Option.none 0 0] 55) = X := ⟨_, rfl⟩
    rw [hX]
    have C6 : Hid (Blk X (w.heap.size) #[.float .f32 r, .float .f32 g, .float .f32 b] 46) := by rw [← hX]; exact C5.out.alloc
    have M6 : Hid (Blk X (w2.heap.size) #[.int .i64 n', .float .f32 t', .float .f32 r', .float .f32 g', .float .f32 b', .slice Option.none 0 0, .int .i64 k', .complex .f32 0 0, .float .f32 0, .slice Option.none 0 0, .int .i64 0, .slice Option.none 0 0] 55) := by rw [← hX]; exact M5.out.alloc
    have N6 : Hid (Blk X (w5.heap.size) #[.int .i64 n', .float .f32 t', .float .f32 r', .float .f32 g', .float .f32 b', .slice Option.none 0 0, .int .i64 k', .complex .f32 0 0, .float .f32 0, .slice Option.none 0 0, .int .i64 0, .slice Option.none 0 0] 55) := by rw [← hX]; exact Blk.new _ _ _
    have H : Below w5.heap.size w5 X := by rw [← hX]; show Below w5.heap.size w5 _; (repeat' (first | (with_reducible exact Below.refl _ _) | (with_reducible assumption) | (with_reducible refine Below.alloc ?_ ?_ _) | (with_reducible refine Below.drew ?_) | (with_reducible refine Below.setCell ?_ ?_ _) | (with_reducible refine Below.trans ?_ (Below.mono (by assumption) ?_)) | (with_reducible exact Nat.le_refl _) | omega | (simp only [World.size_alloc, World.size_setCell, World.size_drew]; omega) | (simp; omega) | (simp; done)))
    have G6 : Hid (Below w.heap.size w X) := G5.out.trans (H.mono G5.out.size)
    clear H hX C5 M5 G5 m0 m1 m2 m3 m4 m5 m6 m7 m8 m9 m10 m11 lM
    -- world X
    refine (E.out _).mono ?_
    rintro e w7 ⟨rfl, hb⟩
    have C7 := Lib.hid (C6.out.below hb)
    have M7 := Lib.hid (M6.out.below hb)
    have N7 := Lib.hid (N6.out.below hb)
    have G7 : Hid (Below w.heap.size w w7) := G6.out.trans (hb.mono G6.out.size)
    clear hb C6 M6 N6 G6 
    (have n0 := Blk.cellAt (i := 0) N7.out rfl; have n1 := Blk.cellAt (i := 1) N7.out rfl; have n2 := Blk.cellAt (i := 2) N7.out rfl; have n3 := Blk.cellAt (i := 3) N7.out rfl; have n4 := Blk.cellAt (i := 4) N7.out rfl; have n5 := Blk.cellAt (i := 5) N7.out rfl; have n6 := Blk.cellAt (i := 6) N7.out rfl; have n7 := Blk.cellAt (i := 7) N7.out rfl; have n8 := Blk.cellAt (i := 8) N7.out rfl; have n9 := Blk.cellAt (i := 9) N7.out rfl; have n10 := Blk.cellAt (i := 10) N7.out rfl; have n11 := Blk.cellAt (i := 11) N7.out rfl; simp only [List.getElem_toArray, List.getElem_cons_zero, List.getElem_cons_succ] at n0 n1 n2 n3 n4 n5 n6 n7 n8 n9 n10 n11)
    have lN := N7.out.lt
    go_wp2_with fail
    refine (markShow_i k' n' t' r' g' b' _).mono ?_
    rintro e w8 ⟨rfl, hb⟩
    have C8 := Lib.hid (C7.out.below hb)
    have M8 := Lib.hid (M7.out.below hb)
    have N8 := Lib.hid (N7.out.below hb)
    have G8 : Hid (Below w.heap.size w w8) := G7.out.trans (hb.mono G7.out.size)
    clear hb C7 M7 N7 G7 n0 n1 n2 n3 n4 n5 n6 n7 n8 n9 n10 n11 lN
    (have n0 := Blk.cellAt (i := 0) N8.out rfl; have n1 := Blk.cellAt (i := 1) N8.out rfl; have n2 := Blk.cellAt (i := 2) N8.out rfl; have n3 := Blk.cellAt (i := 3) N8.out rfl; have n4 := Blk.cellAt (i := 4) N8.out rfl; have n5 := Blk.cellAt (i := 5) N8.out rfl; have n6 := Blk.cellAt (i := 6) N8.out rfl; have n7 := Blk.cellAt (i := 7) N8.out rfl; have n8 := Blk.cellAt (i := 8) N8.out rfl; have n9 := Blk.cellAt (i := 9) N8.out rfl; have n10 := Blk.cellAt (i := 10) N8.out rfl; have n11 := Blk.cellAt (i := 11) N8.out rfl; simp only [List.getElem_toArray, List.getElem_cons_zero, List.getElem_cons_succ] at n0 n1 n2 n3 n4 n5 n6 n7 n8 n9 n10 n11)
    have lN := N8.out.lt
    go_wp2_with fail
    refine (heldShow_i k' n' t' r' g' b' _).mono ?_
    rintro e w9 ⟨rfl, hb⟩
    have C9 := Lib.hid (C8.out.below hb)
    have M9 := Lib.hid (M8.out.below hb)
    have N9 := Lib.hid (N8.out.below hb)
    have G9 : Hid (Below w.heap.size w w9) := G8.out.trans (hb.mono G8.out.size)
    clear hb C8 M8 N8 G8 n0 n1 n2 n3 n4 n5 n6 n7 n8 n9 n10 n11 lN
    have c0 := Blk.cellAt (i := 0) C9.out rfl
    have c1 := Blk.cellAt (i := 1) C9.out rfl
    have c2 := Blk.cellAt (i := 2) C9.out rfl
    simp only [List.getElem_toArray, List.getElem_cons_zero, List.getElem_cons_succ] at c0 c1 c2
    have lC := C9.out.lt
    go_wp2_with fail
    refine (toColour_any _ _ _ _).mono ?_
    rintro e w10 ⟨rfl, hb⟩
    have C10 := Lib.hid (C9.out.below hb)
    have M10 := Lib.hid (M9.out.below hb)
    have N10 := Lib.hid (N9.out.below hb)
    have G10 : Hid (Below w.heap.size w w10) := G9.out.trans (hb.mono G9.out.size)
    clear hb C9 M9 N9 G9 c0 c1 c2 lC
    go_wp2_with fail
    refine (I.call _).mono ?_
    rintro e w11 ⟨rfl, hb⟩
    have C11 := Lib.hid (C10.out.below hb)
    have M11 := Lib.hid (M10.out.below hb)
    have N11 := Lib.hid (N10.out.below hb)
    have G11 : Hid (Below w.heap.size w w11) := G10.out.trans (hb.mono G10.out.size)
    clear hb C10 M10 N10 G10 
    (have m0 := Blk.cellAt (i := 0) M11.out rfl; have m1 := Blk.cellAt (i := 1) M11.out rfl; have m2 := Blk.cellAt (i := 2) M11.out rfl; have m3 := Blk.cellAt (i := 3) M11.out rfl; have m4 := Blk.cellAt (i := 4) M11.out rfl; have m5 := Blk.cellAt (i := 5) M11.out rfl; have m6 := Blk.cellAt (i := 6) M11.out rfl; have m7 := Blk.cellAt (i := 7) M11.out rfl; have m8 := Blk.cellAt (i := 8) M11.out rfl; have m9 := Blk.cellAt (i := 9) M11.out rfl; have m10 := Blk.cellAt (i := 10) M11.out rfl; have m11 := Blk.cellAt (i := 11) M11.out rfl; simp only [List.getElem_toArray, List.getElem_cons_zero, List.getElem_cons_succ] at m0 m1 m2 m3 m4 m5 m6 m7 m8 m9 m10 m11)
    have lM := M11.out.lt
    go_wp2_with fail
    obtain ⟨X, hX⟩ : ∃ X, w11.alloc (.cells #[.int .i64 n', .float .f32 t', .float .f32 r', .float .f32 g', .float .f32 b', .slice Option.none 0 0, .int .i64 k', .complex .f32 0 0, .float .f32 0, .slice Option.none 0 0, .int .i64 0, .slice Option.none 0 0] 55) = X := ⟨_, rfl⟩
    rw [hX]
    have C12 : Hid (Blk X (w.heap.size) #[.float .f32 r, .float .f32 g, .float .f32 b] 46) := by rw [← hX]; exact C11.out.alloc
    have M12 : Hid (Blk X (w2.heap.size) #[.int .i64 n', .float .f32 t', .float .f32 r', .float .f32 g', .float .f32 b', .slice Option.none 0 0, .int .i64 k', .complex .f32 0 0, .float .f32 0, .slice Option.none 0 0, .int .i64 0, .slice Option.none 0 0] 55) := by rw [← hX]; exact M11.out.alloc
    have N12 : Hid (Blk X (w5.heap.size) #[.int .i64 n', .float .f32 t', .float .f32 r', .float .f32 g', .float .f32 b', .slice Option.none 0 0, .int .i64 k', .complex .f32 0 0, .float .f32 0, .slice Option.none 0 0, .int .i64 0, .slice Option.none 0 0] 55) := by rw [← hX]; exact N11.out.alloc
    have O12 : Hid (Blk X (w11.heap.size) #[.int .i64 n', .float .f32 t', .float .f32 r', .float .f32 g', .float .f32 b', .slice Option.none 0 0, .int .i64 k', .complex .f32 0 0, .float .f32 0, .slice Option.none 0 0, .int .i64 0, .slice Option.none 0 0] 55) := by rw [← hX]; exact Blk.new _ _ _
    have H : Below w11.heap.size w11 X := by rw [← hX]; show Below w11.heap.size w11 _; (repeat' (first | (with_reducible exact Below.refl _ _) | (with_reducible assumption) | (with_reducible refine Below.alloc ?_ ?_ _) | (with_reducible refine Below.drew ?_) | (with_reducible refine Below.setCell ?_ ?_ _) | (with_reducible refine Below.trans ?_ (Below.mono (by assumption) ?_)) | (with_reducible exact Nat.le_refl _) | omega | (simp only [World.size_alloc, World.size_setCell, World.size_drew]; omega) | (simp; omega) | (simp; done)))
    have G12 : Hid (Below w.heap.size w X) := G11.out.trans (H.mono G11.out.size)
    clear H hX C11 M11 N11 G11 m0 m1 m2 m3 m4 m5 m6 m7 m8 m9 m10 m11 lM
    -- world X
    refine (E.out _).mono ?_
    rintro e w13 ⟨rfl, hb⟩
    have C13 := Lib.hid (C12.out.below hb)
    have M13 := Lib.hid (M12.out.below hb)
    have N13 := Lib.hid (N12.out.below hb)
    have O13 := Lib.hid (O12.out.below hb)
    have G13 : Hid (Below w.heap.size w w13) := G12.out.trans (hb.mono G12.out.size)
    clear hb C12 M12 N12 O12 G12 
    (have n0 := Blk.cellAt (i := 0) N13.out rfl; have n1 := Blk.cellAt (i := 1) N13.out rfl; have n2 := Blk.cellAt (i := 2) N13.out rfl; have n3 := Blk.cellAt (i := 3) N13.out rfl; have n4 := Blk.cellAt (i := 4) N13.out rfl; have n5 := Blk.cellAt (i := 5) N13.out rfl; have n6 := Blk.cellAt (i := 6) N13.out rfl; have n7 := Blk.cellAt (i := 7) N13.out rfl; have n8 := Blk.cellAt (i := 8) N13.out rfl; have n9 := Blk.cellAt (i := 9) N13.out rfl; have n10 := Blk.cellAt (i := 10) N13.out rfl; have n11 := Blk.cellAt (i := 11) N13.out rfl; simp only [List.getElem_toArray, List.getElem_cons_zero, List.getElem_cons_succ] at n0 n1 n2 n3 n4 n5 n6 n7 n8 n9 n10 n11)
    have lN := N13.out.lt
    go_wp2_with fail
    refine (heldShow_i k' n' t' r' g' b' _).mono ?_
    rintro e w14 ⟨rfl, hb⟩
    have C14 := Lib.hid (C13.out.below hb)
    have M14 := Lib.hid (M13.out.below hb)
    have N14 := Lib.hid (N13.out.below hb)
    have O14 := Lib.hid (O13.out.below hb)
    have G14 : Hid (Below w.heap.size w w14) := G13.out.trans (hb.mono G13.out.size)
    clear hb C13 M13 N13 O13 G13 n0 n1 n2 n3 n4 n5 n6 n7 n8 n9 n10 n11 lN
    go_wp2
    go_ret
    exact ⟨rfl, G14.out⟩
end Go.Proofs.Ytfdgijmmgllmgaa.wFnExactNewShow
