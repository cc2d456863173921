/-
  The call of FnTumbles returns true and writes nothing that was there.
-/
import Derived.Test.YtekkgpanmccdgaaK20
namespace Go.Proofs.Ytekkgpanmccdgaa.wFnTumbles
open Go.ChangeShapes Go.WideShapes Go.ChangeAt Go.RowKit Go.Joins
set_option linter.unusedSimpArgs false
set_option linter.unusedVariables false
set_option maxRecDepth 100000
attribute [local go_sem] store_f
open Ieee Go.Lib
attribute [local go_sem] store_c

/-- All that the law asks of a tumble. -/
structure Tu (kind : Int) (g1 g2 ls n N : Nat) (L0 Lk Ln : List Bw) : Prop where
  r1 : RunM 17 kind g1 g2 ls n N L0 Ln
  r2 : ∀ (w : World) (a : Option Addr) (cap : Nat), BwIn w a L0 → Calls Try.prog 17 #[.agg #[.int .i64 kind, .complex .f32 g1 g2, .float .f32 ls, .slice a N cap], .int .i64 ((n : Int) / 3)] w fun e w' => ∃ a' c', RunOut w e w' kind g1 g2 ls N Lk a' c'
  r3 : ∀ (w : World) (a : Option Addr) (cap : Nat), BwIn w a Lk → Calls Try.prog 17 #[.agg #[.int .i64 kind, .complex .f32 g1 g2, .float .f32 ls, .slice a N cap], .int .i64 ((n : Int) - (n : Int) / 3)] w fun e w' => ∃ a' c', RunOut w e w' kind g1 g2 ls N Ln a' c'
  same : SameT kind g1 g2 ls N Ln
  ist : IsT 19 kind g1 g2 ls N Ln
theorem tu_of {kind : Int} {g : PtW} {ls n : Nat} {l : List (PtW × PtW)} (B : Base kind g ls l) (hn : n < 20) : Tu kind g.1.1 g.1.2 ls n l.length (l.map wd) (runW kind g ls l (n / 3)) (runW kind g ls l n) := by
  have R1 := runM (runs_of B (i := 0) (n := n) (by omega))
  have R2 := runM (runs_of B (i := 0) (n := n / 3) (by omega))
  have R3 := runM (runs_of B (i := n / 3) (n := n - n / 3) (by omega))
  rw [Nat.zero_add, runW_0] at R1 R2
  rw [show n / 3 + (n - n / 3) = n by omega] at R3
  refine ⟨R1, fun w a cap h => ?_, fun w a cap h => ?_, same_run B n, isT (tum_run B (by omega))⟩
  · have h2 := R2.call w a cap h
    rw [show ((n / 3 : Nat) : Int) = (n : Int) / 3 by omega] at h2
    exact h2
  · have h3 := R3.call w a cap h
    rw [show ((n - n / 3 : Nat) : Int) = (n : Int) - (n : Int) / 3 by omega] at h3
    exact h3

set_option maxHeartbeats 32000000 in
theorem walk (a : Option Addr) (len cap : Nat) (bs : List Int) (w : World) (hrow : ByteRow w w.heap.size a len bs) :
    Calls Try.prog 4 #[.slice a len cap] w fun e w' => e = .returned (.bool true) ∧ Below w.heap.size w w' := by
  by_cases hl : len ≤ 4096
  · go_enter Try.func4, Try.ntmps4
    go_wp2_with fail
    refine (big_no _ _ _ _ hl).mono ?_
    rintro e w0 ⟨rfl, rfl⟩
    go_wp2_with fail
    refine (drawTumble_s a len cap bs _ hrow hl).mono ?_
    rintro e w1 ⟨kind, g, ls, l, b0, c0, n, ⟨rfl, hrow1, hbase, hfew, hn, hb1⟩⟩
    have K := tu_of hbase hn
    have W1 := Lib.hid hrow1
    have B1 := Lib.hid hb1
    have s1 := hb1.size
    clear hbase hrow1 hb1 hrow hfew
    generalize l.map wd = L0 at *
    generalize runW kind g ls l (n / 3) = Lk at *
    generalize runW kind g ls l n = Ln at *
    generalize l.length = N at *
    generalize g.1.1 = g1 at *
    generalize g.1.2 = g2 at *
    generalize (kind : Int) = kd at *
    have R1 := K.r1
    have R2 := Lib.hid K.r2
    have R3 := Lib.hid K.r3
    have SM := K.same
    have IT := K.ist
    clear K
    go_wp2_with fail
    generalize hV : w1.alloc (.cells #[.int .i64 kd, .complex .f32 g1 g2, .float .f32 ls, .slice b0 N c0] 39) = V
    have M1 : Hid (Blk V w1.heap.size #[.int .i64 kd, .complex .f32 g1 g2, .float .f32 ls, .slice b0 N c0] 39) := by rw [← hV]; exact Blk.new _ _ _
    have WV : Hid (BwIn V b0 L0) := by rw [← hV]; exact W1.out.alloc
    have BV : Hid (Below w.heap.size w V) := by rw [← hV]; exact B1.out.alloc s1 _
    clear hV W1 B1 s1
    generalize w1.heap.size = m at *
    refine (R1.call _ _ _ WV.out).mono ?_
    rintro e w2 ⟨b2, c2, ⟨rfl, hr2, hb2⟩⟩
    have M2 : Hid (Blk w2 m #[.int .i64 kd, .complex .f32 g1 g2, .float .f32 ls, .slice b0 N c0] 39) := M1.out.below hb2
    have W2 : Hid (BwIn w2 b0 L0) := WV.out.below hb2
    have A2 := Lib.hid hr2
    have B2 : Hid (Below w.heap.size w w2) := BV.out.trans (hb2.mono BV.out.size)
    clear hr2 hb2 M1 WV BV R1
    have s2 := B2.out.size
    (have m0 := Blk.cellAt (i := 0) M2.out rfl; have m1 := Blk.cellAt (i := 1) M2.out rfl; have m2 := Blk.cellAt (i := 2) M2.out rfl; have m3 := Blk.cellAt (i := 3) M2.out rfl; simp only [List.getElem_toArray, List.getElem_cons_zero, List.getElem_cons_succ] at m0 m1 m2 m3)
    have lm := M2.out.lt
    go_wp2_with fail
    generalize hV : w2.alloc (.cells #[.int .i64 kd, .complex .f32 g1 g2, .float .f32 ls, .slice b2 N c2] 39) = V2
    have M3 : Hid (Blk V2 m #[.int .i64 kd, .complex .f32 g1 g2, .float .f32 ls, .slice b0 N c0] 39) := by rw [← hV]; exact M2.out.alloc
    have L3 : Hid (Blk V2 w2.heap.size #[.int .i64 kd, .complex .f32 g1 g2, .float .f32 ls, .slice b2 N c2] 39) := by rw [← hV]; exact Blk.new _ _ _
    have W3 : Hid (BwIn V2 b0 L0) := by rw [← hV]; exact W2.out.alloc
    have A3 : Hid (BwIn V2 b2 Ln) := by rw [← hV]; exact A2.out.alloc
    have B3 : Hid (Below w.heap.size w V2) := by rw [← hV]; exact B2.out.alloc s2 _
    clear hV M2 W2 A2 B2 s2 m0 m1 m2 m3 lm
    generalize w2.heap.size = al at *
    refine (R2.out _ _ _ W3.out).mono ?_
    rintro e w4 ⟨b4, c4, ⟨rfl, hr4, hb4⟩⟩
    have L4 : Hid (Blk w4 al #[.int .i64 kd, .complex .f32 g1 g2, .float .f32 ls, .slice b2 N c2] 39) := L3.out.below hb4
    have A4 : Hid (BwIn w4 b2 Ln) := A3.out.below hb4
    have K4 := Lib.hid hr4
    have B4 : Hid (Below w.heap.size w w4) := B3.out.trans (hb4.mono B3.out.size)
    clear hr4 hb4 M3 L3 W3 A3 B3 R2
    have s4 := B4.out.size
    go_wp2_with fail
    generalize hV : w4.alloc (.cells #[.int .i64 kd, .complex .f32 g1 g2, .float .f32 ls, .slice b4 N c4] 39) = V4
    have L5 : Hid (Blk V4 al #[.int .i64 kd, .complex .f32 g1 g2, .float .f32 ls, .slice b2 N c2] 39) := by rw [← hV]; exact L4.out.alloc
    have A5 : Hid (BwIn V4 b2 Ln) := by rw [← hV]; exact A4.out.alloc
    have K5 : Hid (BwIn V4 b4 Lk) := by rw [← hV]; exact K4.out.alloc
    have B5 : Hid (Below w.heap.size w V4) := by rw [← hV]; exact B4.out.alloc s4 _
    clear hV L4 A4 K4 B4 s4
    refine (R3.out _ _ _ K5.out).mono ?_
    rintro e w6 ⟨b6, c6, ⟨rfl, hr6, hb6⟩⟩
    have L6 : Hid (Blk w6 al #[.int .i64 kd, .complex .f32 g1 g2, .float .f32 ls, .slice b2 N c2] 39) := L5.out.below hb6
    have A6 : Hid (BwIn w6 b2 Ln) := A5.out.below hb6
    have Q6 := Lib.hid hr6
    have B6 : Hid (Below w.heap.size w w6) := B5.out.trans (hb6.mono B5.out.size)
    clear hr6 hb6 L5 A5 K5 B5 R3
    have s6 := B6.out.size
    (have m0 := Blk.cellAt (i := 0) L6.out rfl; have m1 := Blk.cellAt (i := 1) L6.out rfl; have m2 := Blk.cellAt (i := 2) L6.out rfl; have m3 := Blk.cellAt (i := 3) L6.out rfl; simp only [List.getElem_toArray, List.getElem_cons_zero, List.getElem_cons_succ] at m0 m1 m2 m3)
    have lm := L6.out.lt
    go_wp2_with fail
    generalize hV : w6.alloc (.cells #[.int .i64 kd, .complex .f32 g1 g2, .float .f32 ls, .slice b6 N c6] 39) = V6
    have L7 : Hid (Blk V6 al #[.int .i64 kd, .complex .f32 g1 g2, .float .f32 ls, .slice b2 N c2] 39) := by rw [← hV]; exact L6.out.alloc
    have A7 : Hid (BwIn V6 b2 Ln) := by rw [← hV]; exact A6.out.alloc
    have Q7 : Hid (BwIn V6 b6 Ln) := by rw [← hV]; exact Q6.out.alloc
    have B7 : Hid (Below w.heap.size w V6) := by rw [← hV]; exact B6.out.alloc s6 _
    clear hV L6 A6 Q6 B6 s6 m0 m1 m2 m3 lm
    refine (SM.call _ _ _ _ _ A7.out Q7.out).mono ?_
    rintro e w8 ⟨rfl, hb8⟩
    have L8 : Hid (Blk w8 al #[.int .i64 kd, .complex .f32 g1 g2, .float .f32 ls, .slice b2 N c2] 39) := L7.out.below hb8
    have A8 : Hid (BwIn w8 b2 Ln) := A7.out.below hb8
    have B8 : Hid (Below w.heap.size w w8) := B7.out.trans (hb8.mono B7.out.size)
    clear hb8 L7 A7 Q7 B7 SM
    (have m0 := Blk.cellAt (i := 0) L8.out rfl; have m1 := Blk.cellAt (i := 1) L8.out rfl; have m2 := Blk.cellAt (i := 2) L8.out rfl; have m3 := Blk.cellAt (i := 3) L8.out rfl; simp only [List.getElem_toArray, List.getElem_cons_zero, List.getElem_cons_succ] at m0 m1 m2 m3)
    have lm := L8.out.lt
    go_wp2_with fail
    refine (IT.call _ _ _ A8.out).mono ?_
    rintro e w9 ⟨rfl, hb9⟩
    have B9 : Hid (Below w.heap.size w w9) := B8.out.trans (hb9.mono B8.out.size)
    clear hb9 L8 A8 B8 IT m0 m1 m2 m3 lm
    go_wp2
    go_ret
    exact ⟨rfl, B9.out⟩
  · go_enter Try.func4, Try.ntmps4
    go_wp2_with fail
    refine (big_yes _ _ _ _ hl).mono ?_
    rintro e w0 ⟨rfl, rfl⟩
    go_wp2
    all_goals (go_returns; exact ⟨rfl, by (repeat' (first | (with_reducible exact Below.refl _ _) | (with_reducible assumption) | (with_reducible refine Below.alloc ?_ ?_ _) | (with_reducible refine Below.drew ?_) | (with_reducible refine Below.setCell ?_ ?_ _) | (with_reducible refine Below.trans ?_ (Below.mono (by assumption) ?_)) | (with_reducible exact Nat.le_refl _) | omega | (simp only [World.size_alloc, World.size_setCell, World.size_drew]; omega) | (simp; omega) | (simp; done)))⟩)
end Go.Proofs.Ytekkgpanmccdgaa.wFnTumbles
