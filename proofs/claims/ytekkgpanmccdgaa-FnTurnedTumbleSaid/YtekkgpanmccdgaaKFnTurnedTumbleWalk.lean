/-
  The call of FnTurnedTumble returns true and writes nothing that was there.
-/
import Derived.Test.YtekkgpanmccdgaaK21
import Derived.Deep.RegionHeld3
namespace Go.Proofs.Ytekkgpanmccdgaa.wFnTurnedTumble
open Go.ChangeShapes Go.WideShapes Go.ChangeAt Go.RowKit Go.Joins
set_option linter.unusedSimpArgs false
set_option linter.unusedVariables false
set_option maxRecDepth 100000
attribute [local go_sem] store_f
open Ieee Go.Lib
attribute [local go_sem] store_c

set_option maxHeartbeats 32000000 in
theorem walk (a : Option Addr) (len cap : Nat) (bs : List Int) (w : World) (hrow : ByteRow w w.heap.size a len bs) :
    Calls Try.prog 8 #[.slice a len cap] w fun e w' => e = .returned (.bool true) ∧ Below w.heap.size w w' := by
  have HR := Lib.hid hrow
  clear hrow
  by_cases hl : len ≤ 4096
  · go_enter Try.func8, Try.ntmps8
    go_wp2_with fail
    refine (big_no _ _ _ _ hl).mono ?_
    rintro e w0 ⟨rfl, rfl⟩
    go_wp2_with fail
    refine (drawTumble_s a len cap bs _ HR.out hl).mono ?_
    rintro e w1 ⟨kind, g, ls, l, b0, c0, n, ⟨rfl, hrow1, hbase, hfew, hn, hb1⟩⟩
    have HB := Lib.hid hbase
    have W1 : Hid (BwIn w1 b0 (l.map wd)) := hrow1
    have B1 := Lib.hid hb1
    have s1 := hb1.size
    clear hbase hrow1 hb1 hfew
    go_wp2_with fail
    generalize hV : w1.alloc (.cells #[.int .i64 kind, .complex .f32 g.1.1 g.1.2, .float .f32 ls, .slice b0 l.length c0] 39) = V
    have M1 : Hid (Blk V w1.heap.size #[.int .i64 kind, .complex .f32 g.1.1 g.1.2, .float .f32 ls, .slice b0 l.length c0] 39) := by rw [← hV]; exact Blk.new _ _ _
    have WV : Hid (BwIn V b0 (l.map wd)) := by rw [← hV]; exact W1.out.alloc
    have BV : Hid (Below w.heap.size w V) := by rw [← hV]; exact B1.out.alloc s1 _
    clear hV W1 B1
    generalize w1.heap.size = m at *
    refine (drawSyms_s a len cap bs _ ((HR.out.of BV.out).mono BV.out.size) hl).mono ?_
    rintro e w2 ⟨i, j, k, ⟨rfl, hi, hj, hk, hb2⟩⟩
    have M2 := Lib.hid (M1.out.below hb2)
    have W2 : Hid (BwIn w2 b0 (l.map wd)) := WV.out.below hb2
    have B2 : Hid (Below w.heap.size w w2) := BV.out.trans (hb2.mono BV.out.size)
    have s2 := B2.out.size
    have hS : isSymB (symK i).1 = true := isSymB_iff.2 ⟨by unfold symK; dsimp only; omega, by unfold symK; dsimp only; omega⟩
    obtain ⟨Ln, h1, h2, M0, Mn, K⟩ := tt_of hS HB.out (show n ≤ 24 by omega)
    have K1 := Lib.hid K
    clear hb2 M1 WV BV HB HR hS K hj hk
    generalize l.map wd = L0 at *
    generalize l.length = N at *
    generalize g.1.1 = g1 at *
    generalize g.1.2 = g2 at *
    generalize (kind : Int) = kd at *
    generalize (symK i).1 = st at *
    generalize (symK i).2 = sf at *
    generalize (symK j).1 = st2 at *
    generalize (symK j).2 = sf2 at *
    generalize (symK k).1 = st3 at *
    generalize (symK k).2 = sf3 at *
    have MV := ((M2.out.alloc (o := .cells #[.int .i64 st, .bool sf] 49)).alloc (o := .cells #[.int .i64 st2, .bool sf2] 49)).alloc (o := .cells #[.int .i64 st3, .bool sf3] 49)
    (have p0 := Blk.cellAt (i := 0) MV rfl; have p1 := Blk.cellAt (i := 1) MV rfl; have p2 := Blk.cellAt (i := 2) MV rfl; have p3 := Blk.cellAt (i := 3) MV rfl; simp only [List.getElem_toArray, List.getElem_cons_zero, List.getElem_cons_succ] at p0 p1 p2 p3)
    have f0 := MV.free 0
    clear MV
    have lm := M2.out.lt
    go_wp2_with fail
    generalize hV : (((w2.alloc (.cells #[.int .i64 st, .bool sf] 49)).alloc (.cells #[.int .i64 st2, .bool sf2] 49)).alloc (.cells #[.int .i64 st3, .bool sf3] 49)).setCell ⟨m, 0, Option.none⟩ (.int .i64 0) = V3
    have M3 : Hid (Blk V3 m #[.int .i64 (0 : Int), .complex .f32 g1 g2, .float .f32 ls, .slice b0 N c0] 39) := by rw [← hV]; exact Blk.setAt (b := m) rfl ((M2.out.alloc).alloc).alloc rfl
    have S3 : Hid (Blk V3 w2.heap.size #[.int .i64 st, .bool sf] 49) := by rw [← hV]; exact (((Blk.new _ _ _).alloc).alloc).other (by dsimp only; omega)
    have W3 : Hid (BwIn V3 b0 L0) := by rw [← hV]; exact (((W2.out.alloc).alloc).alloc).grownAt (grownBy_set (grownBy_refl _ _)) p0
    have B3 : Hid (Below w.heap.size w V3) := by rw [← hV]; exact (((B2.out.alloc s2 _).alloc (by simp; omega) _).alloc (by simp; omega) _).setCell (by dsimp only; omega) _
    clear hV M2 W2 B2 p0 p1 p2 p3 f0
    generalize w2.heap.size = sb at *
    refine (K1.out.turn.call _ _ _ W3.out).mono ?_
    rintro e w4 ⟨b4, c4, ⟨rfl, hr, hb⟩⟩
    have M4 := Lib.hid (M3.out.below hb)
    have S4 := Lib.hid (S3.out.below hb)
    have W4 : Hid (BwIn w4 b0 L0) := W3.out.below hb
    have T4 : Hid (BwIn w4 b4 M0) := hr
    have B4 : Hid (Below w.heap.size w w4) := B3.out.trans (hb.mono B3.out.size)
    clear hb hr M3 S3 W3 B3
    have s4 := B4.out.size
    go_wp2_with fail
    generalize hV : w4.alloc (.cells #[.int .i64 (0 : Int), .complex .f32 h1 h2, .float .f32 ls, .slice b4 N c4] 39) = V4
    have M5 : Hid (Blk V4 m #[.int .i64 (0 : Int), .complex .f32 g1 g2, .float .f32 ls, .slice b0 N c0] 39) := by rw [← hV]; exact M4.out.alloc
    have S5 : Hid (Blk V4 sb #[.int .i64 st, .bool sf] 49) := by rw [← hV]; exact S4.out.alloc
    have W5 : Hid (BwIn V4 b0 L0) := by rw [← hV]; exact W4.out.alloc
    have T5 : Hid (BwIn V4 b4 M0) := by rw [← hV]; exact T4.out.alloc
    have B5 : Hid (Below w.heap.size w V4) := by rw [← hV]; exact B4.out.alloc s4 _
    clear hV M4 S4 W4 T4 B4 s4
    refine (K1.out.x.call _ _ _ T5.out).mono ?_
    rintro e w6 ⟨b6, c6, ⟨rfl, hr, hb⟩⟩
    have M6 := Lib.hid (M5.out.below hb)
    have S6 := Lib.hid (S5.out.below hb)
    have W6 : Hid (BwIn w6 b0 L0) := W5.out.below hb
    have X6 : Hid (BwIn w6 b6 Mn) := hr
    have B6 : Hid (Below w.heap.size w w6) := B5.out.trans (hb.mono B5.out.size)
    clear hb hr M5 S5 W5 T5 B5
    have s6 := B6.out.size
    (have m0 := Blk.cellAt (i := 0) M6.out rfl; have m1 := Blk.cellAt (i := 1) M6.out rfl; have m2 := Blk.cellAt (i := 2) M6.out rfl; have m3 := Blk.cellAt (i := 3) M6.out rfl; simp only [List.getElem_toArray, List.getElem_cons_zero, List.getElem_cons_succ] at m0 m1 m2 m3)
    have lm := M6.out.lt
    go_wp2_with fail
    generalize hV : w6.alloc (.cells #[.int .i64 (0 : Int), .complex .f32 h1 h2, .float .f32 ls, .slice b6 N c6] 39) = V6
    have N7 : Hid (Blk V6 w6.heap.size #[.int .i64 (0 : Int), .complex .f32 h1 h2, .float .f32 ls, .slice b6 N c6] 39) := by rw [← hV]; exact Blk.new _ _ _
    have S7 : Hid (Blk V6 sb #[.int .i64 st, .bool sf] 49) := by rw [← hV]; exact S6.out.alloc
    have W7 : Hid (BwIn V6 b0 L0) := by rw [← hV]; exact W6.out.alloc
    have X7 : Hid (BwIn V6 b6 Mn) := by rw [← hV]; exact X6.out.alloc
    have B7 : Hid (Below w.heap.size w V6) := by rw [← hV]; exact B6.out.alloc s6 _
    clear hV M6 S6 W6 X6 B6 s6 m0 m1 m2 m3 lm
    generalize w6.heap.size = xb at *
    refine (K1.out.y.call _ _ _ W7.out).mono ?_
    rintro e w8 ⟨b8, c8, ⟨rfl, hr, hb⟩⟩
    have N8 := Lib.hid (N7.out.below hb)
    have S8 := Lib.hid (S7.out.below hb)
    have X8 : Hid (BwIn w8 b6 Mn) := X7.out.below hb
    have Y8 : Hid (BwIn w8 b8 Ln) := hr
    have B8 : Hid (Below w.heap.size w w8) := B7.out.trans (hb.mono B7.out.size)
    clear hb hr N7 S7 W7 X7 B7
    have s8 := B8.out.size
    have q0 := Blk.cellAt (i := 0) S8.out rfl
    have q1 := Blk.cellAt (i := 1) S8.out rfl
    simp only [List.getElem_toArray, List.getElem_cons_zero, List.getElem_cons_succ] at q0 q1
    have ls0 := S8.out.lt
    go_wp2_with fail
    generalize hV : w8.alloc (.cells #[.int .i64 (0 : Int), .complex .f32 g1 g2, .float .f32 ls, .slice b8 N c8] 39) = V8
    have N9 : Hid (Blk V8 xb #[.int .i64 (0 : Int), .complex .f32 h1 h2, .float .f32 ls, .slice b6 N c6] 39) := by rw [← hV]; exact N8.out.alloc
    have X9 : Hid (BwIn V8 b6 Mn) := by rw [← hV]; exact X8.out.alloc
    have Y9 : Hid (BwIn V8 b8 Ln) := by rw [← hV]; exact Y8.out.alloc
    have B9 : Hid (Below w.heap.size w V8) := by rw [← hV]; exact B8.out.alloc s8 _
    clear hV N8 S8 X8 Y8 B8 s8 q0 q1 ls0
    refine (K1.out.z.call _ _ _ Y9.out).mono ?_
    rintro e wa ⟨ba, ca, ⟨rfl, hr, hb⟩⟩
    have Na := Lib.hid (N9.out.below hb)
    have Xa : Hid (BwIn wa b6 Mn) := X9.out.below hb
    have Za : Hid (BwIn wa ba Mn) := hr
    have Ba : Hid (Below w.heap.size w wa) := B9.out.trans (hb.mono B9.out.size)
    clear hb hr N9 X9 Y9 B9
    have sa := Ba.out.size
    (have m0 := Blk.cellAt (i := 0) Na.out rfl; have m1 := Blk.cellAt (i := 1) Na.out rfl; have m2 := Blk.cellAt (i := 2) Na.out rfl; have m3 := Blk.cellAt (i := 3) Na.out rfl; simp only [List.getElem_toArray, List.getElem_cons_zero, List.getElem_cons_succ] at m0 m1 m2 m3)
    have lm := Na.out.lt
    go_wp2_with fail
    generalize hV : wa.alloc (.cells #[.int .i64 (0 : Int), .complex .f32 h1 h2, .float .f32 ls, .slice ba N ca] 39) = Va
    have Xb : Hid (BwIn Va b6 Mn) := by rw [← hV]; exact Xa.out.alloc
    have Zb : Hid (BwIn Va ba Mn) := by rw [← hV]; exact Za.out.alloc
    have Bb : Hid (Below w.heap.size w Va) := by rw [← hV]; exact Ba.out.alloc sa _
    clear hV Na Xa Za Ba sa m0 m1 m2 m3 lm
    refine (K1.out.same.call _ _ _ _ _ Xb.out Zb.out).mono ?_
    rintro e wc ⟨rfl, hb⟩
    have Bc : Hid (Below w.heap.size w wc) := Bb.out.trans (hb.mono Bb.out.size)
    clear hb Xb Zb Bb K1
    go_wp2
    go_ret
    exact ⟨rfl, Bc.out⟩
  · go_enter Try.func8, Try.ntmps8
    go_wp2_with fail
    refine (big_yes _ _ _ _ hl).mono ?_
    rintro e w0 ⟨rfl, rfl⟩
    go_wp2
    all_goals (go_returns; exact ⟨rfl, by (repeat' (first | (with_reducible exact Below.refl _ _) | (with_reducible assumption) | (with_reducible refine Below.alloc ?_ ?_ _) | (with_reducible refine Below.drew ?_) | (with_reducible refine Below.setCell ?_ ?_ _) | (with_reducible refine Below.trans ?_ (Below.mono (by assumption) ?_)) | (with_reducible exact Nat.le_refl _) | omega | (simp only [World.size_alloc, World.size_setCell, World.size_drew]; omega) | (simp; omega) | (simp; done)))⟩)
end Go.Proofs.Ytekkgpanmccdgaa.wFnTurnedTumble
