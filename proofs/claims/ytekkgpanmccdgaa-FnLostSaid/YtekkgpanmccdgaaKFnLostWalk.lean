/-
  The call of FnLost returns true and writes nothing that was there.
-/
import Derived.Test.YtekkgpanmccdgaaK23
namespace Go.Proofs.Ytekkgpanmccdgaa.wFnLost
open Go.ChangeShapes Go.WideShapes Go.ChangeAt Go.RowKit Go.Joins
set_option linter.unusedSimpArgs false
set_option linter.unusedVariables false
set_option maxRecDepth 100000
attribute [local go_sem] store_f
open Ieee Go.Lib
attribute [local go_sem] store_c

set_option maxHeartbeats 32000000 in
theorem walk (a : Option Addr) (len cap : Nat) (bs : List Int) (w : World) (hrow : ByteRow w w.heap.size a len bs) :
    Calls Try.prog 6 #[.slice a len cap] w fun e w' => e = .returned (.bool true) ∧ Below w.heap.size w w' := by
  have HR := Lib.hid hrow
  clear hrow
  by_cases hl : len ≤ 4096
  · go_enter Try.func6, Try.ntmps6
    go_wp2_with fail
    refine (big_no _ _ _ _ hl).mono ?_
    rintro e w0 ⟨rfl, rfl⟩
    go_wp2_with fail
    refine (drawTumble_s a len cap bs _ HR.out hl).mono ?_
    rintro e w1 ⟨kind, g, ls, l, b0, c0, n, ⟨rfl, hrow1, hbase, hfew, hn, hb1⟩⟩
    obtain ⟨Le, Lf, K⟩ := lo_of hbase (show n ≤ 24 by omega)
    have K1 := Lib.hid K
    have W1 : Hid (BwIn w1 b0 (l.map wd)) := hrow1
    have B1 := Lib.hid hb1
    have s1 := hb1.size
    have hN : l.length ≤ 4 := hfew
    clear hbase hrow1 hb1 hfew K HR
    generalize l.map wd = L0 at *
    generalize l.length = N at *
    generalize g.1.1 = g1 at *
    generalize g.1.2 = g2 at *
    generalize (kind : Int) = kd at *
    have Q := (Blk.new w1 #[.int .i64 kd, .complex .f32 g1 g2, .float .f32 ls, .slice b0 N c0] 39)
    (have p0 := Blk.cellAt (i := 0) Q rfl; have p1 := Blk.cellAt (i := 1) Q rfl; have p2 := Blk.cellAt (i := 2) Q rfl; have p3 := Blk.cellAt (i := 3) Q rfl; simp only [List.getElem_toArray, List.getElem_cons_zero, List.getElem_cons_succ] at p0 p1 p2 p3)
    have f1 := Q.free 1
    clear Q
    go_wp2_with fail
    generalize hV : w1.alloc (.cells #[.int .i64 kd, .complex .f32 0 0, .float .f32 ls, .slice b0 N c0] 39) = V
    have M1 : Hid (Blk V w1.heap.size #[.int .i64 kd, .complex .f32 0 0, .float .f32 ls, .slice b0 N c0] 39) := by rw [← hV]; exact Blk.new _ _ _
    have WV : Hid (BwIn V b0 L0) := by rw [← hV]; exact W1.out.alloc
    have BV : Hid (Below w.heap.size w V) := by rw [← hV]; exact B1.out.alloc s1 _
    clear hV W1 B1 p0 p1 p2 p3 f1
    generalize w1.heap.size = m at *
    refine (K1.out.r1.call _ _ _ WV.out).mono ?_
    rintro e w2 ⟨b2, c2, ⟨rfl, hr, hb⟩⟩
    have M2 := Lib.hid (M1.out.below hb)
    have W2 : Hid (BwIn w2 b0 L0) := WV.out.below hb
    have E2 : Hid (BwIn w2 b2 Le) := hr
    have B2 : Hid (Below w.heap.size w w2) := BV.out.trans (hb.mono BV.out.size)
    clear hb hr M1 WV BV
    have s2 := B2.out.size
    (have m0 := Blk.cellAt (i := 0) M2.out rfl; have m1 := Blk.cellAt (i := 1) M2.out rfl; have m2 := Blk.cellAt (i := 2) M2.out rfl; have m3 := Blk.cellAt (i := 3) M2.out rfl; simp only [List.getElem_toArray, List.getElem_cons_zero, List.getElem_cons_succ] at m0 m1 m2 m3)
    have lm := M2.out.lt
    go_wp2_with fail
    generalize hV : w2.alloc (.cells #[.int .i64 kd, .complex .f32 0 0, .float .f32 ls, .slice b2 N c2] 39) = V2
    have M3 : Hid (Blk V2 m #[.int .i64 kd, .complex .f32 0 0, .float .f32 ls, .slice b0 N c0] 39) := by rw [← hV]; exact M2.out.alloc
    have N3 : Hid (Blk V2 w2.heap.size #[.int .i64 kd, .complex .f32 0 0, .float .f32 ls, .slice b2 N c2] 39) := by rw [← hV]; exact Blk.new _ _ _
    have W3 : Hid (BwIn V2 b0 L0) := by rw [← hV]; exact W2.out.alloc
    have E3 : Hid (BwIn V2 b2 Le) := by rw [← hV]; exact E2.out.alloc
    have B3 : Hid (Below w.heap.size w V2) := by rw [← hV]; exact B2.out.alloc s2 _
    clear hV M2 W2 E2 B2 s2 m0 m1 m2 m3
    generalize w2.heap.size = eb at *
    refine (K1.out.rs.call _ _ _ W3.out).mono ?_
    rintro e w4 ⟨b4, c4, ⟨rfl, hr, hb⟩⟩
    have M4 := Lib.hid (M3.out.below hb)
    have N4 := Lib.hid (N3.out.below hb)
    have W4 : Hid (BwIn w4 b0 L0) := W3.out.below hb
    have E4 : Hid (BwIn w4 b2 Le) := E3.out.below hb
    have B4 : Hid (Below w.heap.size w w4) := B3.out.trans (hb.mono B3.out.size)
    clear hb hr M3 N3 W3 E3 B3
    have s4 := B4.out.size
    have hme : m < eb := lm
    clear lm
    (have m0 := Blk.cellAt (i := 0) M4.out rfl; have m1 := Blk.cellAt (i := 1) M4.out rfl; have m2 := Blk.cellAt (i := 2) M4.out rfl; have m3 := Blk.cellAt (i := 3) M4.out rfl; simp only [List.getElem_toArray, List.getElem_cons_zero, List.getElem_cons_succ] at m0 m1 m2 m3)
    have P0 := Lib.hid m0
    have f2 := M4.out.free 2
    have l4 := M4.out.lt
    go_wp2_with fail
    generalize hV : (w4.setCell ⟨m, 2, Option.none⟩ (.float .f32 0)).alloc (.cells #[.int .i64 kd, .complex .f32 0 0, .float .f32 ls, .slice b4 N c4] 39) = V5
    have M5 : Hid (Blk V5 m #[.int .i64 kd, .complex .f32 0 0, .float .f32 0, .slice b0 N c0] 39) := by rw [← hV]; exact (Blk.setAt (b := m) rfl M4.out rfl).alloc
    have N5 : Hid (Blk V5 eb #[.int .i64 kd, .complex .f32 0 0, .float .f32 ls, .slice b2 N c2] 39) := by rw [← hV]; exact (N4.out.other (by dsimp only; omega)).alloc
    have W5 : Hid (BwIn V5 b0 L0) := by rw [← hV]; exact (W4.out.grownAt (grownBy_set (grownBy_refl _ _)) P0.out).alloc
    have E5 : Hid (BwIn V5 b2 Le) := by rw [← hV]; exact (E4.out.grownAt (grownBy_set (grownBy_refl _ _)) P0.out).alloc
    have B5 : Hid (Below w.heap.size w V5) := by rw [← hV]; exact (B4.out.setCell (by dsimp only; omega) _).alloc (by simp; omega) _
    clear hV M4 N4 W4 E4 B4 s4 m0 m1 m2 m3 P0 f2 l4
    refine (K1.out.r2.call _ _ _ W5.out).mono ?_
    rintro e w6 ⟨b6, c6, ⟨rfl, hr, hb⟩⟩
    have M6 := Lib.hid (M5.out.below hb)
    have N6 := Lib.hid (N5.out.below hb)
    have W6 : Hid (BwIn w6 b0 L0) := W5.out.below hb
    have E6 : Hid (BwIn w6 b2 Le) := E5.out.below hb
    have F6 : Hid (BwIn w6 b6 Lf) := hr
    have B6 : Hid (Below w.heap.size w w6) := B5.out.trans (hb.mono B5.out.size)
    clear hb hr M5 N5 W5 E5 B5
    have s6 := B6.out.size
    go_wp2_with fail
    generalize hV : w6.alloc (.cells #[.int .i64 kd, .complex .f32 0 0, .float .f32 0, .slice b6 N c6] 39) = Y
    have M7 : Hid (Blk Y m #[.int .i64 kd, .complex .f32 0 0, .float .f32 0, .slice b0 N c0] 39) := by rw [← hV]; exact M6.out.alloc
    have N7 : Hid (Blk Y eb #[.int .i64 kd, .complex .f32 0 0, .float .f32 ls, .slice b2 N c2] 39) := by rw [← hV]; exact N6.out.alloc
    have G7 : Hid (Blk Y w6.heap.size #[.int .i64 kd, .complex .f32 0 0, .float .f32 0, .slice b6 N c6] 39) := by rw [← hV]; exact Blk.new _ _ _
    have W7 : Hid (BwIn Y b0 L0) := by rw [← hV]; exact W6.out.alloc
    have E7 : Hid (BwIn Y b2 Le) := by rw [← hV]; exact E6.out.alloc
    have F7 : Hid (BwIn Y b6 Lf) := by rw [← hV]; exact F6.out.alloc
    have B7 : Hid (Below w.heap.size w Y) := by rw [← hV]; exact B6.out.alloc s6 _
    clear hV M6 N6 W6 E6 F6 B6 s6
    generalize w6.heap.size = fb at *
    go_loopw [11] (fun i wr => ∃ k : Nat, k ≤ N ∧ i = .int .i64 k ∧ Below Y.heap.size Y wr) (fun i _ => N - (intOf i).toNat)
    case atStart => exact ⟨0, by omega, rfl, Below.refl _ _⟩
    case round =>
      obtain ⟨k, hk, rfl, hbel⟩ := hrel
      have HB := Lib.hid hbel
      have M8 := Lib.hid (M7.out.below hbel)
      have N8 := Lib.hid (N7.out.below hbel)
      have G8 := Lib.hid (G7.out.below hbel)
      have W8 : Hid (BwIn wr b0 L0) := W7.out.below hbel
      have E8 : Hid (BwIn wr b2 Le) := E7.out.below hbel
      have F8 : Hid (BwIn wr b6 Lf) := F7.out.below hbel
      have B8 : Hid (Below w.heap.size w wr) := B7.out.trans (hbel.mono B7.out.size)
      clear hbel M7 N7 G7 W7 E7 F7 B7
      have m3 := Blk.cellAt (i := 3) M8.out rfl
      have n3 := Blk.cellAt (i := 3) N8.out rfl
      have g3 := Blk.cellAt (i := 3) G8.out rfl
      simp only [List.getElem_toArray, List.getElem_cons_zero, List.getElem_cons_succ] at m3 n3 g3
      have lm := M8.out.lt
      have ln := N8.out.lt
      have lg := G8.out.lt
      by_cases hlt : k < N
      · obtain ⟨s, t, u, SP⟩ := K1.out.sp k hlt
        have z0 := K1.out.l0
        have z1 := K1.out.le
        have z2 := K1.out.lf
        rcases W8.out with hnil | ⟨h0, rfl, hrow0⟩
        · exfalso; rw [hnil] at z0; simp at z0; omega
        rcases E8.out with hnil | ⟨h1, rfl, hrow1⟩
        · exfalso; rw [hnil] at z1; simp at z1; omega
        rcases F8.out with hnil | ⟨h2, rfl, hrow2⟩
        · exfalso; rw [hnil] at z2; simp at z2; omega
        obtain ⟨_, c01⟩ := hrow0 k (by omega)
        obtain ⟨_, c11⟩ := hrow1 k (by omega)
        obtain ⟨_, c21⟩ := hrow2 k (by omega)
        generalize L0.getD k default = b at SP c01
        generalize Le.getD k default = e at SP c11
        generalize Lf.getD k default = f at SP c21
        have S1 := SP.sb
        have S2 := SP.se
        have S3 := SP.sf
        have q1 := SP.le
        have q2 := SP.eq
        have q3 : (FloatKind.f32.format.order u s != some .eq) = false := by rw [bne, q2]; rfl
        clear SP z0 z1 z2 hrow0 hrow1 hrow2
        go_wp2_with fail
        refine wp_region_still_lit (by kernel_rfl) (by kernel_rfl) ?_
        repeat still_step
        still_call (S2.call _)
        repeat still_step
        still_call (S1.call _)
        repeat still_step
        still_call (S3.call _)
        repeat still_step
        still_call (S1.call _)
        repeat still_step
        refine wpStill_nil ?_
        go_wp2
        go_roundw
        case rel => exact ⟨k + 1, by omega, by go_num, by first | exact HB.out.drew | exact HB.out.trans (below_draws _ _ _)⟩
        case measure => simp [intOf]; omega
      · have hkm : k = N := by omega
        subst hkm
        (have n0 := Blk.cellAt (i := 0) N8.out rfl; have n1 := Blk.cellAt (i := 1) N8.out rfl; have n2 := Blk.cellAt (i := 2) N8.out rfl; have n4 := Blk.cellAt (i := 3) N8.out rfl; simp only [List.getElem_toArray, List.getElem_cons_zero, List.getElem_cons_succ] at n0 n1 n2 n4)
        go_wp2_with fail
        refine (K1.out.en.call _ _ _ E8.out).mono ?_
        rintro e w9 ⟨x, rfl, hx, hb⟩
        have B9 : Hid (Below w.heap.size w w9) := B8.out.trans (hb.mono B8.out.size)
        have q := le_zero hx.fin
        rw [decide_eq_true hx.nn] at q
        clear hb hx
        go_wp2
        go_ret
        exact ⟨rfl, B9.out⟩
  · go_enter Try.func6, Try.ntmps6
    go_wp2_with fail
    refine (big_yes _ _ _ _ hl).mono ?_
    rintro e w0 ⟨rfl, rfl⟩
    go_wp2
    all_goals (go_returns; exact ⟨rfl, by (repeat' (first | (with_reducible exact Below.refl _ _) | (with_reducible assumption) | (with_reducible refine Below.alloc ?_ ?_ _) | (with_reducible refine Below.drew ?_) | (with_reducible refine Below.setCell ?_ ?_ _) | (with_reducible refine Below.trans ?_ (Below.mono (by assumption) ?_)) | (with_reducible exact Nat.le_refl _) | omega | (simp only [World.size_alloc, World.size_setCell, World.size_drew]; omega) | (simp; omega) | (simp; done)))⟩)
end Go.Proofs.Ytekkgpanmccdgaa.wFnLost
