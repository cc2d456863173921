/-
  The call of FnReplayed returns true and writes nothing that was there.
-/
import Derived.Test.YtfdgijmmgllmgaaGreatS37
namespace Go.Proofs.YtfdgijmmgllmgaaGreat.wFnReplayed
open Go.ChangeShapes Go.WideShapes Go.ChangeAt Go.RowKit Go.Joins
set_option linter.unusedSimpArgs false
set_option linter.unusedVariables false
set_option maxRecDepth 100000
attribute [local go_sem] store_f
open Ieee Go.Lib
attribute [local go_sem] store_c run_equalIn_c run_equalIn_g
set_option maxHeartbeats 64000000 in
theorem walk (a : Option Addr) (len cap : Nat) (bs : List Int) (w : World) (hrow : ByteRow w w.heap.size a len bs) :
    Calls Tryz.prog 4 #[.slice a len cap] w fun e w' => e = .returned (.bool true) ∧ Below w.heap.size w w' := by
  by_cases hl : len ≤ 4096
  · go_enter Tryz.func4, Tryz.ntmps4
    go_wp2_with fail
    refine (big_no _ _ _ _ hl).mono ?_
    rintro e w0 ⟨rfl, rfl⟩
    go_wp2_with fail
    refine (drawShow_s a len cap bs _ hrow hl).mono ?_
    rintro e w1 ⟨S, x, a1, b1, l1, ca1, cb1, cl1, ⟨rfl, told, ok, hlen, hcost, hinn, hb1, hcap, hpos⟩⟩
    rcases hinn.lg with hnil | ⟨g, rfl, hlie⟩
    · exfalso
      have h1 := ev_nil hnil
      have h2 : S.log = [] := by simpa [Shw.w] using h1
      rw [h2] at hpos
      simp at hpos
    obtain ⟨k, hk⟩ : ∃ k : Nat, (S.log.length : Int) / 2 = k := ⟨S.log.length / 2, by omega⟩
    have hkl : k ≤ S.log.length := by omega
    obtain ⟨H, K⟩ := rp_of told hcost hlen hkl
    have R := K.rep
    have NM := K.new
    have R1 := K.r1
    have R2 := K.r2
    have SM := Lib.hid K.same
    have B0 := Lib.hid hb1
    have I0 := Lib.hid hinn
    have s0 := hb1.size
    have hk1 : (k : Int) ≤ (cl1 : Int) := by omega
    have hk2 : (k : Int) ≤ (S.log.length : Int) := by omega
    have hk3 : (0 : Int) ≤ (k : Int) := by omega
    have hk4 : (S.log.length : Int) ≤ (cl1 : Int) := by omega
    have hE : Hid (S.log.length - k = S.log.length - k) := rfl
    clear told ok hcost hinn hb1 hrow K hlie
    go_wp2_with fail
    generalize hV : (w1.alloc (.cells #[.int .i64 S.w.size, .float .f32 S.w.step, .float .f32 S.w.lit.r, .float .f32 S.w.lit.g, .float .f32 S.w.lit.b, .slice a1 S.bds.length ca1, .int .i64 S.w.kind, .complex .f32 S.w.g1 S.w.g2, .float .f32 0, .slice b1 S.bds.length cb1, .int .i64 S.w.ticks, .slice (some ⟨g, 0, Option.none⟩) S.log.length cl1] 34)).alloc (.cells #[.int .i64 x.w.kind, .int .i64 x.w.n, .complex .f32 x.w.z1 x.w.z2, .complex .f32 x.w.s.a1 x.w.s.a2, .complex .f32 x.w.s.b1 x.w.s.b2, .complex .f32 x.w.s.c1 x.w.s.c2, .float .f32 x.w.s.r, .float .f32 x.w.s.g, .float .f32 x.w.s.b, .float .f32 x.w.s.k, .float .f32 x.w.l.r, .float .f32 x.w.l.g, .float .f32 x.w.l.b] 38) = V
    have M1 : Hid (Blk V w1.heap.size #[.int .i64 S.w.size, .float .f32 S.w.step, .float .f32 S.w.lit.r, .float .f32 S.w.lit.g, .float .f32 S.w.lit.b, .slice a1 S.bds.length ca1, .int .i64 S.w.kind, .complex .f32 S.w.g1 S.w.g2, .float .f32 0, .slice b1 S.bds.length cb1, .int .i64 S.w.ticks, .slice (some ⟨g, 0, Option.none⟩) S.log.length cl1] 34) := by rw [← hV]; exact (Blk.new _ _ _).alloc
    have I1 : Hid (ShoIn V S.w a1 b1 (some ⟨g, 0, Option.none⟩)) := by rw [← hV]; exact I0.out.alloc.alloc
    have B1 : Hid (Below w.heap.size w V) := by rw [← hV]; exact (B0.out.alloc s0 _).alloc (by simp; omega) _
    clear hV B0 I0 s0
    generalize w1.heap.size = m at *
    refine (R.call _ _ _ _ _ _ _ I1.out).mono ?_
    rintro e w2 ⟨a2, b2, l2, ca2, cb2, cl2, ⟨rfl, hI2, hb⟩⟩
    have M2 := Lib.hid (M1.out.below hb)
    have I2 := Lib.hid (I1.out.below hb)
    have J2 := Lib.hid hI2
    have B2 : Hid (Below w.heap.size w w2) := B1.out.trans (hb.mono B1.out.size)
    clear hI2 hb M1 I1 B1 R
    have s2 := B2.out.size
    (have m0 := Blk.cellAt (i := 0) M2.out rfl; have m1 := Blk.cellAt (i := 1) M2.out rfl; have m2 := Blk.cellAt (i := 2) M2.out rfl; have m3 := Blk.cellAt (i := 3) M2.out rfl; have m4 := Blk.cellAt (i := 4) M2.out rfl; have m5 := Blk.cellAt (i := 5) M2.out rfl; have m6 := Blk.cellAt (i := 6) M2.out rfl; have m7 := Blk.cellAt (i := 7) M2.out rfl; have m8 := Blk.cellAt (i := 8) M2.out rfl; have m9 := Blk.cellAt (i := 9) M2.out rfl; have m10 := Blk.cellAt (i := 10) M2.out rfl; have m11 := Blk.cellAt (i := 11) M2.out rfl; simp only [List.getElem_toArray, List.getElem_cons_zero, List.getElem_cons_succ] at m0 m1 m2 m3 m4 m5 m6 m7 m8 m9 m10 m11)
    have lm := M2.out.lt
    go_wp2_with fail
    generalize hV : w2.alloc (.cells #[.int .i64 S.w.size, .float .f32 S.w.step, .float .f32 S.w.lit.r, .float .f32 S.w.lit.g, .float .f32 S.w.lit.b, .slice a2 S.bds.length ca2, .int .i64 S.w.kind, .complex .f32 S.w.g1 S.w.g2, .float .f32 0, .slice b2 S.bds.length cb2, .int .i64 S.w.ticks, .slice l2 S.log.length cl2] 34) = V2
    have M3 : Hid (Blk V2 m #[.int .i64 S.w.size, .float .f32 S.w.step, .float .f32 S.w.lit.r, .float .f32 S.w.lit.g, .float .f32 S.w.lit.b, .slice a1 S.bds.length ca1, .int .i64 S.w.kind, .complex .f32 S.w.g1 S.w.g2, .float .f32 0, .slice b1 S.bds.length cb1, .int .i64 S.w.ticks, .slice (some ⟨g, 0, Option.none⟩) S.log.length cl1] 34) := by rw [← hV]; exact M2.out.alloc
    have I3 : Hid (ShoIn V2 S.w a1 b1 (some ⟨g, 0, Option.none⟩)) := by rw [← hV]; exact I2.out.alloc
    have J3 : Hid (ShoIn V2 S.w a2 b2 l2) := by rw [← hV]; exact J2.out.alloc
    have B3 : Hid (Below w.heap.size w V2) := by rw [← hV]; exact B2.out.alloc s2 _
    clear hV M2 I2 J2 B2 s2 m0 m1 m2 m3 m4 m5 m6 m7 m8 m9 m10 m11 lm
    generalize w2.heap.size = n at *
    refine (SM.out.call _ _ _ _ _ _ _ _ _ _ _ _ _ I3.out J3.out).mono ?_
    rintro e w4 ⟨rfl, hb⟩
    have M4 := Lib.hid (M3.out.below hb)
    have I4 := Lib.hid (I3.out.below hb)
    have B4 : Hid (Below w.heap.size w w4) := B3.out.trans (hb.mono B3.out.size)
    clear hb M3 I3 J3 B3
    (have m0 := Blk.cellAt (i := 0) M4.out rfl; have m1 := Blk.cellAt (i := 1) M4.out rfl; have m2 := Blk.cellAt (i := 2) M4.out rfl; have m3 := Blk.cellAt (i := 3) M4.out rfl; have m4 := Blk.cellAt (i := 4) M4.out rfl; have m5 := Blk.cellAt (i := 5) M4.out rfl; have m6 := Blk.cellAt (i := 6) M4.out rfl; have m7 := Blk.cellAt (i := 7) M4.out rfl; have m8 := Blk.cellAt (i := 8) M4.out rfl; have m9 := Blk.cellAt (i := 9) M4.out rfl; have m10 := Blk.cellAt (i := 10) M4.out rfl; have m11 := Blk.cellAt (i := 11) M4.out rfl; simp only [List.getElem_toArray, List.getElem_cons_zero, List.getElem_cons_succ] at m0 m1 m2 m3 m4 m5 m6 m7 m8 m9 m10 m11)
    have lm := M4.out.lt
    go_wp2_with fail
    refine (NM.call _).mono ?_
    rintro e w5 ⟨rfl, hb⟩
    have M5 := Lib.hid (M4.out.below hb)
    have I5 := Lib.hid (I4.out.below hb)
    have B5 : Hid (Below w.heap.size w w5) := B4.out.trans (hb.mono B4.out.size)
    clear hb M4 I4 B4 NM m0 m1 m2 m3 m4 m5 m6 m7 m8 m9 m10 m11 lm
    have s5 := B5.out.size
    have R3 := R1
    have R4 := R2
    clear R1 R2
    go_upto_region 9 with fail
    generalize hV : w5.alloc (.cells #[.int .i64 (bare 0 (S.size : Int) S.step lit0).size, .float .f32 (bare 0 (S.size : Int) S.step lit0).step, .float .f32 (bare 0 (S.size : Int) S.step lit0).lit.r, .float .f32 (bare 0 (S.size : Int) S.step lit0).lit.g, .float .f32 (bare 0 (S.size : Int) S.step lit0).lit.b, .slice Option.none 0 0, .int .i64 (bare 0 (S.size : Int) S.step lit0).kind, .complex .f32 (bare 0 (S.size : Int) S.step lit0).g1 (bare 0 (S.size : Int) S.step lit0).g2, .float .f32 0, .slice Option.none 0 0, .int .i64 (bare 0 (S.size : Int) S.step lit0).ticks, .slice Option.none 0 0] 34) = V5
    have M6 : Hid (Blk V5 m #[.int .i64 S.w.size, .float .f32 S.w.step, .float .f32 S.w.lit.r, .float .f32 S.w.lit.g, .float .f32 S.w.lit.b, .slice a1 S.bds.length ca1, .int .i64 S.w.kind, .complex .f32 S.w.g1 S.w.g2, .float .f32 0, .slice b1 S.bds.length cb1, .int .i64 S.w.ticks, .slice (some ⟨g, 0, Option.none⟩) S.log.length cl1] 34) := by rw [← hV]; exact M5.out.alloc
    have X6 : Hid (Blk V5 w5.heap.size #[.int .i64 (bare 0 (S.size : Int) S.step lit0).size, .float .f32 (bare 0 (S.size : Int) S.step lit0).step, .float .f32 (bare 0 (S.size : Int) S.step lit0).lit.r, .float .f32 (bare 0 (S.size : Int) S.step lit0).lit.g, .float .f32 (bare 0 (S.size : Int) S.step lit0).lit.b, .slice Option.none 0 0, .int .i64 (bare 0 (S.size : Int) S.step lit0).kind, .complex .f32 (bare 0 (S.size : Int) S.step lit0).g1 (bare 0 (S.size : Int) S.step lit0).g2, .float .f32 0, .slice Option.none 0 0, .int .i64 (bare 0 (S.size : Int) S.step lit0).ticks, .slice Option.none 0 0] 34) := by rw [← hV]; exact Blk.new _ _ _
    have I6 : Hid (ShoIn V5 S.w a1 b1 (some ⟨g, 0, Option.none⟩)) := by rw [← hV]; exact I5.out.alloc
    have B6 : Hid (Below w.heap.size w V5) := by rw [← hV]; exact B5.out.alloc s5 _
    clear hV M5 I5 B5 s5
    generalize w5.heap.size = P at *
    have E6 : Hid (EvsAt V5 (some ⟨g, 0, Option.none⟩) ((S.log.take k).map Ev.w)) := by
      rcases I6.out.lg with hnil | ⟨g', e, hlie⟩
      · exact absurd (ev_nil hnil) (by intro h; have h2 : S.log = [] := by simpa [Shw.w] using h
                                       rw [h2] at hpos; simp at hpos)
      · cases e; exact (logs_cut hlie k).1
    go_cut [10, 11] (fun v u wx => ∃ q a b l ca cb cl, v = .pointer (some ⟨q, 0, Option.none⟩) ∧ u = .int .i64 k ∧ Got V5 wx q H.w H.bds.length H.bds.length H.log.length a b l ca cb cl)
    case first =>
      have c11 := Blk.cellAt (i := 11) M6.out rfl
      simp only [List.getElem_toArray, List.getElem_cons_zero, List.getElem_cons_succ] at c11
      (have p0 := Blk.cellAt (i := 0) X6.out rfl; have p1 := Blk.cellAt (i := 1) X6.out rfl; have p2 := Blk.cellAt (i := 2) X6.out rfl; have p3 := Blk.cellAt (i := 3) X6.out rfl; have p4 := Blk.cellAt (i := 4) X6.out rfl; have p5 := Blk.cellAt (i := 5) X6.out rfl; have p6 := Blk.cellAt (i := 6) X6.out rfl; have p7 := Blk.cellAt (i := 7) X6.out rfl; have p8 := Blk.cellAt (i := 8) X6.out rfl; have p9 := Blk.cellAt (i := 9) X6.out rfl; have p10 := Blk.cellAt (i := 10) X6.out rfl; have p11 := Blk.cellAt (i := 11) X6.out rfl; simp only [List.getElem_toArray, List.getElem_cons_zero, List.getElem_cons_succ] at p0 p1 p2 p3 p4 p5 p6 p7 p8 p9 p10 p11)
      have hBX : Below V5.heap.size V5 V5 := Below.refl _ _
      have hzX := Nat.le_refl V5.heap.size
      have lm := M6.out.lt
      have lP := X6.out.lt
      go_region_held3 (fun wx => Below V5.heap.size V5 wx ∧ V5.heap.size ≤ wx.heap.size ∧ m < wx.heap.size ∧ P < wx.heap.size ∧ wx.cell? ⟨m, 11, Option.none⟩ = some (.slice (some ⟨g, 0, Option.none⟩) S.log.length cl1) ∧ wx.cell? ⟨P, 0, Option.none⟩ = some (.int .i64 (bare 0 (S.size : Int) S.step lit0).size) ∧ wx.cell? ⟨P, 1, Option.none⟩ = some (.float .f32 (bare 0 (S.size : Int) S.step lit0).step) ∧ wx.cell? ⟨P, 2, Option.none⟩ = some (.float .f32 (bare 0 (S.size : Int) S.step lit0).lit.r) ∧ wx.cell? ⟨P, 3, Option.none⟩ = some (.float .f32 (bare 0 (S.size : Int) S.step lit0).lit.g) ∧ wx.cell? ⟨P, 4, Option.none⟩ = some (.float .f32 (bare 0 (S.size : Int) S.step lit0).lit.b) ∧ wx.cell? ⟨P, 5, Option.none⟩ = some (.slice Option.none 0 0) ∧ wx.cell? ⟨P, 6, Option.none⟩ = some (.int .i64 (bare 0 (S.size : Int) S.step lit0).kind) ∧ wx.cell? ⟨P, 7, Option.none⟩ = some (.complex .f32 (bare 0 (S.size : Int) S.step lit0).g1 (bare 0 (S.size : Int) S.step lit0).g2) ∧ wx.cell? ⟨P, 8, Option.none⟩ = some (.float .f32 0) ∧ wx.cell? ⟨P, 9, Option.none⟩ = some (.slice Option.none 0 0) ∧ wx.cell? ⟨P, 10, Option.none⟩ = some (.int .i64 (bare 0 (S.size : Int) S.step lit0).ticks) ∧ wx.cell? ⟨P, 11, Option.none⟩ = some (.slice Option.none 0 0))
        (((repeat' apply And.intro) <;> first | (with_reducible assumption) | (((repeat (first | (with_reducible assumption) | (with_reducible exact cNewAt (by first | rfl | (simp only [World.size_alloc, World.size_setCell, World.size_drew]; done) | omega) rfl) | (with_reducible exact sNewAt (by first | rfl | (simp only [World.size_alloc, World.size_setCell, World.size_drew]; done) | omega) rfl) | (simp; done) | (with_reducible apply cAlloc) | (with_reducible apply cDrew) | (with_reducible refine cSet (by dsimp only; omega) ?_) | (with_reducible refine cSetOff (by dsimp only; omega) ?_) | (with_reducible apply cSame) | (with_reducible refine cBelow (by assumption) ?_) | (with_reducible apply sAlloc) | (with_reducible apply sDrew) | (with_reducible refine sBelow (by assumption) ?_) | (with_reducible refine sSet (by dsimp only; omega) ?_))); first | done | (simp [*]; done)); done) | (simp only [World.size_alloc, World.size_setCell, World.size_drew]; omega) | omega | (go_keep; done) | ((repeat' (first | (with_reducible exact Below.refl _ _) | (with_reducible assumption) | (with_reducible refine Below.alloc ?_ ?_ _) | (with_reducible refine Below.drew ?_) | (with_reducible refine Below.setCell ?_ ?_ _) | (with_reducible refine Below.trans ?_ (Below.mono (by assumption) ?_)) | (with_reducible exact Nat.le_refl _) | omega | (simp only [World.size_alloc, World.size_setCell, World.size_drew]; omega) | (simp; omega) | (simp; done))); done)))
        (first | (go_at_call 14; (refine (R3.call _ _ _ _ _ _ _ _ _ ?_ ?_).mono ?_); (next => exact bare_in _ _ _ _ _); (next => exact EvsAt.below E6.out (And.left (by assumption))); rintro e w6 ⟨a6, b6, l6, ca6, cb6, cl6, ⟨rfl, hI6, hb⟩⟩; have HI6 := Lib.hid hI6; have hbs := hb.size; (try simp only [World.size_alloc, World.size_drew] at hbs); have hb6 := Below.trans (And.left (by assumption)) (hb.mono (show V5.heap.size ≤ _ by first | omega | (simp only [World.size_alloc, World.size_drew]; omega))); have HB6 : Hid (Below V5.heap.size V5 w6) := hb6; (try ((first | have hN := Blk.belowAt hb (Blk.drew (Blk.new _ _ _)) | have hN := Blk.belowAt hb (Blk.new _ _ _)); (try simp only [World.size_drew] at hN))); (try (have y0 := Blk.cellAt (i := 0) hN rfl; have y1 := Blk.cellAt (i := 1) hN rfl; have y2 := Blk.cellAt (i := 2) hN rfl; have y3 := Blk.cellAt (i := 3) hN rfl; have y4 := Blk.cellAt (i := 4) hN rfl; have y5 := Blk.cellAt (i := 5) hN rfl; have y6 := Blk.cellAt (i := 6) hN rfl; have y7 := Blk.cellAt (i := 7) hN rfl; have y8 := Blk.cellAt (i := 8) hN rfl; have y9 := Blk.cellAt (i := 9) hN rfl; have y10 := Blk.cellAt (i := 10) hN rfl; have y11 := Blk.cellAt (i := 11) hN rfl; simp only [List.getElem_toArray, List.getElem_cons_zero, List.getElem_cons_succ] at y0 y1 y2 y3 y4 y5 y6 y7 y8 y9 y10 y11; have z0 := hN.free 0; have z1 := hN.free 1; have z2 := hN.free 2; have z3 := hN.free 3; have z4 := hN.free 4; have z5 := hN.free 5; have z6 := hN.free 6; have z7 := hN.free 7; have z8 := hN.free 8; have z9 := hN.free 9; have z10 := hN.free 10; have z11 := hN.free 11; have zl := hN.lt)); clear hI6))
      · rename_i hHeld
        clear hHeld
        go_wp2_with fail
        go_meet
        exact ⟨_, _, _, _, _, _, _, rfl, rfl, Got.late HI6.out HB6.out (by omega)⟩
      · rename_i hHeld
        clear hHeld
        go_wp2_with fail
        go_meet
        exact ⟨_, _, _, _, _, _, _, rfl, rfl, Got.early hN HI6.out HB6.out (by omega)⟩
    case rest =>
      obtain ⟨q, a7, b7, l7, ca7, cb7, cl7, rfl, rfl, hG⟩ := hcut
      rename World => W7
      have G7 := Lib.hid hG
      have M7 := Lib.hid (M6.out.below hG.below)
      have I7 := Lib.hid (I6.out.below hG.below)
      have B7 : Hid (Below w.heap.size w W7) := B6.out.trans (hG.below.mono B6.out.size)
      have Q7 := Lib.hid hG.box
      clear hG M6 X6 I6 B6 E6 R3
      have E7 : ∃ o, (if cl1 = k then some (⟨g, 0, Option.none⟩ : Addr) else some ⟨g, k * 13, Option.none⟩) = some ⟨g, o, Option.none⟩ ∧ Hid (EvsAt W7 (some ⟨g, o, Option.none⟩) ((S.log.drop k).map Ev.w)) := by
        rcases I7.out.lg with hnil | ⟨g', e, hlie⟩
        · exact absurd (ev_nil hnil) (by intro h; have h2 : S.log = [] := by simpa [Shw.w] using h
                                         rw [h2] at hpos; simp at hpos)
        · cases e
          by_cases hck : cl1 = k
          · refine ⟨0, by simp [hck], ?_⟩
            rw [List.drop_eq_nil_of_le (by omega)]
            exact .inl rfl
          · exact ⟨k * 13, by simp [hck], (logs_cut hlie k).2⟩
      obtain ⟨o, hA, E7⟩ := E7
      obtain ⟨d, hd⟩ : ∃ d : Nat, d = S.log.length - k := ⟨_, rfl⟩
      have hw : IntKind.i64.wrap ((S.log.length : Int) - (k : Int)) = (d : Int) := by rw [IntWalk.i64_in _ (by omega)]; omega
      have hd2 : S.log.length - k = d := hd.symm
      rw [hd2] at R4
      clear hd
      go_upto_region 10 with fail
      go_cut [12, 13] (fun v u wx => ∃ q a b l ca cb cl, v = .pointer (some ⟨q, 0, Option.none⟩) ∧ u = .int .i64 d ∧ Got W7 wx q S.w S.bds.length S.bds.length S.log.length a b l ca cb cl)
      case first =>
        have c11 := Blk.cellAt (i := 11) M7.out rfl
        simp only [List.getElem_toArray, List.getElem_cons_zero, List.getElem_cons_succ] at c11
        (have p0 := Blk.cellAt (i := 0) Q7.out rfl; have p1 := Blk.cellAt (i := 1) Q7.out rfl; have p2 := Blk.cellAt (i := 2) Q7.out rfl; have p3 := Blk.cellAt (i := 3) Q7.out rfl; have p4 := Blk.cellAt (i := 4) Q7.out rfl; have p5 := Blk.cellAt (i := 5) Q7.out rfl; have p6 := Blk.cellAt (i := 6) Q7.out rfl; have p7 := Blk.cellAt (i := 7) Q7.out rfl; have p8 := Blk.cellAt (i := 8) Q7.out rfl; have p9 := Blk.cellAt (i := 9) Q7.out rfl; have p10 := Blk.cellAt (i := 10) Q7.out rfl; have p11 := Blk.cellAt (i := 11) Q7.out rfl; simp only [List.getElem_toArray, List.getElem_cons_zero, List.getElem_cons_succ] at p0 p1 p2 p3 p4 p5 p6 p7 p8 p9 p10 p11)
        have hBX : Below W7.heap.size W7 W7 := Below.refl _ _
        have hzX := Nat.le_refl W7.heap.size
        have lm := M7.out.lt
        have lP := Q7.out.lt
        go_region_held3 (fun wx => Below W7.heap.size W7 wx ∧ W7.heap.size ≤ wx.heap.size ∧ m < wx.heap.size ∧ q < wx.heap.size ∧ wx.cell? ⟨m, 11, Option.none⟩ = some (.slice (some ⟨g, 0, Option.none⟩) S.log.length cl1) ∧ wx.cell? ⟨q, 0, Option.none⟩ = some (.int .i64 H.w.size) ∧ wx.cell? ⟨q, 1, Option.none⟩ = some (.float .f32 H.w.step) ∧ wx.cell? ⟨q, 2, Option.none⟩ = some (.float .f32 H.w.lit.r) ∧ wx.cell? ⟨q, 3, Option.none⟩ = some (.float .f32 H.w.lit.g) ∧ wx.cell? ⟨q, 4, Option.none⟩ = some (.float .f32 H.w.lit.b) ∧ wx.cell? ⟨q, 5, Option.none⟩ = some (.slice a7 H.bds.length ca7) ∧ wx.cell? ⟨q, 6, Option.none⟩ = some (.int .i64 H.w.kind) ∧ wx.cell? ⟨q, 7, Option.none⟩ = some (.complex .f32 H.w.g1 H.w.g2) ∧ wx.cell? ⟨q, 8, Option.none⟩ = some (.float .f32 0) ∧ wx.cell? ⟨q, 9, Option.none⟩ = some (.slice b7 H.bds.length cb7) ∧ wx.cell? ⟨q, 10, Option.none⟩ = some (.int .i64 H.w.ticks) ∧ wx.cell? ⟨q, 11, Option.none⟩ = some (.slice l7 H.log.length cl7))
          (((repeat' apply And.intro) <;> first | (with_reducible assumption) | (((repeat (first | (with_reducible assumption) | (with_reducible exact cNewAt (by first | rfl | (simp only [World.size_alloc, World.size_setCell, World.size_drew]; done) | omega) rfl) | (with_reducible exact sNewAt (by first | rfl | (simp only [World.size_alloc, World.size_setCell, World.size_drew]; done) | omega) rfl) | (simp; done) | (with_reducible apply cAlloc) | (with_reducible apply cDrew) | (with_reducible refine cSet (by dsimp only; omega) ?_) | (with_reducible refine cSetOff (by dsimp only; omega) ?_) | (with_reducible apply cSame) | (with_reducible refine cBelow (by assumption) ?_) | (with_reducible apply sAlloc) | (with_reducible apply sDrew) | (with_reducible refine sBelow (by assumption) ?_) | (with_reducible refine sSet (by dsimp only; omega) ?_))); first | done | (simp [*]; done)); done) | (simp only [World.size_alloc, World.size_setCell, World.size_drew]; omega) | omega | (go_keep; done) | ((repeat' (first | (with_reducible exact Below.refl _ _) | (with_reducible assumption) | (with_reducible refine Below.alloc ?_ ?_ _) | (with_reducible refine Below.drew ?_) | (with_reducible refine Below.setCell ?_ ?_ _) | (with_reducible refine Below.trans ?_ (Below.mono (by assumption) ?_)) | (with_reducible exact Nat.le_refl _) | omega | (simp only [World.size_alloc, World.size_setCell, World.size_drew]; omega) | (simp; omega) | (simp; done))); done)))
          (first | (go_at_call 14; (refine (R4.call _ _ _ _ _ _ _ _ _ ?_ ?_).mono ?_); (next => exact ShoIn.below G7.out.inn (And.left (by assumption))); (next => exact EvsAt.below E7 (And.left (by assumption))); rintro e w6 ⟨a6, b6, l6, ca6, cb6, cl6, ⟨rfl, hI6, hb⟩⟩; have HI6 := Lib.hid hI6; have hbs := hb.size; (try simp only [World.size_alloc, World.size_drew] at hbs); have hb6 := Below.trans (And.left (by assumption)) (hb.mono (show W7.heap.size ≤ _ by first | omega | (simp only [World.size_alloc, World.size_drew]; omega))); have HB6 : Hid (Below W7.heap.size W7 w6) := hb6; (try ((first | have hN := Blk.belowAt hb (Blk.drew (Blk.new _ _ _)) | have hN := Blk.belowAt hb (Blk.new _ _ _)); (try simp only [World.size_drew] at hN))); (try (have y0 := Blk.cellAt (i := 0) hN rfl; have y1 := Blk.cellAt (i := 1) hN rfl; have y2 := Blk.cellAt (i := 2) hN rfl; have y3 := Blk.cellAt (i := 3) hN rfl; have y4 := Blk.cellAt (i := 4) hN rfl; have y5 := Blk.cellAt (i := 5) hN rfl; have y6 := Blk.cellAt (i := 6) hN rfl; have y7 := Blk.cellAt (i := 7) hN rfl; have y8 := Blk.cellAt (i := 8) hN rfl; have y9 := Blk.cellAt (i := 9) hN rfl; have y10 := Blk.cellAt (i := 10) hN rfl; have y11 := Blk.cellAt (i := 11) hN rfl; simp only [List.getElem_toArray, List.getElem_cons_zero, List.getElem_cons_succ] at y0 y1 y2 y3 y4 y5 y6 y7 y8 y9 y10 y11; have z0 := hN.free 0; have z1 := hN.free 1; have z2 := hN.free 2; have z3 := hN.free 3; have z4 := hN.free 4; have z5 := hN.free 5; have z6 := hN.free 6; have z7 := hN.free 7; have z8 := hN.free 8; have z9 := hN.free 9; have z10 := hN.free 10; have z11 := hN.free 11; have zl := hN.lt)); clear hI6))
        · rename_i hHeld
          clear hHeld
          go_wp2_with fail
          go_meet
          exact ⟨_, _, _, _, _, _, _, rfl, rfl, Got.late HI6.out HB6.out (by omega)⟩
        · rename_i hHeld
          clear hHeld
          go_wp2_with fail
          go_meet
          exact ⟨_, _, _, _, _, _, _, rfl, rfl, Got.early hN HI6.out HB6.out (by omega)⟩
      case rest =>
        obtain ⟨r, a9, b9, l9, ca9, cb9, cl9, rfl, rfl, hG⟩ := hcut
        have M9 := Lib.hid (M7.out.below hG.below)
        have I9 := Lib.hid (I7.out.below hG.below)
        have J9 := Lib.hid hG.inn
        have Q9 := Lib.hid hG.box
        have B9 : Hid (Below w.heap.size w wc) := B7.out.trans (hG.below.mono B7.out.size)
        clear hG M7 I7 B7 Q7 G7 E7 hA R4
        (have m0 := Blk.cellAt (i := 0) M9.out rfl; have m1 := Blk.cellAt (i := 1) M9.out rfl; have m2 := Blk.cellAt (i := 2) M9.out rfl; have m3 := Blk.cellAt (i := 3) M9.out rfl; have m4 := Blk.cellAt (i := 4) M9.out rfl; have m5 := Blk.cellAt (i := 5) M9.out rfl; have m6 := Blk.cellAt (i := 6) M9.out rfl; have m7 := Blk.cellAt (i := 7) M9.out rfl; have m8 := Blk.cellAt (i := 8) M9.out rfl; have m9 := Blk.cellAt (i := 9) M9.out rfl; have m10 := Blk.cellAt (i := 10) M9.out rfl; have m11 := Blk.cellAt (i := 11) M9.out rfl; simp only [List.getElem_toArray, List.getElem_cons_zero, List.getElem_cons_succ] at m0 m1 m2 m3 m4 m5 m6 m7 m8 m9 m10 m11)
        (have q0 := Blk.cellAt (i := 0) Q9.out rfl; have q1 := Blk.cellAt (i := 1) Q9.out rfl; have q2 := Blk.cellAt (i := 2) Q9.out rfl; have q3 := Blk.cellAt (i := 3) Q9.out rfl; have q4 := Blk.cellAt (i := 4) Q9.out rfl; have q5 := Blk.cellAt (i := 5) Q9.out rfl; have q6 := Blk.cellAt (i := 6) Q9.out rfl; have q7 := Blk.cellAt (i := 7) Q9.out rfl; have q8 := Blk.cellAt (i := 8) Q9.out rfl; have q9 := Blk.cellAt (i := 9) Q9.out rfl; have q10 := Blk.cellAt (i := 10) Q9.out rfl; have q11 := Blk.cellAt (i := 11) Q9.out rfl; simp only [List.getElem_toArray, List.getElem_cons_zero, List.getElem_cons_succ] at q0 q1 q2 q3 q4 q5 q6 q7 q8 q9 q10 q11)
        have lm := M9.out.lt
        have lq := Q9.out.lt
        go_wp2_with fail
        refine (SM.out.call _ _ _ _ _ _ _ _ _ _ _ _ _ J9.out I9.out).mono ?_
        rintro e w10 ⟨rfl, hb⟩
        have B10 : Hid (Below w.heap.size w w10) := B9.out.trans (hb.mono B9.out.size)
        clear hb M9 I9 J9 Q9 B9 SM m0 m1 m2 m3 m4 m5 m6 m7 m8 m9 m10 m11 q0 q1 q2 q3 q4 q5 q6 q7 q8 q9 q10 q11 lm lq
        go_wp2
        go_ret
        exact ⟨rfl, B10.out⟩
  · go_enter Tryz.func4, Tryz.ntmps4
    go_wp2_with fail
    refine (big_yes _ _ _ _ hl).mono ?_
    rintro e w0 ⟨rfl, rfl⟩
    go_wp2
    all_goals (go_returns; exact ⟨rfl, by (repeat' (first | (with_reducible exact Below.refl _ _) | (with_reducible assumption) | (with_reducible refine Below.alloc ?_ ?_ _) | (with_reducible refine Below.drew ?_) | (with_reducible refine Below.setCell ?_ ?_ _) | (with_reducible refine Below.trans ?_ (Below.mono (by assumption) ?_)) | (with_reducible exact Nat.le_refl _) | omega | (simp only [World.size_alloc, World.size_setCell, World.size_drew]; omega) | (simp; omega) | (simp; done)))⟩)
end Go.Proofs.YtfdgijmmgllmgaaGreat.wFnReplayed
