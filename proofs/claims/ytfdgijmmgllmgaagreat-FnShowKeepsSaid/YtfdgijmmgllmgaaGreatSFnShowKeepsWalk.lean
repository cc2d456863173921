/-
  The call of FnShowKeeps returns true and writes nothing that was there.
-/
import Derived.Test.YtfdgijmmgllmgaaGreatS37
namespace Go.Proofs.YtfdgijmmgllmgaaGreat.wFnShowKeeps
open Go.ChangeShapes Go.WideShapes Go.ChangeAt Go.RowKit Go.Joins
set_option linter.unusedSimpArgs false
set_option linter.unusedVariables false
set_option maxRecDepth 100000
attribute [local go_sem] store_f
open Ieee Go.Lib
attribute [local go_sem] store_c run_equalIn_c run_equalIn_g
set_option maxHeartbeats 64000000 in
theorem walk (a : Option Addr) (len cap : Nat) (bs : List Int) (w : World) (hrow : ByteRow w w.heap.size a len bs) :
    Calls Tryz.prog 3 #[.slice a len cap] w fun e w' => e = .returned (.bool true) ∧ Below w.heap.size w w' := by
  by_cases hl : len ≤ 4096
  · go_enter Tryz.func3, Tryz.ntmps3
    go_wp2_with fail
    refine (big_no _ _ _ _ hl).mono ?_
    rintro e w0 ⟨rfl, rfl⟩
    go_wp2_with fail
    refine (drawShow_s a len cap bs _ hrow hl).mono ?_
    rintro e w1 ⟨S, x, a1, b1, l1, ca1, cb1, cl1, ⟨rfl, told, ok, hlen, hcost, hinn, hb1, _, _⟩⟩
    obtain ⟨T, p, A⟩ := aftM told ok (by have := x.big_le; omega) (by omega)
    have G := told.good (by omega) (by omega)
    have GT := A.told.good (by have := A.cost; have := x.big_le; omega) (by have := A.len; omega)
    have D := A.call
    have IS := G.is
    have IT := GT.is
    have SM := Lib.hid G.same
    have HLN := Lib.hid G.lens
    have HNO := Lib.hid A.no
    have HYES : Hid (p = true → T.log = S.log ++ [x] ∧ T.w.ticks = S.w.ticks + (if x.w.kind = 7 then x.w.n else 0) ∧ T.bds.length = T.shs.length) := fun h => ⟨(do_log (A.yes h)).1, do_ticks (A.yes h), A.told.fine.len.symm⟩
    have HFX := Lib.hid ok.fin
    have HTK : Hid (0 ≤ S.w.ticks ∧ S.w.ticks ≤ 200 ∧ S.log.length ≤ 11) := ⟨by show (0 : Int) ≤ (S.ticks : Int); omega, by show (S.ticks : Int) ≤ 200; have := G.fine.ticks; omega, hlen⟩
    have HXN : Hid (0 ≤ x.w.n ∧ x.w.n ≤ 8) := by
      cases x <;> simp only [Ev.w, Ev.Ok] at ok ⊢ <;> (refine ⟨?_, ?_⟩ <;> omega)
    have B0 := Lib.hid hb1
    have I0 := Lib.hid hinn
    have s0 := hb1.size
    clear told ok hlen hcost hinn hb1 hrow G GT A
    go_wp2_with fail
    generalize hV : (w1.alloc (.cells #[.int .i64 S.w.size, .float .f32 S.w.step, .float .f32 S.w.lit.r, .float .f32 S.w.lit.g, .float .f32 S.w.lit.b, .slice a1 S.bds.length ca1, .int .i64 S.w.kind, .complex .f32 S.w.g1 S.w.g2, .float .f32 0, .slice b1 S.bds.length cb1, .int .i64 S.w.ticks, .slice l1 S.log.length cl1] 34)).alloc (.cells #[.int .i64 x.w.kind, .int .i64 x.w.n, .complex .f32 x.w.z1 x.w.z2, .complex .f32 x.w.s.a1 x.w.s.a2, .complex .f32 x.w.s.b1 x.w.s.b2, .complex .f32 x.w.s.c1 x.w.s.c2, .float .f32 x.w.s.r, .float .f32 x.w.s.g, .float .f32 x.w.s.b, .float .f32 x.w.s.k, .float .f32 x.w.l.r, .float .f32 x.w.l.g, .float .f32 x.w.l.b] 38) = V
    have M1 : Hid (Blk V w1.heap.size #[.int .i64 S.w.size, .float .f32 S.w.step, .float .f32 S.w.lit.r, .float .f32 S.w.lit.g, .float .f32 S.w.lit.b, .slice a1 S.bds.length ca1, .int .i64 S.w.kind, .complex .f32 S.w.g1 S.w.g2, .float .f32 0, .slice b1 S.bds.length cb1, .int .i64 S.w.ticks, .slice l1 S.log.length cl1] 34) := by rw [← hV]; exact (Blk.new _ _ _).alloc
    have E1 : Hid (Blk V (w1.heap.size + 1) #[.int .i64 x.w.kind, .int .i64 x.w.n, .complex .f32 x.w.z1 x.w.z2, .complex .f32 x.w.s.a1 x.w.s.a2, .complex .f32 x.w.s.b1 x.w.s.b2, .complex .f32 x.w.s.c1 x.w.s.c2, .float .f32 x.w.s.r, .float .f32 x.w.s.g, .float .f32 x.w.s.b, .float .f32 x.w.s.k, .float .f32 x.w.l.r, .float .f32 x.w.l.g, .float .f32 x.w.l.b] 38) := by rw [← hV]; exact Blk.newAt (by simp)
    have I1 : Hid (ShoIn V S.w a1 b1 l1) := by rw [← hV]; exact I0.out.alloc.alloc
    have B1 : Hid (Below w.heap.size w V) := by rw [← hV]; exact (B0.out.alloc s0 _).alloc (by simp; omega) _
    clear hV B0 I0 s0
    generalize w1.heap.size = m at *
    refine (D.call _ _ _ _ _ _ _ I1.out).mono ?_
    rintro e w2 ⟨a2, b2, l2, ca2, cb2, cl2, ⟨rfl, hI2, hb⟩⟩
    have M2 := Lib.hid (M1.out.below hb)
    have E2 := Lib.hid (E1.out.below hb)
    have I2 := Lib.hid (I1.out.below hb)
    have J2 := Lib.hid hI2
    have B2 : Hid (Below w.heap.size w w2) := B1.out.trans (hb.mono B1.out.size)
    clear hI2 hb M1 E1 I1 B1 D
    have s2 := B2.out.size
    (have m0 := Blk.cellAt (i := 0) M2.out rfl; have m1 := Blk.cellAt (i := 1) M2.out rfl; have m2 := Blk.cellAt (i := 2) M2.out rfl; have m3 := Blk.cellAt (i := 3) M2.out rfl; have m4 := Blk.cellAt (i := 4) M2.out rfl; have m5 := Blk.cellAt (i := 5) M2.out rfl; have m6 := Blk.cellAt (i := 6) M2.out rfl; have m7 := Blk.cellAt (i := 7) M2.out rfl; have m8 := Blk.cellAt (i := 8) M2.out rfl; have m9 := Blk.cellAt (i := 9) M2.out rfl; have m10 := Blk.cellAt (i := 10) M2.out rfl; have m11 := Blk.cellAt (i := 11) M2.out rfl; simp only [List.getElem_toArray, List.getElem_cons_zero, List.getElem_cons_succ] at m0 m1 m2 m3 m4 m5 m6 m7 m8 m9 m10 m11)
    have lm := M2.out.lt
    go_wp2_with fail
    generalize hV : w2.alloc (.cells #[.int .i64 T.w.size, .float .f32 T.w.step, .float .f32 T.w.lit.r, .float .f32 T.w.lit.g, .float .f32 T.w.lit.b, .slice a2 T.bds.length ca2, .int .i64 T.w.kind, .complex .f32 T.w.g1 T.w.g2, .float .f32 0, .slice b2 T.bds.length cb2, .int .i64 T.w.ticks, .slice l2 T.log.length cl2] 34) = V2
    have M3 : Hid (Blk V2 m #[.int .i64 S.w.size, .float .f32 S.w.step, .float .f32 S.w.lit.r, .float .f32 S.w.lit.g, .float .f32 S.w.lit.b, .slice a1 S.bds.length ca1, .int .i64 S.w.kind, .complex .f32 S.w.g1 S.w.g2, .float .f32 0, .slice b1 S.bds.length cb1, .int .i64 S.w.ticks, .slice l1 S.log.length cl1] 34) := by rw [← hV]; exact M2.out.alloc
    have E3 : Hid (Blk V2 (m + 1) #[.int .i64 x.w.kind, .int .i64 x.w.n, .complex .f32 x.w.z1 x.w.z2, .complex .f32 x.w.s.a1 x.w.s.a2, .complex .f32 x.w.s.b1 x.w.s.b2, .complex .f32 x.w.s.c1 x.w.s.c2, .float .f32 x.w.s.r, .float .f32 x.w.s.g, .float .f32 x.w.s.b, .float .f32 x.w.s.k, .float .f32 x.w.l.r, .float .f32 x.w.l.g, .float .f32 x.w.l.b] 38) := by rw [← hV]; exact E2.out.alloc
    have T3 : Hid (Blk V2 w2.heap.size #[.int .i64 T.w.size, .float .f32 T.w.step, .float .f32 T.w.lit.r, .float .f32 T.w.lit.g, .float .f32 T.w.lit.b, .slice a2 T.bds.length ca2, .int .i64 T.w.kind, .complex .f32 T.w.g1 T.w.g2, .float .f32 0, .slice b2 T.bds.length cb2, .int .i64 T.w.ticks, .slice l2 T.log.length cl2] 34) := by rw [← hV]; exact Blk.new _ _ _
    have I3 : Hid (ShoIn V2 S.w a1 b1 l1) := by rw [← hV]; exact I2.out.alloc
    have J3 : Hid (ShoIn V2 T.w a2 b2 l2) := by rw [← hV]; exact J2.out.alloc
    have B3 : Hid (Below w.heap.size w V2) := by rw [← hV]; exact B2.out.alloc s2 _
    clear hV M2 E2 I2 J2 B2 s2 m0 m1 m2 m3 m4 m5 m6 m7 m8 m9 m10 m11 lm
    generalize w2.heap.size = n at *
    refine (IS.call _ _ _ _ _ _ _ I3.out).mono ?_
    rintro e w4 ⟨rfl, hb⟩
    have M4 := Lib.hid (M3.out.below hb)
    have E4 := Lib.hid (E3.out.below hb)
    have T4 := Lib.hid (T3.out.below hb)
    have I4 := Lib.hid (I3.out.below hb)
    have J4 := Lib.hid (J3.out.below hb)
    have B4 : Hid (Below w.heap.size w w4) := B3.out.trans (hb.mono B3.out.size)
    clear hb M3 E3 T3 I3 J3 B3 IS
    (have t0 := Blk.cellAt (i := 0) T4.out rfl; have t1 := Blk.cellAt (i := 1) T4.out rfl; have t2 := Blk.cellAt (i := 2) T4.out rfl; have t3 := Blk.cellAt (i := 3) T4.out rfl; have t4 := Blk.cellAt (i := 4) T4.out rfl; have t5 := Blk.cellAt (i := 5) T4.out rfl; have t6 := Blk.cellAt (i := 6) T4.out rfl; have t7 := Blk.cellAt (i := 7) T4.out rfl; have t8 := Blk.cellAt (i := 8) T4.out rfl; have t9 := Blk.cellAt (i := 9) T4.out rfl; have t10 := Blk.cellAt (i := 10) T4.out rfl; have t11 := Blk.cellAt (i := 11) T4.out rfl; simp only [List.getElem_toArray, List.getElem_cons_zero, List.getElem_cons_succ] at t0 t1 t2 t3 t4 t5 t6 t7 t8 t9 t10 t11)
    have lt := T4.out.lt
    go_wp2_with fail
    refine (IT.call _ _ _ _ _ _ _ J4.out).mono ?_
    rintro e w5 ⟨rfl, hb⟩
    have M5 := Lib.hid (M4.out.below hb)
    have E5 := Lib.hid (E4.out.below hb)
    have T5 := Lib.hid (T4.out.below hb)
    have I5 := Lib.hid (I4.out.below hb)
    have J5 := Lib.hid (J4.out.below hb)
    have B5 : Hid (Below w.heap.size w w5) := B4.out.trans (hb.mono B4.out.size)
    clear hb M4 E4 T4 I4 J4 B4 IT t0 t1 t2 t3 t4 t5 t6 t7 t8 t9 t10 t11 lt
    (have m0 := Blk.cellAt (i := 0) M5.out rfl; have m1 := Blk.cellAt (i := 1) M5.out rfl; have m2 := Blk.cellAt (i := 2) M5.out rfl; have m3 := Blk.cellAt (i := 3) M5.out rfl; have m4 := Blk.cellAt (i := 4) M5.out rfl; have m5 := Blk.cellAt (i := 5) M5.out rfl; have m6 := Blk.cellAt (i := 6) M5.out rfl; have m7 := Blk.cellAt (i := 7) M5.out rfl; have m8 := Blk.cellAt (i := 8) M5.out rfl; have m9 := Blk.cellAt (i := 9) M5.out rfl; have m10 := Blk.cellAt (i := 10) M5.out rfl; have m11 := Blk.cellAt (i := 11) M5.out rfl; simp only [List.getElem_toArray, List.getElem_cons_zero, List.getElem_cons_succ] at m0 m1 m2 m3 m4 m5 m6 m7 m8 m9 m10 m11)
    (have t0 := Blk.cellAt (i := 0) T5.out rfl; have t1 := Blk.cellAt (i := 1) T5.out rfl; have t2 := Blk.cellAt (i := 2) T5.out rfl; have t3 := Blk.cellAt (i := 3) T5.out rfl; have t4 := Blk.cellAt (i := 4) T5.out rfl; have t5 := Blk.cellAt (i := 5) T5.out rfl; have t6 := Blk.cellAt (i := 6) T5.out rfl; have t7 := Blk.cellAt (i := 7) T5.out rfl; have t8 := Blk.cellAt (i := 8) T5.out rfl; have t9 := Blk.cellAt (i := 9) T5.out rfl; have t10 := Blk.cellAt (i := 10) T5.out rfl; have t11 := Blk.cellAt (i := 11) T5.out rfl; simp only [List.getElem_toArray, List.getElem_cons_zero, List.getElem_cons_succ] at t0 t1 t2 t3 t4 t5 t6 t7 t8 t9 t10 t11)
    have lm := M5.out.lt
    have lt := T5.out.lt
    cases p
    · obtain rfl := HNO.out rfl
      clear HNO HYES
      go_wp2_with fail
      refine (SM.out.call _ _ _ _ _ _ _ _ _ _ _ _ _ I5.out J5.out).mono ?_
      rintro e w6 ⟨rfl, hb⟩
      have B6 : Hid (Below w.heap.size w w6) := B5.out.trans (hb.mono B5.out.size)
      clear hb M5 E5 T5 I5 J5 B5 SM
      go_wp2
      go_ret
      exact ⟨rfl, B6.out⟩
    · obtain ⟨hlog, htk, hln⟩ := HYES.out rfl
      clear HNO HYES SM
      have hTL : T.log.length = S.log.length + 1 := by rw [hlog]; simp
      have hEL : T.w.log.getD S.log.length default = x.w := by
        show (T.log.map Ev.w).getD S.log.length default = x.w
        rw [hlog, getD_map Ev.w _ (by simp)]
        simp [List.getD]
      have hLL : T.w.log.length = S.log.length + 1 := by show (T.log.map Ev.w).length = _; simp [hlog]
      rcases J5.out.lg with hnil | ⟨g, rfl, hr2⟩
      · exfalso; have := ev_nil hnil; rw [this] at hLL; simp at hLL
      have EA := evAt hr2 (k := S.log.length) (by omega)
      rw [hEL, Nat.zero_add] at EA
      obtain ⟨c0, c1, c2, c3, c4, c5, c6, c7, c8, c9, c10, c11, c12⟩ := EA
      have lg := cell_lt c0
      (have d0 := Blk.cellAt (i := 0) E5.out rfl; have d1 := Blk.cellAt (i := 1) E5.out rfl; have d2 := Blk.cellAt (i := 2) E5.out rfl; have d3 := Blk.cellAt (i := 3) E5.out rfl; have d4 := Blk.cellAt (i := 4) E5.out rfl; have d5 := Blk.cellAt (i := 5) E5.out rfl; have d6 := Blk.cellAt (i := 6) E5.out rfl; have d7 := Blk.cellAt (i := 7) E5.out rfl; have d8 := Blk.cellAt (i := 8) E5.out rfl; have d9 := Blk.cellAt (i := 9) E5.out rfl; have d10 := Blk.cellAt (i := 10) E5.out rfl; have d11 := Blk.cellAt (i := 11) E5.out rfl; have d12 := Blk.cellAt (i := 12) E5.out rfl; simp only [List.getElem_toArray, List.getElem_cons_zero, List.getElem_cons_succ] at d0 d1 d2 d3 d4 d5 d6 d7 d8 d9 d10 d11 d12)
      have le := E5.out.lt
      have op := fun w => run_eq_ev HFX.out w
      have htk0 := HTK.out.1
      have htk1 := HTK.out.2.1
      have hkl := HTK.out.2.2
      have hxn0 := HXN.out.1
      have hxn1 := HXN.out.2
      have hk0 : (0 : Int) ≤ (S.log.length : Int) := by omega
      have hk1 : (S.log.length : Int) < ((S.log.length + 1 : Nat) : Int) := by omega
      have hw : IntKind.i64.wrap ((S.log.length : Int) + 1) = (S.log.length : Int) + 1 := IntWalk.i64_in _ (by omega)
      rw [hTL] at t11
      have BB := Lib.hid B5.out
      clear hEL hLL hr2 HFX HTK HXN M5 E5 T5 I5 J5 B5 hlog
      by_cases hk : x.w.kind = 7
      · simp only [hk] at op
        rw [if_pos hk] at htk
        rw [htk] at t10
        have hw2 : IntKind.i64.wrap (S.w.ticks + x.w.n) = S.w.ticks + x.w.n := IntWalk.i64_in _ (by omega)
        clear htk hTL
        go_wp2_with fail
        go_quiet (fail)
        go_wp2
        go_ret
        exact ⟨by first | rfl | simp, BB.out.trans (below_draws _ _ _)⟩
      · rw [if_neg hk, Int.add_zero] at htk
        rw [htk] at t10
        have hw2 : IntKind.i64.wrap S.w.ticks = S.w.ticks := IntWalk.i64_in _ (by omega)
        clear htk hTL
        go_wp2_with fail
        go_quiet (fail)
        go_wp2
        go_ret
        exact ⟨by first | rfl | simp, BB.out.trans (below_draws _ _ _)⟩
  · go_enter Tryz.func3, Tryz.ntmps3
    go_wp2_with fail
    refine (big_yes _ _ _ _ hl).mono ?_
    rintro e w0 ⟨rfl, rfl⟩
    go_wp2
    all_goals (go_returns; exact ⟨rfl, by (repeat' (first | (with_reducible exact Below.refl _ _) | (with_reducible assumption) | (with_reducible refine Below.alloc ?_ ?_ _) | (with_reducible refine Below.drew ?_) | (with_reducible refine Below.setCell ?_ ?_ _) | (with_reducible refine Below.trans ?_ (Below.mono (by assumption) ?_)) | (with_reducible exact Nat.le_refl _) | omega | (simp only [World.size_alloc, World.size_setCell, World.size_drew]; omega) | (simp; omega) | (simp; done)))⟩)
end Go.Proofs.YtfdgijmmgllmgaaGreat.wFnShowKeeps
