/-
  Texts Qb, joined.
-/
import Derived.Test.YtfdgijmmgllmgaaGreatDoorS11
import Derived.Test.YtfdgijmmgllmgaaGreatDoorS10
import Derived.Test.YtfdgijmmgllmgaaGreatDoorS12
namespace Go.Proofs.YtfdgijmmgllmgaaGreatDoor
open Go.ChangeShapes Go.WideShapes Go.ChangeAt Go.RowKit Go.Joins
set_option linter.unusedSimpArgs false
set_option linter.unusedVariables false
set_option maxRecDepth 100000
attribute [local go_sem] store_f
open Ieee Go.Lib
attribute [local go_sem] store_c
theorem put13 {W : World} {P : Nat} {T : TypeId} {z0 z1 z2 z3 z4 z5 z6 z7 z8 z9 z10 z11 z12 u0 u1 u2 u3 u4 u5 u6 u7 u8 u9 u10 u11 u12 : Value} (h : Blk W P #[z0, z1, z2, z3, z4, z5, z6, z7, z8, z9, z10, z11, z12] T) :
    Blk (((((((((((((W.setCell ⟨P, 0, Option.none⟩ u0).setCell ⟨P, 1, Option.none⟩ u1).setCell ⟨P, 2, Option.none⟩ u2).setCell ⟨P, 3, Option.none⟩ u3).setCell ⟨P, 4, Option.none⟩ u4).setCell ⟨P, 5, Option.none⟩ u5).setCell ⟨P, 6, Option.none⟩ u6).setCell ⟨P, 7, Option.none⟩ u7).setCell ⟨P, 8, Option.none⟩ u8).setCell ⟨P, 9, Option.none⟩ u9).setCell ⟨P, 10, Option.none⟩ u10).setCell ⟨P, 11, Option.none⟩ u11).setCell ⟨P, 12, Option.none⟩ u12) P #[u0, u1, u2, u3, u4, u5, u6, u7, u8, u9, u10, u11, u12] T := by
  have RS := ((((((((((((h.set (i := 0) (v := u0)).set (i := 1) (v := u1)).set (i := 2) (v := u2)).set (i := 3) (v := u3)).set (i := 4) (v := u4)).set (i := 5) (v := u5)).set (i := 6) (v := u6)).set (i := 7) (v := u7)).set (i := 8) (v := u8)).set (i := 9) (v := u9)).set (i := 10) (v := u10)).set (i := 11) (v := u11)).set (i := 12) (v := u12)
  simp only [List.setIfInBounds_toArray, List.set_cons_zero, List.set_cons_succ] at RS
  exact RS
theorem grown13 {W : World} {P : Nat} {u0 u1 u2 u3 u4 u5 u6 u7 u8 u9 u10 u11 u12 : Value} : W.grownBy (((((((((((((W.setCell ⟨P, 0, Option.none⟩ u0).setCell ⟨P, 1, Option.none⟩ u1).setCell ⟨P, 2, Option.none⟩ u2).setCell ⟨P, 3, Option.none⟩ u3).setCell ⟨P, 4, Option.none⟩ u4).setCell ⟨P, 5, Option.none⟩ u5).setCell ⟨P, 6, Option.none⟩ u6).setCell ⟨P, 7, Option.none⟩ u7).setCell ⟨P, 8, Option.none⟩ u8).setCell ⟨P, 9, Option.none⟩ u9).setCell ⟨P, 10, Option.none⟩ u10).setCell ⟨P, 11, Option.none⟩ u11).setCell ⟨P, 12, Option.none⟩ u12) (some P) :=
  grownBy_set (grownBy_set (grownBy_set (grownBy_set (grownBy_set (grownBy_set (grownBy_set (grownBy_set (grownBy_set (grownBy_set (grownBy_set (grownBy_set (grownBy_set (grownBy_refl _ _)))))))))))))
theorem new13 {w W : World} {r : Option Nat} {P : Nat} {u0 u1 u2 u3 u4 u5 u6 u7 u8 u9 u10 u11 u12 : Value} (h : w.grownBy W r) (hP : w.heap.size ≤ P) : w.grownBy (((((((((((((W.setCell ⟨P, 0, Option.none⟩ u0).setCell ⟨P, 1, Option.none⟩ u1).setCell ⟨P, 2, Option.none⟩ u2).setCell ⟨P, 3, Option.none⟩ u3).setCell ⟨P, 4, Option.none⟩ u4).setCell ⟨P, 5, Option.none⟩ u5).setCell ⟨P, 6, Option.none⟩ u6).setCell ⟨P, 7, Option.none⟩ u7).setCell ⟨P, 8, Option.none⟩ u8).setCell ⟨P, 9, Option.none⟩ u9).setCell ⟨P, 10, Option.none⟩ u10).setCell ⟨P, 11, Option.none⟩ u11).setCell ⟨P, 12, Option.none⟩ u12) r := by
  iterate 13 (refine grown_setNew ?_ (by exact hP) _)
  exact h
theorem cur13 {W : World} {B q P : Nat} {u0 u1 u2 u3 u4 u5 u6 u7 u8 u9 u10 u11 u12 : Value} (h : Cur B W q) (hP : q < P) : Cur B (((((((((((((W.setCell ⟨P, 0, Option.none⟩ u0).setCell ⟨P, 1, Option.none⟩ u1).setCell ⟨P, 2, Option.none⟩ u2).setCell ⟨P, 3, Option.none⟩ u3).setCell ⟨P, 4, Option.none⟩ u4).setCell ⟨P, 5, Option.none⟩ u5).setCell ⟨P, 6, Option.none⟩ u6).setCell ⟨P, 7, Option.none⟩ u7).setCell ⟨P, 8, Option.none⟩ u8).setCell ⟨P, 9, Option.none⟩ u9).setCell ⟨P, 10, Option.none⟩ u10).setCell ⟨P, 11, Option.none⟩ u11).setCell ⟨P, 12, Option.none⟩ u12) q := by
  iterate 13 (refine Cur.set ?_ (by exact hP))
  exact h
structure EvDrawn (B q : Nat) (w : World) (e : Ending) (w' : World) (x : Ev) : Prop where
  ret : e = .returned (.agg #[.int .i64 x.w.kind, .int .i64 x.w.n, .complex .f32 x.w.z1 x.w.z2, .complex .f32 x.w.s.a1 x.w.s.a2, .complex .f32 x.w.s.b1 x.w.s.b2, .complex .f32 x.w.s.c1 x.w.s.c2, .float .f32 x.w.s.r, .float .f32 x.w.s.g, .float .f32 x.w.s.b, .float .f32 x.w.s.k, .float .f32 x.w.l.r, .float .f32 x.w.l.g, .float .f32 x.w.l.b])
  ok : x.Ok
  cur : Cur B w' q
  grown : w.grownBy w' (some q)
structure Evs (B q : Nat) (w W : World) : Prop where
  cur : Cur B W q
  gr : w.grownBy W (some q)
  res : Blk W (w.heap.size + 1) #[.int .i64 0, .int .i64 0, .complex .f32 0 0, .complex .f32 0 0, .complex .f32 0 0, .complex .f32 0 0, .float .f32 0, .float .f32 0, .float .f32 0, .float .f32 0, .float .f32 0, .float .f32 0, .float .f32 0] 38
  qlt : q < w.heap.size
theorem Evs.step {B q : Nat} {w W w1 : World} (h : Evs B q w W) (hc : Cur B w1 q) (hg : W.grownBy w1 (some q)) : Evs B q w w1 :=
  ⟨hc, grownBy_trans h.gr hg, h.res.grown hg (by have := h.qlt; omega), h.qlt⟩
theorem Evs.alloc {B q : Nat} {w W : World} {o : Obj} (h : Evs B q w W) : Evs B q w (W.alloc o) := ⟨h.cur.alloc, grown_alloc h.gr _, h.res.alloc, h.qlt⟩
theorem Evs.done {B q : Nat} {w W : World} {x : Ev} {u0 u1 u2 u3 u4 u5 u6 u7 u8 u9 u10 u11 u12 : Value} (h : Evs B q w W) (hx : x.Ok) (hu : #[u0, u1, u2, u3, u4, u5, u6, u7, u8, u9, u10, u11, u12] = #[.int .i64 x.w.kind, .int .i64 x.w.n, .complex .f32 x.w.z1 x.w.z2, .complex .f32 x.w.s.a1 x.w.s.a2, .complex .f32 x.w.s.b1 x.w.s.b2, .complex .f32 x.w.s.c1 x.w.s.c2, .float .f32 x.w.s.r, .float .f32 x.w.s.g, .float .f32 x.w.s.b, .float .f32 x.w.s.k, .float .f32 x.w.l.r, .float .f32 x.w.l.g, .float .f32 x.w.l.b]) : EvDrawn B q w (.returned (.agg #[u0, u1, u2, u3, u4, u5, u6, u7, u8, u9, u10, u11, u12])) (((((((((((((W.setCell ⟨(w.heap.size + 1), 0, Option.none⟩ u0).setCell ⟨(w.heap.size + 1), 1, Option.none⟩ u1).setCell ⟨(w.heap.size + 1), 2, Option.none⟩ u2).setCell ⟨(w.heap.size + 1), 3, Option.none⟩ u3).setCell ⟨(w.heap.size + 1), 4, Option.none⟩ u4).setCell ⟨(w.heap.size + 1), 5, Option.none⟩ u5).setCell ⟨(w.heap.size + 1), 6, Option.none⟩ u6).setCell ⟨(w.heap.size + 1), 7, Option.none⟩ u7).setCell ⟨(w.heap.size + 1), 8, Option.none⟩ u8).setCell ⟨(w.heap.size + 1), 9, Option.none⟩ u9).setCell ⟨(w.heap.size + 1), 10, Option.none⟩ u10).setCell ⟨(w.heap.size + 1), 11, Option.none⟩ u11).setCell ⟨(w.heap.size + 1), 12, Option.none⟩ u12) x :=
  ⟨by rw [hu], hx, cur13 h.cur (by have := h.qlt; omega), new13 h.gr (by omega)⟩
theorem ten_lt : ∀ x : Int, 0 ≤ x → x < 11 → x = 0 ∨ x = 1 ∨ x = 2 ∨ x = 3 ∨ x = 4 ∨ x = 5 ∨ x = 6 ∨ x = 7 ∨ x = 8 ∨ x = 9 ∨ x = 10 := by omega
set_option maxHeartbeats 32000000 in
theorem l6Event_s (B q : Nat) (w : World) (hcur : Cur B w q) (s : Sho) (N M K : Nat) (hN : N ≤ 8) (a b l : Option Addr) (ca cb cl : Nat) : Calls Tryz.prog 15 #[.pointer (some ⟨q, 0, Option.none⟩), .agg #[.int .i64 s.size, .float .f32 s.step, .float .f32 s.lit.r, .float .f32 s.lit.g, .float .f32 s.lit.b, .slice a N ca, .int .i64 s.kind, .complex .f32 s.g1 s.g2, .float .f32 0, .slice b M cb, .int .i64 s.ticks, .slice l K cl]] w fun e w' => ∃ x, EvDrawn B q w e w' x := by
  have hq := hcur.lt
  have E0 : Hid (Evs B q w ((w.alloc (.cells #[.int .i64 s.size, .float .f32 s.step, .float .f32 s.lit.r, .float .f32 s.lit.g, .float .f32 s.lit.b, .slice a N ca, .int .i64 s.kind, .complex .f32 s.g1 s.g2, .float .f32 0, .slice b M cb, .int .i64 s.ticks, .slice l K cl] 34)).alloc (.cells #[.int .i64 0, .int .i64 0, .complex .f32 0 0, .complex .f32 0 0, .complex .f32 0 0, .complex .f32 0 0, .float .f32 0, .float .f32 0, .float .f32 0, .float .f32 0, .float .f32 0, .float .f32 0, .float .f32 0] 38))) := ⟨hcur.alloc.alloc, grown_alloc (grown_alloc (grownBy_refl _ _) _) _, Blk.newAt (by simp), hq⟩
  have hN1 : IntKind.i64.wrap ((N : Int) + 1) = ((N + 1 : Nat) : Int) := by rw [IntWalk.i64_in _ (by omega)]; omega
  have H1 := Lib.hid hN1
  clear hcur hN1
  go_enter Tryz.func15, Tryz.ntmps15
  go_wp2_with fail
  generalize (w.alloc (.cells #[.int .i64 s.size, .float .f32 s.step, .float .f32 s.lit.r, .float .f32 s.lit.g, .float .f32 s.lit.b, .slice a N ca, .int .i64 s.kind, .complex .f32 s.g1 s.g2, .float .f32 0, .slice b M cb, .int .i64 s.ticks, .slice l K cl] 34)).alloc (.cells #[.int .i64 0, .int .i64 0, .complex .f32 0 0, .complex .f32 0 0, .complex .f32 0 0, .complex .f32 0 0, .float .f32 0, .float .f32 0, .float .f32 0, .float .f32 0, .float .f32 0, .float .f32 0, .float .f32 0] 38) = X at *
  refine (l1Below_s B q 11 _ E0.out.cur (by omega) (by omega)).mono ?_
  rintro e w1 ⟨x, rfl, hx0, hx1, hc, hg⟩
  have E1 := Lib.hid (E0.out.step hc hg)
  clear hc hg E0
  rcases ten_lt x hx0 hx1 with rfl | rfl | rfl | rfl | rfl | rfl | rfl | rfl | rfl | rfl | rfl
  · go_wp2_with fail
    refine (l3Draw_s B q _ E1.out.cur).mono ?_
    rintro e w2 ⟨s0, ⟨rfl, hs, hc, hg⟩⟩
    have E2 := Lib.hid (E1.out.step hc hg)
    have HS := Lib.hid hs
    clear hc hg hs E1
    go_wp2_with fail
    refine (l1Fine_q B q _ E2.out.cur).mono ?_
    rintro e w3 ⟨r, x, ⟨rfl, h6, hc, hg⟩⟩
    have E3 := Lib.hid (E2.out.step hc hg)
    have HX := Lib.hid h6
    have op1 := fun t w => run_float_arith (P := Tryz.prog) w .quo t .f32 _ 1098907648 _ h6.div
    clear hc hg h6 E2
    go_wp2_with (simp only [op1])
    refine (l1Fine_q B q _ E3.out.cur).mono ?_
    rintro e w4 ⟨r', y, ⟨rfl, h6, hc, hg⟩⟩
    have E9 := Lib.hid (E3.out.step hc hg)
    have HY := Lib.hid h6
    have op2 := fun t w => run_float_arith (P := Tryz.prog) w .quo t .f32 _ 1098907648 _ h6.div
    clear hc hg h6 E3 op1
    (obtain ⟨q0, q1, q2, q3, q4, q5, q6, q7, q8, q9, q10, q11, q12⟩ := blk13 (E9.out.res))
    (have h0 := E9.out.res.free 0; have h1 := E9.out.res.free 1; have h2 := E9.out.res.free 2; have h3 := E9.out.res.free 3; have h4 := E9.out.res.free 4; have h5 := E9.out.res.free 5; have h6 := E9.out.res.free 6; have h7 := E9.out.res.free 7; have h8 := E9.out.res.free 8; have h9 := E9.out.res.free 9; have h10 := E9.out.res.free 10; have h11 := E9.out.res.free 11; have h12 := E9.out.res.free 12)
    have lr := E9.out.res.lt
    have P5 := Lib.hid (put13 (u0 := .int .i64 1) (u1 := .int .i64 0) (u2 := .complex .f32 x y) (u3 := .complex .f32 s0.a1 s0.a2) (u4 := .complex .f32 s0.b1 s0.b2) (u5 := .complex .f32 s0.c1 s0.c2) (u6 := .float .f32 s0.r) (u7 := .float .f32 s0.g) (u8 := .float .f32 s0.b) (u9 := .float .f32 s0.k) (u10 := .float .f32 0) (u11 := .float .f32 0) (u12 := .float .f32 0) E9.out.res)
    go_wp2_with (simp only [op2])
    (obtain ⟨e0, e1, e2, e3, e4, e5, e6, e7, e8, e9, e10, e11, e12⟩ := blk13 (P5.out))
    refine bodyPost_ret (v := .agg #[.int .i64 1, .int .i64 0, .complex .f32 x y, .complex .f32 s0.a1 s0.a2, .complex .f32 s0.b1 s0.b2, .complex .f32 s0.c1 s0.c2, .float .f32 s0.r, .float .f32 s0.g, .float .f32 s0.b, .float .f32 s0.k, .float .f32 0, .float .f32 0, .float .f32 0]) (by simp [results, Tryz.results15, go_sem, e0, e1, e2, e3, e4, e5, e6, e7, e8, e9, e10, e11, e12]) rfl ⟨.add s0 (sixP HX.out HY.out), E9.out.done ⟨HS.out, sixP_lim HX.out HY.out⟩ rfl⟩
  · go_wp2_with fail
    refine (l3Draw_s B q _ E1.out.cur).mono ?_
    rintro e w2 ⟨s0, ⟨rfl, hs, hc, hg⟩⟩
    have E2 := Lib.hid (E1.out.step hc hg)
    have HS := Lib.hid hs
    clear hc hg hs E1
    go_wp2_with fail
    refine (l1Fine_q B q _ E2.out.cur).mono ?_
    rintro e w3 ⟨r, x, ⟨rfl, h6, hc, hg⟩⟩
    have E3 := Lib.hid (E2.out.step hc hg)
    have HX := Lib.hid h6
    have op1 := fun t w => run_float_arith (P := Tryz.prog) w .quo t .f32 _ 1098907648 _ h6.div
    clear hc hg h6 E2
    go_wp2_with (simp only [op1])
    refine (l1Fine_q B q _ E3.out.cur).mono ?_
    rintro e w4 ⟨r', y, ⟨rfl, h6, hc, hg⟩⟩
    have E9 := Lib.hid (E3.out.step hc hg)
    have HY := Lib.hid h6
    have op2 := fun t w => run_float_arith (P := Tryz.prog) w .quo t .f32 _ 1098907648 _ h6.div
    clear hc hg h6 E3 op1
    (obtain ⟨q0, q1, q2, q3, q4, q5, q6, q7, q8, q9, q10, q11, q12⟩ := blk13 (E9.out.res))
    (have h0 := E9.out.res.free 0; have h1 := E9.out.res.free 1; have h2 := E9.out.res.free 2; have h3 := E9.out.res.free 3; have h4 := E9.out.res.free 4; have h5 := E9.out.res.free 5; have h6 := E9.out.res.free 6; have h7 := E9.out.res.free 7; have h8 := E9.out.res.free 8; have h9 := E9.out.res.free 9; have h10 := E9.out.res.free 10; have h11 := E9.out.res.free 11; have h12 := E9.out.res.free 12)
    have lr := E9.out.res.lt
    have P5 := Lib.hid (put13 (u0 := .int .i64 1) (u1 := .int .i64 0) (u2 := .complex .f32 x y) (u3 := .complex .f32 s0.a1 s0.a2) (u4 := .complex .f32 s0.b1 s0.b2) (u5 := .complex .f32 s0.c1 s0.c2) (u6 := .float .f32 s0.r) (u7 := .float .f32 s0.g) (u8 := .float .f32 s0.b) (u9 := .float .f32 s0.k) (u10 := .float .f32 0) (u11 := .float .f32 0) (u12 := .float .f32 0) E9.out.res)
    go_wp2_with (simp only [op2])
    (obtain ⟨e0, e1, e2, e3, e4, e5, e6, e7, e8, e9, e10, e11, e12⟩ := blk13 (P5.out))
    refine bodyPost_ret (v := .agg #[.int .i64 1, .int .i64 0, .complex .f32 x y, .complex .f32 s0.a1 s0.a2, .complex .f32 s0.b1 s0.b2, .complex .f32 s0.c1 s0.c2, .float .f32 s0.r, .float .f32 s0.g, .float .f32 s0.b, .float .f32 s0.k, .float .f32 0, .float .f32 0, .float .f32 0]) (by simp [results, Tryz.results15, go_sem, e0, e1, e2, e3, e4, e5, e6, e7, e8, e9, e10, e11, e12]) rfl ⟨.add s0 (sixP HX.out HY.out), E9.out.done ⟨HS.out, sixP_lim HX.out HY.out⟩ rfl⟩
  · go_wp2_with fail
    refine (l3Draw_s B q _ E1.out.cur).mono ?_
    rintro e w2 ⟨s0, ⟨rfl, hs, hc, hg⟩⟩
    have E2 := Lib.hid (E1.out.step hc hg)
    have HS := Lib.hid hs
    clear hc hg hs E1
    go_wp2_with fail
    refine (l1Fine_q B q _ E2.out.cur).mono ?_
    rintro e w3 ⟨r, x, ⟨rfl, h6, hc, hg⟩⟩
    have E3 := Lib.hid (E2.out.step hc hg)
    have HX := Lib.hid h6
    have op1 := fun t w => run_float_arith (P := Tryz.prog) w .quo t .f32 _ 1098907648 _ h6.div
    clear hc hg h6 E2
    go_wp2_with (simp only [op1])
    refine (l1Fine_q B q _ E3.out.cur).mono ?_
    rintro e w4 ⟨r', y, ⟨rfl, h6, hc, hg⟩⟩
    have E9 := Lib.hid (E3.out.step hc hg)
    have HY := Lib.hid h6
    have op2 := fun t w => run_float_arith (P := Tryz.prog) w .quo t .f32 _ 1098907648 _ h6.div
    clear hc hg h6 E3 op1
    (obtain ⟨q0, q1, q2, q3, q4, q5, q6, q7, q8, q9, q10, q11, q12⟩ := blk13 (E9.out.res))
    (have h0 := E9.out.res.free 0; have h1 := E9.out.res.free 1; have h2 := E9.out.res.free 2; have h3 := E9.out.res.free 3; have h4 := E9.out.res.free 4; have h5 := E9.out.res.free 5; have h6 := E9.out.res.free 6; have h7 := E9.out.res.free 7; have h8 := E9.out.res.free 8; have h9 := E9.out.res.free 9; have h10 := E9.out.res.free 10; have h11 := E9.out.res.free 11; have h12 := E9.out.res.free 12)
    have lr := E9.out.res.lt
    have P5 := Lib.hid (put13 (u0 := .int .i64 1) (u1 := .int .i64 0) (u2 := .complex .f32 x y) (u3 := .complex .f32 s0.a1 s0.a2) (u4 := .complex .f32 s0.b1 s0.b2) (u5 := .complex .f32 s0.c1 s0.c2) (u6 := .float .f32 s0.r) (u7 := .float .f32 s0.g) (u8 := .float .f32 s0.b) (u9 := .float .f32 s0.k) (u10 := .float .f32 0) (u11 := .float .f32 0) (u12 := .float .f32 0) E9.out.res)
    go_wp2_with (simp only [op2])
    (obtain ⟨e0, e1, e2, e3, e4, e5, e6, e7, e8, e9, e10, e11, e12⟩ := blk13 (P5.out))
    refine bodyPost_ret (v := .agg #[.int .i64 1, .int .i64 0, .complex .f32 x y, .complex .f32 s0.a1 s0.a2, .complex .f32 s0.b1 s0.b2, .complex .f32 s0.c1 s0.c2, .float .f32 s0.r, .float .f32 s0.g, .float .f32 s0.b, .float .f32 s0.k, .float .f32 0, .float .f32 0, .float .f32 0]) (by simp [results, Tryz.results15, go_sem, e0, e1, e2, e3, e4, e5, e6, e7, e8, e9, e10, e11, e12]) rfl ⟨.add s0 (sixP HX.out HY.out), E9.out.done ⟨HS.out, sixP_lim HX.out HY.out⟩ rfl⟩
  · have h1 := H1.out
    go_wp2_with (simp only [h1])
    refine (l1Below_s B q ((N + 1 : Nat) : Int) _ E1.out.cur (by omega) (by omega)).mono ?_
    rintro e w2 ⟨x, rfl, hx0, hx1, hc, hg⟩
    obtain ⟨n, rfl⟩ : ∃ n : Nat, x = n := ⟨x.toNat, by omega⟩
    have hn : n ≤ 8 := by omega
    have E9 := Lib.hid (E1.out.step hc hg)
    clear hc hg E1 h1
    (obtain ⟨q0, q1, q2, q3, q4, q5, q6, q7, q8, q9, q10, q11, q12⟩ := blk13 (E9.out.res))
    (have h0 := E9.out.res.free 0; have h1 := E9.out.res.free 1; have h2 := E9.out.res.free 2; have h3 := E9.out.res.free 3; have h4 := E9.out.res.free 4; have h5 := E9.out.res.free 5; have h6 := E9.out.res.free 6; have h7 := E9.out.res.free 7; have h8 := E9.out.res.free 8; have h9 := E9.out.res.free 9; have h10 := E9.out.res.free 10; have h11 := E9.out.res.free 11; have h12 := E9.out.res.free 12)
    have lr := E9.out.res.lt
    have P5 := Lib.hid (put13 (u0 := .int .i64 2) (u1 := .int .i64 n) (u2 := .complex .f32 0 0) (u3 := .complex .f32 0 0) (u4 := .complex .f32 0 0) (u5 := .complex .f32 0 0) (u6 := .float .f32 0) (u7 := .float .f32 0) (u8 := .float .f32 0) (u9 := .float .f32 0) (u10 := .float .f32 0) (u11 := .float .f32 0) (u12 := .float .f32 0) E9.out.res)
    go_wp2_with fail
    (obtain ⟨e0, e1, e2, e3, e4, e5, e6, e7, e8, e9, e10, e11, e12⟩ := blk13 (P5.out))
    refine bodyPost_ret (v := .agg #[.int .i64 2, .int .i64 n, .complex .f32 0 0, .complex .f32 0 0, .complex .f32 0 0, .complex .f32 0 0, .float .f32 0, .float .f32 0, .float .f32 0, .float .f32 0, .float .f32 0, .float .f32 0, .float .f32 0]) (by simp [results, Tryz.results15, go_sem, e0, e1, e2, e3, e4, e5, e6, e7, e8, e9, e10, e11, e12]) rfl ⟨.take n, E9.out.done hn rfl⟩
  · go_wp2_with fail
    refine (l2Draw_s B q _ E1.out.cur).mono ?_
    rintro e w2 ⟨r, g, c, ⟨rfl, lr, lg, lb, hc, hg⟩⟩
    have E9 := Lib.hid (E1.out.step hc hg)
    have LO : Hid (Lit.Ok ⟨r, g, c⟩) := ⟨lr, lg, lb⟩
    clear hc hg E1 lr lg lb
    (obtain ⟨q0, q1, q2, q3, q4, q5, q6, q7, q8, q9, q10, q11, q12⟩ := blk13 (E9.out.res))
    (have h0 := E9.out.res.free 0; have h1 := E9.out.res.free 1; have h2 := E9.out.res.free 2; have h3 := E9.out.res.free 3; have h4 := E9.out.res.free 4; have h5 := E9.out.res.free 5; have h6 := E9.out.res.free 6; have h7 := E9.out.res.free 7; have h8 := E9.out.res.free 8; have h9 := E9.out.res.free 9; have h10 := E9.out.res.free 10; have h11 := E9.out.res.free 11; have h12 := E9.out.res.free 12)
    have lr := E9.out.res.lt
    have P5 := Lib.hid (put13 (u0 := .int .i64 3) (u1 := .int .i64 0) (u2 := .complex .f32 0 0) (u3 := .complex .f32 0 0) (u4 := .complex .f32 0 0) (u5 := .complex .f32 0 0) (u6 := .float .f32 0) (u7 := .float .f32 0) (u8 := .float .f32 0) (u9 := .float .f32 0) (u10 := .float .f32 r) (u11 := .float .f32 g) (u12 := .float .f32 c) E9.out.res)
    go_wp2_with fail
    (obtain ⟨e0, e1, e2, e3, e4, e5, e6, e7, e8, e9, e10, e11, e12⟩ := blk13 (P5.out))
    refine bodyPost_ret (v := .agg #[.int .i64 3, .int .i64 0, .complex .f32 0 0, .complex .f32 0 0, .complex .f32 0 0, .complex .f32 0 0, .float .f32 0, .float .f32 0, .float .f32 0, .float .f32 0, .float .f32 r, .float .f32 g, .float .f32 c]) (by simp [results, Tryz.results15, go_sem, e0, e1, e2, e3, e4, e5, e6, e7, e8, e9, e10, e11, e12]) rfl ⟨.light ⟨r, g, c⟩, E9.out.done LO.out rfl⟩
  · go_wp2_with fail
    refine (l1Int_5 B q _ _ _ E1.out.alloc.cur (by have := E1.out.gr.size; have := E1.out.qlt; omega) (Blk.new _ _ _)).mono ?_
    rintro e w2 ⟨k, ⟨rfl, hk, hc, hg⟩⟩
    have E9 := Lib.hid (E1.out.alloc.step hc hg)
    clear hc hg E1
    (obtain ⟨q0, q1, q2, q3, q4, q5, q6, q7, q8, q9, q10, q11, q12⟩ := blk13 (E9.out.res))
    (have h0 := E9.out.res.free 0; have h1 := E9.out.res.free 1; have h2 := E9.out.res.free 2; have h3 := E9.out.res.free 3; have h4 := E9.out.res.free 4; have h5 := E9.out.res.free 5; have h6 := E9.out.res.free 6; have h7 := E9.out.res.free 7; have h8 := E9.out.res.free 8; have h9 := E9.out.res.free 9; have h10 := E9.out.res.free 10; have h11 := E9.out.res.free 11; have h12 := E9.out.res.free 12)
    have lr := E9.out.res.lt
    have P5 := Lib.hid (put13 (u0 := .int .i64 4) (u1 := .int .i64 k) (u2 := .complex .f32 0 0) (u3 := .complex .f32 0 0) (u4 := .complex .f32 0 0) (u5 := .complex .f32 0 0) (u6 := .float .f32 0) (u7 := .float .f32 0) (u8 := .float .f32 0) (u9 := .float .f32 0) (u10 := .float .f32 0) (u11 := .float .f32 0) (u12 := .float .f32 0) E9.out.res)
    go_wp2_with fail
    (obtain ⟨e0, e1, e2, e3, e4, e5, e6, e7, e8, e9, e10, e11, e12⟩ := blk13 (P5.out))
    refine bodyPost_ret (v := .agg #[.int .i64 4, .int .i64 k, .complex .f32 0 0, .complex .f32 0 0, .complex .f32 0 0, .complex .f32 0 0, .float .f32 0, .float .f32 0, .float .f32 0, .float .f32 0, .float .f32 0, .float .f32 0, .float .f32 0]) (by simp [results, Tryz.results15, go_sem, e0, e1, e2, e3, e4, e5, e6, e7, e8, e9, e10, e11, e12]) rfl ⟨.mirrors k, E9.out.done (show k ≤ 3 by omega) rfl⟩
  · go_wp2_with fail
    refine (some_4 B q _ E1.out.cur).mono ?_
    rintro e w2 ⟨j, ⟨rfl, hj, hc, hg⟩⟩
    have E2 := Lib.hid (E1.out.step hc hg)
    obtain ⟨e1, a1, a2, a3⟩ := gr_16 j hj
    obtain ⟨P1, L1⟩ := pt_small (by omega) a1 a2 a3
    have op1 := fun t w => run_float_arith (P := Tryz.prog) w .quo t .f32 (floatOfInt .f32 ((j : Int) - 4)) 1098907648 _ e1
    have HP1 := Lib.hid P1
    have HL1 := Lib.hid L1
    clear hc hg e1 a1 a2 a3 P1 L1 E1
    generalize overB 1098907648 ((j : Int) - 4) = x at *
    go_wp2_with (simp only [op1])
    refine (some_4 B q _ E2.out.cur).mono ?_
    rintro e w3 ⟨k, ⟨rfl, hk, hc, hg⟩⟩
    have E9 := Lib.hid (E2.out.step hc hg)
    obtain ⟨e1, a1, a2, a3⟩ := gr_16 k hk
    obtain ⟨P2, L2⟩ := pt_small (by omega) a1 a2 a3
    have op2 := fun t w => run_float_arith (P := Tryz.prog) w .quo t .f32 (floatOfInt .f32 ((k : Int) - 4)) 1098907648 _ e1
    have HP2 := Lib.hid P2
    have HL2 := Lib.hid L2
    clear hc hg e1 a1 a2 a3 P2 L2 E2 op1
    generalize overB 1098907648 ((k : Int) - 4) = y at *
    have LM : Hid (Lim 1 ⟨(x, y), HP1.out, HP2.out⟩) := ⟨by rw [← mag_unit]; exact Nat.le_trans HL1.out (by omega), by rw [← mag_unit]; exact Nat.le_trans HL2.out (by omega)⟩
    (obtain ⟨q0, q1, q2, q3, q4, q5, q6, q7, q8, q9, q10, q11, q12⟩ := blk13 (E9.out.res))
    (have h0 := E9.out.res.free 0; have h1 := E9.out.res.free 1; have h2 := E9.out.res.free 2; have h3 := E9.out.res.free 3; have h4 := E9.out.res.free 4; have h5 := E9.out.res.free 5; have h6 := E9.out.res.free 6; have h7 := E9.out.res.free 7; have h8 := E9.out.res.free 8; have h9 := E9.out.res.free 9; have h10 := E9.out.res.free 10; have h11 := E9.out.res.free 11; have h12 := E9.out.res.free 12)
    have lr := E9.out.res.lt
    have P5 := Lib.hid (put13 (u0 := .int .i64 5) (u1 := .int .i64 0) (u2 := .complex .f32 x y) (u3 := .complex .f32 0 0) (u4 := .complex .f32 0 0) (u5 := .complex .f32 0 0) (u6 := .float .f32 0) (u7 := .float .f32 0) (u8 := .float .f32 0) (u9 := .float .f32 0) (u10 := .float .f32 0) (u11 := .float .f32 0) (u12 := .float .f32 0) E9.out.res)
    go_wp2_with (simp only [op2])
    (obtain ⟨e0, e1, e2, e3, e4, e5, e6, e7, e8, e9, e10, e11, e12⟩ := blk13 (P5.out))
    refine bodyPost_ret (v := .agg #[.int .i64 5, .int .i64 0, .complex .f32 x y, .complex .f32 0 0, .complex .f32 0 0, .complex .f32 0 0, .float .f32 0, .float .f32 0, .float .f32 0, .float .f32 0, .float .f32 0, .float .f32 0, .float .f32 0]) (by simp [results, Tryz.results15, go_sem, e0, e1, e2, e3, e4, e5, e6, e7, e8, e9, e10, e11, e12]) rfl ⟨.gravity ⟨(x, y), HP1.out, HP2.out⟩, E9.out.done LM.out rfl⟩
  · have h1 := H1.out
    go_wp2_with (simp only [h1])
    refine (l1Below_s B q ((N + 1 : Nat) : Int) _ E1.out.cur (by omega) (by omega)).mono ?_
    rintro e w2 ⟨x, rfl, hx0, hx1, hc, hg⟩
    obtain ⟨n, rfl⟩ : ∃ n : Nat, x = n := ⟨x.toNat, by omega⟩
    have hn : n ≤ 8 := by omega
    have E2 := Lib.hid (E1.out.step hc hg)
    clear hc hg E1 h1
    go_wp2_with fail
    refine (l5Speed_s B q _ E2.out.cur).mono ?_
    rintro e w3 ⟨v, ⟨rfl, hl, hc, hg⟩⟩
    have E9 := Lib.hid (E2.out.step hc hg)
    have LV := Lib.hid hl
    clear hc hg hl E2
    (obtain ⟨q0, q1, q2, q3, q4, q5, q6, q7, q8, q9, q10, q11, q12⟩ := blk13 (E9.out.res))
    (have h0 := E9.out.res.free 0; have h1 := E9.out.res.free 1; have h2 := E9.out.res.free 2; have h3 := E9.out.res.free 3; have h4 := E9.out.res.free 4; have h5 := E9.out.res.free 5; have h6 := E9.out.res.free 6; have h7 := E9.out.res.free 7; have h8 := E9.out.res.free 8; have h9 := E9.out.res.free 9; have h10 := E9.out.res.free 10; have h11 := E9.out.res.free 11; have h12 := E9.out.res.free 12)
    have lr := E9.out.res.lt
    have P5 := Lib.hid (put13 (u0 := .int .i64 6) (u1 := .int .i64 n) (u2 := .complex .f32 v.1.1 v.1.2) (u3 := .complex .f32 0 0) (u4 := .complex .f32 0 0) (u5 := .complex .f32 0 0) (u6 := .float .f32 0) (u7 := .float .f32 0) (u8 := .float .f32 0) (u9 := .float .f32 0) (u10 := .float .f32 0) (u11 := .float .f32 0) (u12 := .float .f32 0) E9.out.res)
    go_wp2_with fail
    (obtain ⟨e0, e1, e2, e3, e4, e5, e6, e7, e8, e9, e10, e11, e12⟩ := blk13 (P5.out))
    refine bodyPost_ret (v := .agg #[.int .i64 6, .int .i64 n, .complex .f32 v.1.1 v.1.2, .complex .f32 0 0, .complex .f32 0 0, .complex .f32 0 0, .float .f32 0, .float .f32 0, .float .f32 0, .float .f32 0, .float .f32 0, .float .f32 0, .float .f32 0]) (by simp [results, Tryz.results15, go_sem, e0, e1, e2, e3, e4, e5, e6, e7, e8, e9, e10, e11, e12]) rfl ⟨.push n v, E9.out.done ⟨hn, LV.out⟩ rfl⟩
  · have h1 := H1.out
    go_wp2_with (simp only [h1])
    refine (l1Below_s B q ((N + 1 : Nat) : Int) _ E1.out.cur (by omega) (by omega)).mono ?_
    rintro e w2 ⟨x, rfl, hx0, hx1, hc, hg⟩
    obtain ⟨n, rfl⟩ : ∃ n : Nat, x = n := ⟨x.toNat, by omega⟩
    have hn : n ≤ 8 := by omega
    have E2 := Lib.hid (E1.out.step hc hg)
    clear hc hg E1 h1
    go_wp2_with fail
    refine (l5Speed_s B q _ E2.out.cur).mono ?_
    rintro e w3 ⟨v, ⟨rfl, hl, hc, hg⟩⟩
    have E9 := Lib.hid (E2.out.step hc hg)
    have LV := Lib.hid hl
    clear hc hg hl E2
    (obtain ⟨q0, q1, q2, q3, q4, q5, q6, q7, q8, q9, q10, q11, q12⟩ := blk13 (E9.out.res))
    (have h0 := E9.out.res.free 0; have h1 := E9.out.res.free 1; have h2 := E9.out.res.free 2; have h3 := E9.out.res.free 3; have h4 := E9.out.res.free 4; have h5 := E9.out.res.free 5; have h6 := E9.out.res.free 6; have h7 := E9.out.res.free 7; have h8 := E9.out.res.free 8; have h9 := E9.out.res.free 9; have h10 := E9.out.res.free 10; have h11 := E9.out.res.free 11; have h12 := E9.out.res.free 12)
    have lr := E9.out.res.lt
    have P5 := Lib.hid (put13 (u0 := .int .i64 6) (u1 := .int .i64 n) (u2 := .complex .f32 v.1.1 v.1.2) (u3 := .complex .f32 0 0) (u4 := .complex .f32 0 0) (u5 := .complex .f32 0 0) (u6 := .float .f32 0) (u7 := .float .f32 0) (u8 := .float .f32 0) (u9 := .float .f32 0) (u10 := .float .f32 0) (u11 := .float .f32 0) (u12 := .float .f32 0) E9.out.res)
    go_wp2_with fail
    (obtain ⟨e0, e1, e2, e3, e4, e5, e6, e7, e8, e9, e10, e11, e12⟩ := blk13 (P5.out))
    refine bodyPost_ret (v := .agg #[.int .i64 6, .int .i64 n, .complex .f32 v.1.1 v.1.2, .complex .f32 0 0, .complex .f32 0 0, .complex .f32 0 0, .float .f32 0, .float .f32 0, .float .f32 0, .float .f32 0, .float .f32 0, .float .f32 0, .float .f32 0]) (by simp [results, Tryz.results15, go_sem, e0, e1, e2, e3, e4, e5, e6, e7, e8, e9, e10, e11, e12]) rfl ⟨.push n v, E9.out.done ⟨hn, LV.out⟩ rfl⟩
  · go_wp2_with fail
    refine (little_6 B q _ E1.out.cur).mono ?_
    rintro e w2 ⟨n, ⟨rfl, hw1, hw6, hc, hg⟩⟩
    have E9 := Lib.hid (E1.out.step hc hg)
    clear hc hg E1
    (obtain ⟨q0, q1, q2, q3, q4, q5, q6, q7, q8, q9, q10, q11, q12⟩ := blk13 (E9.out.res))
    (have h0 := E9.out.res.free 0; have h1 := E9.out.res.free 1; have h2 := E9.out.res.free 2; have h3 := E9.out.res.free 3; have h4 := E9.out.res.free 4; have h5 := E9.out.res.free 5; have h6 := E9.out.res.free 6; have h7 := E9.out.res.free 7; have h8 := E9.out.res.free 8; have h9 := E9.out.res.free 9; have h10 := E9.out.res.free 10; have h11 := E9.out.res.free 11; have h12 := E9.out.res.free 12)
    have lr := E9.out.res.lt
    have P5 := Lib.hid (put13 (u0 := .int .i64 7) (u1 := .int .i64 n) (u2 := .complex .f32 0 0) (u3 := .complex .f32 0 0) (u4 := .complex .f32 0 0) (u5 := .complex .f32 0 0) (u6 := .float .f32 0) (u7 := .float .f32 0) (u8 := .float .f32 0) (u9 := .float .f32 0) (u10 := .float .f32 0) (u11 := .float .f32 0) (u12 := .float .f32 0) E9.out.res)
    go_wp2_with fail
    (obtain ⟨e0, e1, e2, e3, e4, e5, e6, e7, e8, e9, e10, e11, e12⟩ := blk13 (P5.out))
    refine bodyPost_ret (v := .agg #[.int .i64 7, .int .i64 n, .complex .f32 0 0, .complex .f32 0 0, .complex .f32 0 0, .complex .f32 0 0, .float .f32 0, .float .f32 0, .float .f32 0, .float .f32 0, .float .f32 0, .float .f32 0, .float .f32 0]) (by simp [results, Tryz.results15, go_sem, e0, e1, e2, e3, e4, e5, e6, e7, e8, e9, e10, e11, e12]) rfl ⟨.wait n, E9.out.done ⟨hw1, hw6⟩ rfl⟩
  · go_wp2_with fail
    refine (little_6 B q _ E1.out.cur).mono ?_
    rintro e w2 ⟨n, ⟨rfl, hw1, hw6, hc, hg⟩⟩
    have E9 := Lib.hid (E1.out.step hc hg)
    clear hc hg E1
    (obtain ⟨q0, q1, q2, q3, q4, q5, q6, q7, q8, q9, q10, q11, q12⟩ := blk13 (E9.out.res))
    (have h0 := E9.out.res.free 0; have h1 := E9.out.res.free 1; have h2 := E9.out.res.free 2; have h3 := E9.out.res.free 3; have h4 := E9.out.res.free 4; have h5 := E9.out.res.free 5; have h6 := E9.out.res.free 6; have h7 := E9.out.res.free 7; have h8 := E9.out.res.free 8; have h9 := E9.out.res.free 9; have h10 := E9.out.res.free 10; have h11 := E9.out.res.free 11; have h12 := E9.out.res.free 12)
    have lr := E9.out.res.lt
    have P5 := Lib.hid (put13 (u0 := .int .i64 7) (u1 := .int .i64 n) (u2 := .complex .f32 0 0) (u3 := .complex .f32 0 0) (u4 := .complex .f32 0 0) (u5 := .complex .f32 0 0) (u6 := .float .f32 0) (u7 := .float .f32 0) (u8 := .float .f32 0) (u9 := .float .f32 0) (u10 := .float .f32 0) (u11 := .float .f32 0) (u12 := .float .f32 0) E9.out.res)
    go_wp2_with fail
    (obtain ⟨e0, e1, e2, e3, e4, e5, e6, e7, e8, e9, e10, e11, e12⟩ := blk13 (P5.out))
    refine bodyPost_ret (v := .agg #[.int .i64 7, .int .i64 n, .complex .f32 0 0, .complex .f32 0 0, .complex .f32 0 0, .complex .f32 0 0, .float .f32 0, .float .f32 0, .float .f32 0, .float .f32 0, .float .f32 0, .float .f32 0, .float .f32 0]) (by simp [results, Tryz.results15, go_sem, e0, e1, e2, e3, e4, e5, e6, e7, e8, e9, e10, e11, e12]) rfl ⟨.wait n, E9.out.done ⟨hw1, hw6⟩ rfl⟩
end Go.Proofs.YtfdgijmmgllmgaaGreatDoor
