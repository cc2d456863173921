/-
  Texts Uq, joined.
-/
import Derived.Test.YtfdgijmmgllmgaaGreatR23
import Derived.Test.YtfdgijmmgllmgaaGreatR24
import Derived.Deep.AppendLies
namespace Go.Proofs.YtfdgijmmgllmgaaGreat
open Go.ChangeShapes Go.WideShapes Go.ChangeAt Go.RowKit Go.Joins
set_option linter.unusedSimpArgs false
set_option linter.unusedVariables false
set_option maxRecDepth 100000
attribute [local go_sem] store_f
open Ieee Go.Lib
attribute [local go_sem] store_c
structure ShoRet (w : World) (r : Ending) (w' : World) (t : Sho) (N M K : Nat) (a b l : Option Addr) (ca cb cl : Nat) (p : Bool) : Prop where
  ret : r = .returned (.tuple #[.agg #[.int .i64 t.size, .float .f32 t.step, .float .f32 t.lit.r, .float .f32 t.lit.g, .float .f32 t.lit.b, .slice a N ca, .int .i64 t.kind, .complex .f32 t.g1 t.g2, .float .f32 0, .slice b M cb, .int .i64 t.ticks, .slice l K cl], .bool p])
  inn : ShoIn w' t a b l
  below : Below w.heap.size w w'
structure DoM (F : FuncId) (s : Sho) (N M K : Nat) (e : Evw) (t : Sho) (N' M' K' : Nat) (p : Bool) : Prop where
  call : ∀ (w : World) (a b l : Option Addr) (ca cb cl : Nat), ShoIn w s a b l → Calls Tryz.prog F #[.agg #[.int .i64 s.size, .float .f32 s.step, .float .f32 s.lit.r, .float .f32 s.lit.g, .float .f32 s.lit.b, .slice a N ca, .int .i64 s.kind, .complex .f32 s.g1 s.g2, .float .f32 0, .slice b M cb, .int .i64 s.ticks, .slice l K cl], .agg #[.int .i64 e.kind, .int .i64 e.n, .complex .f32 e.z1 e.z2, .complex .f32 e.s.a1 e.s.a2, .complex .f32 e.s.b1 e.s.b2, .complex .f32 e.s.c1 e.s.c2, .float .f32 e.s.r, .float .f32 e.s.g, .float .f32 e.s.b, .float .f32 e.s.k, .float .f32 e.l.r, .float .f32 e.l.g, .float .f32 e.l.b]] w fun r w' => ∃ a' b' l' ca' cb' cl', ShoRet w r w' t N' M' K' a' b' l' ca' cb' cl' p
structure DoBox (B : Nat) (W : World) (s : Sho) (N M K : Nat) (e : Evw) (a b l : Option Addr) (ca cb cl : Nat) (w : World) : Prop where
  sh : Blk W B #[.int .i64 s.size, .float .f32 s.step, .float .f32 s.lit.r, .float .f32 s.lit.g, .float .f32 s.lit.b, .slice a N ca, .int .i64 s.kind, .complex .f32 s.g1 s.g2, .float .f32 0, .slice b M cb, .int .i64 s.ticks, .slice l K cl] 34
  ev : Blk W (B + 1) #[.int .i64 e.kind, .int .i64 e.n, .complex .f32 e.z1 e.z2, .complex .f32 e.s.a1 e.s.a2, .complex .f32 e.s.b1 e.s.b2, .complex .f32 e.s.c1 e.s.c2, .float .f32 e.s.r, .float .f32 e.s.g, .float .f32 e.s.b, .float .f32 e.s.k, .float .f32 e.l.r, .float .f32 e.l.g, .float .f32 e.l.b] 38
  res : Blk W (B + 1 + 1) #[.int .i64 0, .float .f32 0, .float .f32 0, .float .f32 0, .float .f32 0, .slice Option.none 0 0, .int .i64 0, .complex .f32 0 0, .float .f32 0, .slice Option.none 0 0, .int .i64 0, .slice Option.none 0 0] 34
  inn : ShoIn W s a b l
  below : Below B w W
  size : B + 3 ≤ W.heap.size
theorem DoBox.mono {B : Nat} {W W1 : World} {s : Sho} {N M K : Nat} {e : Evw} {a b l : Option Addr} {ca cb cl : Nat} {w : World} (h : DoBox B W s N M K e a b l ca cb cl w) (hb : Below W.heap.size W W1) : DoBox B W1 s N M K e a b l ca cb cl w :=
  ⟨h.sh.below hb, h.ev.below hb, h.res.below hb, h.inn.below hb, h.below.trans (hb.mono (by have := h.size; omega)), Nat.le_trans h.size hb.size⟩
theorem DoBox.start (w : World) (s : Sho) (N M K : Nat) (e : Evw) (a b l : Option Addr) (ca cb cl : Nat) (hr : ShoIn w s a b l) : DoBox w.heap.size (((w.alloc (.cells #[.int .i64 s.size, .float .f32 s.step, .float .f32 s.lit.r, .float .f32 s.lit.g, .float .f32 s.lit.b, .slice a N ca, .int .i64 s.kind, .complex .f32 s.g1 s.g2, .float .f32 0, .slice b M cb, .int .i64 s.ticks, .slice l K cl] 34)).alloc (.cells #[.int .i64 e.kind, .int .i64 e.n, .complex .f32 e.z1 e.z2, .complex .f32 e.s.a1 e.s.a2, .complex .f32 e.s.b1 e.s.b2, .complex .f32 e.s.c1 e.s.c2, .float .f32 e.s.r, .float .f32 e.s.g, .float .f32 e.s.b, .float .f32 e.s.k, .float .f32 e.l.r, .float .f32 e.l.g, .float .f32 e.l.b] 38)).alloc (.cells #[.int .i64 0, .float .f32 0, .float .f32 0, .float .f32 0, .float .f32 0, .slice Option.none 0 0, .int .i64 0, .complex .f32 0 0, .float .f32 0, .slice Option.none 0 0, .int .i64 0, .slice Option.none 0 0] 34)) s N M K e a b l ca cb cl w :=
  ⟨((Blk.new _ _ _).alloc).alloc, (Blk.newAt (by simp)).alloc, Blk.newAt (by simp), hr.alloc.alloc.alloc, (((Below.refl _ _).alloc (Nat.le_refl _) _).alloc (by simp) _).alloc (by simp; omega) _, by simp⟩
set_option maxHeartbeats 32000000 in
theorem do_no1 {s : Sho} {N M K : Nat} {e : Evw} {v : Value} (C : CopyS 29 s N M K) (V : EvM e v false) : DoM 9 s N M K e s N M K false := ⟨fun w a b l ca cb cl hr => by
  have D0 := Lib.hid (DoBox.start w s N M K e a b l ca cb cl hr)
  clear hr
  go_enter Tryz.func9, Tryz.ntmps9
  go_wp2_with fail
  generalize ((w.alloc (.cells #[.int .i64 s.size, .float .f32 s.step, .float .f32 s.lit.r, .float .f32 s.lit.g, .float .f32 s.lit.b, .slice a N ca, .int .i64 s.kind, .complex .f32 s.g1 s.g2, .float .f32 0, .slice b M cb, .int .i64 s.ticks, .slice l K cl] 34)).alloc (.cells #[.int .i64 e.kind, .int .i64 e.n, .complex .f32 e.z1 e.z2, .complex .f32 e.s.a1 e.s.a2, .complex .f32 e.s.b1 e.s.b2, .complex .f32 e.s.c1 e.s.c2, .float .f32 e.s.r, .float .f32 e.s.g, .float .f32 e.s.b, .float .f32 e.s.k, .float .f32 e.l.r, .float .f32 e.l.g, .float .f32 e.l.b] 38)).alloc (.cells #[.int .i64 0, .float .f32 0, .float .f32 0, .float .f32 0, .float .f32 0, .slice Option.none 0 0, .int .i64 0, .complex .f32 0 0, .float .f32 0, .slice Option.none 0 0, .int .i64 0, .slice Option.none 0 0] 34) = X at *
  refine (V.call _).mono ?_
  rintro r w1 ⟨rfl, hb⟩
  have D1 := Lib.hid (D0.out.mono hb)
  clear hb D0 V
  (obtain ⟨p0, p1, p2, p3, p4, p5, p6, p7, p8, p9, p10, p11⟩ := blk12 (D1.out.sh))
  have l0 := D1.out.sh.lt
  go_wp2_with fail
  refine (C.call _ _ _ _ _ _ _ D1.out.inn).mono ?_
  rintro r w2 ⟨a2, b2, l2, ca2, cb2, cl2, ⟨rfl, hown, hb⟩⟩
  have D2 := Lib.hid (D1.out.mono hb)
  have O2 := Lib.hid hown.in_
  clear hb hown D1 C p0 p1 p2 p3 p4 p5 p6 p7 p8 p9 p10 p11 l0
  have HR := D2.out.res
  (obtain ⟨q0, q1, q2, q3, q4, q5, q6, q7, q8, q9, q10, q11⟩ := blk12 (HR))
  (have h0 := HR.free 0; have h1 := HR.free 1; have h2 := HR.free 2; have h3 := HR.free 3; have h4 := HR.free 4; have h5 := HR.free 5; have h6 := HR.free 6; have h7 := HR.free 7; have h8 := HR.free 8; have h9 := HR.free 9; have h10 := HR.free 10; have h11 := HR.free 11)
  have l2' := HR.lt
  (have RS := (((((((((((HR.set (i := 0) (v := .int .i64 s.size)).set (i := 1) (v := .float .f32 s.step)).set (i := 2) (v := .float .f32 s.lit.r)).set (i := 3) (v := .float .f32 s.lit.g)).set (i := 4) (v := .float .f32 s.lit.b)).set (i := 5) (v := .slice a2 N ca2)).set (i := 6) (v := .int .i64 s.kind)).set (i := 7) (v := .complex .f32 s.g1 s.g2)).set (i := 8) (v := .float .f32 0)).set (i := 9) (v := .slice b2 M cb2)).set (i := 10) (v := .int .i64 s.ticks)).set (i := 11) (v := .slice l2 K cl2); have e0 := RS.cell 0; have e1 := RS.cell 1; have e2 := RS.cell 2; have e3 := RS.cell 3; have e4 := RS.cell 4; have e5 := RS.cell 5; have e6 := RS.cell 6; have e7 := RS.cell 7; have e8 := RS.cell 8; have e9 := RS.cell 9; have e10 := RS.cell 10; have e11 := RS.cell 11; simp only [List.setIfInBounds_toArray, List.set_cons_zero, List.set_cons_succ, List.getElem?_toArray, List.getElem?_cons_zero, List.getElem?_cons_succ] at e0 e1 e2 e3 e4 e5 e6 e7 e8 e9 e10 e11)
  clear HR
  (have E0 := Lib.hid e0; have E1 := Lib.hid e1; have E2 := Lib.hid e2; have E3 := Lib.hid e3; have E4 := Lib.hid e4; have E5 := Lib.hid e5; have E6 := Lib.hid e6; have E7 := Lib.hid e7; have E8 := Lib.hid e8; have E9 := Lib.hid e9; have E10 := Lib.hid e10; have E11 := Lib.hid e11; clear RS e0 e1 e2 e3 e4 e5 e6 e7 e8 e9 e10 e11)
  go_wp2_with fail
  (have e0 := E0.out; have e1 := E1.out; have e2 := E2.out; have e3 := E3.out; have e4 := E4.out; have e5 := E5.out; have e6 := E6.out; have e7 := E7.out; have e8 := E8.out; have e9 := E9.out; have e10 := E10.out; have e11 := E11.out)
  have hB := D2.out.below
  refine bodyPost_ret (v := .tuple #[.agg #[.int .i64 s.size, .float .f32 s.step, .float .f32 s.lit.r, .float .f32 s.lit.g, .float .f32 s.lit.b, .slice a2 N ca2, .int .i64 s.kind, .complex .f32 s.g1 s.g2, .float .f32 0, .slice b2 M cb2, .int .i64 s.ticks, .slice l2 K cl2], .bool false]) (by simp [results, Tryz.results9, go_sem, e0, e1, e2, e3, e4, e5, e6, e7, e8, e9, e10, e11]) rfl ⟨a2, b2, l2, ca2, cb2, cl2, ⟨rfl, ?_, ?_⟩⟩
  · exact O2.out.grownAt (grownBy_set (grownBy_set (grownBy_set (grownBy_set (grownBy_set (grownBy_set (grownBy_set (grownBy_set (grownBy_set (grownBy_set (grownBy_set (grownBy_set (grownBy_refl _ _))))))))))))) q1
  · iterate 12 (refine Below.setCell ?_ (by dsimp only; omega) _)
    exact hB⟩
set_option maxHeartbeats 32000000 in
theorem do_no2 {s : Sho} {N M K : Nat} {e : Evw} {v : Value} (C : CopyS 29 s N M K) (V : EvM e v true) (S : ShIs 10 s N M K true) (H : HasB v M false) : DoM 9 s N M K e s N M K false := ⟨fun w a b l ca cb cl hr => by
  have D0 := Lib.hid (DoBox.start w s N M K e a b l ca cb cl hr)
  clear hr
  go_enter Tryz.func9, Tryz.ntmps9
  go_wp2_with fail
  generalize ((w.alloc (.cells #[.int .i64 s.size, .float .f32 s.step, .float .f32 s.lit.r, .float .f32 s.lit.g, .float .f32 s.lit.b, .slice a N ca, .int .i64 s.kind, .complex .f32 s.g1 s.g2, .float .f32 0, .slice b M cb, .int .i64 s.ticks, .slice l K cl] 34)).alloc (.cells #[.int .i64 e.kind, .int .i64 e.n, .complex .f32 e.z1 e.z2, .complex .f32 e.s.a1 e.s.a2, .complex .f32 e.s.b1 e.s.b2, .complex .f32 e.s.c1 e.s.c2, .float .f32 e.s.r, .float .f32 e.s.g, .float .f32 e.s.b, .float .f32 e.s.k, .float .f32 e.l.r, .float .f32 e.l.g, .float .f32 e.l.b] 38)).alloc (.cells #[.int .i64 0, .float .f32 0, .float .f32 0, .float .f32 0, .float .f32 0, .slice Option.none 0 0, .int .i64 0, .complex .f32 0 0, .float .f32 0, .slice Option.none 0 0, .int .i64 0, .slice Option.none 0 0] 34) = X at *
  refine (V.call _).mono ?_
  rintro r w1 ⟨rfl, hb⟩
  have D1 := Lib.hid (D0.out.mono hb)
  clear hb D0 V
  (obtain ⟨p0, p1, p2, p3, p4, p5, p6, p7, p8, p9, p10, p11⟩ := blk12 (D1.out.sh))
  have l0 := D1.out.sh.lt
  go_wp2_with fail
  refine (S.call _ _ _ _ _ _ _ D1.out.inn).mono ?_
  rintro r w2 ⟨rfl, hb⟩
  have D2 := Lib.hid (D1.out.mono hb)
  clear hb D1 S p0 p1 p2 p3 p4 p5 p6 p7 p8 p9 p10 p11 l0
  (obtain ⟨p0, p1, p2, p3, p4, p5, p6, p7, p8, p9, p10, p11⟩ := blk12 (D2.out.sh))
  have l0 := D2.out.sh.lt
  go_wp2_with fail
  refine (H.call _ _ _ _ _ _ _ _ _ _).mono ?_
  rintro r w3 ⟨rfl, hb⟩
  have D3 := Lib.hid (D2.out.mono hb)
  clear hb D2 H p0 p1 p2 p3 p4 p5 p6 p7 p8 p9 p10 p11 l0
  (obtain ⟨p0, p1, p2, p3, p4, p5, p6, p7, p8, p9, p10, p11⟩ := blk12 (D3.out.sh))
  have l0 := D3.out.sh.lt
  go_wp2_with fail
  refine (C.call _ _ _ _ _ _ _ D3.out.inn).mono ?_
  rintro r w9 ⟨a2, b2, l2, ca2, cb2, cl2, ⟨rfl, hown, hb⟩⟩
  have D9 := Lib.hid (D3.out.mono hb)
  have O2 := Lib.hid hown.in_
  clear hb hown D3 C p0 p1 p2 p3 p4 p5 p6 p7 p8 p9 p10 p11 l0
  have HR := D9.out.res
  (obtain ⟨q0, q1, q2, q3, q4, q5, q6, q7, q8, q9, q10, q11⟩ := blk12 (HR))
  (have h0 := HR.free 0; have h1 := HR.free 1; have h2 := HR.free 2; have h3 := HR.free 3; have h4 := HR.free 4; have h5 := HR.free 5; have h6 := HR.free 6; have h7 := HR.free 7; have h8 := HR.free 8; have h9 := HR.free 9; have h10 := HR.free 10; have h11 := HR.free 11)
  have l2' := HR.lt
  (have RS := (((((((((((HR.set (i := 0) (v := .int .i64 s.size)).set (i := 1) (v := .float .f32 s.step)).set (i := 2) (v := .float .f32 s.lit.r)).set (i := 3) (v := .float .f32 s.lit.g)).set (i := 4) (v := .float .f32 s.lit.b)).set (i := 5) (v := .slice a2 N ca2)).set (i := 6) (v := .int .i64 s.kind)).set (i := 7) (v := .complex .f32 s.g1 s.g2)).set (i := 8) (v := .float .f32 0)).set (i := 9) (v := .slice b2 M cb2)).set (i := 10) (v := .int .i64 s.ticks)).set (i := 11) (v := .slice l2 K cl2); have e0 := RS.cell 0; have e1 := RS.cell 1; have e2 := RS.cell 2; have e3 := RS.cell 3; have e4 := RS.cell 4; have e5 := RS.cell 5; have e6 := RS.cell 6; have e7 := RS.cell 7; have e8 := RS.cell 8; have e9 := RS.cell 9; have e10 := RS.cell 10; have e11 := RS.cell 11; simp only [List.setIfInBounds_toArray, List.set_cons_zero, List.set_cons_succ, List.getElem?_toArray, List.getElem?_cons_zero, List.getElem?_cons_succ] at e0 e1 e2 e3 e4 e5 e6 e7 e8 e9 e10 e11)
  clear HR
  (have E0 := Lib.hid e0; have E1 := Lib.hid e1; have E2 := Lib.hid e2; have E3 := Lib.hid e3; have E4 := Lib.hid e4; have E5 := Lib.hid e5; have E6 := Lib.hid e6; have E7 := Lib.hid e7; have E8 := Lib.hid e8; have E9 := Lib.hid e9; have E10 := Lib.hid e10; have E11 := Lib.hid e11; clear RS e0 e1 e2 e3 e4 e5 e6 e7 e8 e9 e10 e11)
  go_wp2_with fail
  (have e0 := E0.out; have e1 := E1.out; have e2 := E2.out; have e3 := E3.out; have e4 := E4.out; have e5 := E5.out; have e6 := E6.out; have e7 := E7.out; have e8 := E8.out; have e9 := E9.out; have e10 := E10.out; have e11 := E11.out)
  have hB := D9.out.below
  refine bodyPost_ret (v := .tuple #[.agg #[.int .i64 s.size, .float .f32 s.step, .float .f32 s.lit.r, .float .f32 s.lit.g, .float .f32 s.lit.b, .slice a2 N ca2, .int .i64 s.kind, .complex .f32 s.g1 s.g2, .float .f32 0, .slice b2 M cb2, .int .i64 s.ticks, .slice l2 K cl2], .bool false]) (by simp [results, Tryz.results9, go_sem, e0, e1, e2, e3, e4, e5, e6, e7, e8, e9, e10, e11]) rfl ⟨a2, b2, l2, ca2, cb2, cl2, ⟨rfl, ?_, ?_⟩⟩
  · exact O2.out.grownAt (grownBy_set (grownBy_set (grownBy_set (grownBy_set (grownBy_set (grownBy_set (grownBy_set (grownBy_set (grownBy_set (grownBy_set (grownBy_set (grownBy_set (grownBy_refl _ _))))))))))))) q1
  · iterate 12 (refine Below.setCell ?_ (by dsimp only; omega) _)
    exact hB⟩
structure DoFin (C : Nat) (W : World) (s : Sho) (N M K : Nat) (a b l : Option Addr) (ca cb cl : Nat) (w : World) : Prop where
  sh : Blk W w.heap.size #[.int .i64 s.size, .float .f32 s.step, .float .f32 s.lit.r, .float .f32 s.lit.g, .float .f32 s.lit.b, .slice a N ca, .int .i64 s.kind, .complex .f32 s.g1 s.g2, .float .f32 0, .slice b M cb, .int .i64 s.ticks, .slice l K cl] 34
  res : Blk W (w.heap.size + 1 + 1) #[.int .i64 0, .float .f32 0, .float .f32 0, .float .f32 0, .float .f32 0, .slice Option.none 0 0, .int .i64 0, .complex .f32 0 0, .float .f32 0, .slice Option.none 0 0, .int .i64 0, .slice Option.none 0 0] 34
  hr : ShoIn w s a b l
  below : Below w.heap.size w W
  c : w.heap.size + 3 ≤ C
theorem DoFin.inn {C : Nat} {W : World} {s : Sho} {N M K : Nat} {a b l : Option Addr} {ca cb cl : Nat} {w : World} (h : DoFin C W s N M K a b l ca cb cl w) : ShoIn W s a b l := h.hr.below h.below
theorem DoFin.mono {C : Nat} {W W1 : World} {s : Sho} {N M K : Nat} {a b l : Option Addr} {ca cb cl : Nat} {w : World} (h : DoFin C W s N M K a b l ca cb cl w) (hb : Below C W W1) : DoFin C W1 s N M K a b l ca cb cl w := by
  have := h.c
  exact ⟨(hb.block _ (by omega)).trans h.sh, (hb.block _ (by omega)).trans h.res, h.hr, h.below.trans (hb.mono (by omega)), h.c⟩
set_option maxHeartbeats 64000000 in
theorem do_end {s t u : Sho} {N M K N' M' N2 M2 K2 : Nat} {e : Evw} {T : TypeId} {v r0 : Value} {F : FuncId} {p : Bool} (hK : K ≤ 24) (C : CopyS 29 s N M K) (V : EvM e (.iface T v) true) (S : ShIs 10 s N M K true) (H : HasB (.iface T v) M true)
    (MT : Meth T v "loop.example/g03020/impl.changeShow" F r0) (G : ChgM F r0 { s with log := s.log ++ [e] } t N M (K + 1) N' M' true) (S2 : ShIs 10 t N' M' (K + 1) p) (hu : (p = false ∧ s = u ∧ N = N2 ∧ M = M2 ∧ K = K2) ∨ (p = true ∧ t = u ∧ N' = N2 ∧ M' = M2 ∧ K + 1 = K2)) : DoM 9 s N M K e u N2 M2 K2 p := ⟨fun w a b l ca cb cl hr => by
  obtain ⟨i0, hi, hz0, hz1, hz2⟩ := info_parts infoEv
  have hm := MT.meth
  have he := MT.ent
  clear MT
  have R0 := Lib.hid hr
  have D0 := Lib.hid (DoBox.start w s N M K e a b l ca cb cl hr)
  clear hr
  go_enter Tryz.func9, Tryz.ntmps9
  go_wp2_with fail
  generalize ((w.alloc (.cells #[.int .i64 s.size, .float .f32 s.step, .float .f32 s.lit.r, .float .f32 s.lit.g, .float .f32 s.lit.b, .slice a N ca, .int .i64 s.kind, .complex .f32 s.g1 s.g2, .float .f32 0, .slice b M cb, .int .i64 s.ticks, .slice l K cl] 34)).alloc (.cells #[.int .i64 e.kind, .int .i64 e.n, .complex .f32 e.z1 e.z2, .complex .f32 e.s.a1 e.s.a2, .complex .f32 e.s.b1 e.s.b2, .complex .f32 e.s.c1 e.s.c2, .float .f32 e.s.r, .float .f32 e.s.g, .float .f32 e.s.b, .float .f32 e.s.k, .float .f32 e.l.r, .float .f32 e.l.g, .float .f32 e.l.b] 38)).alloc (.cells #[.int .i64 0, .float .f32 0, .float .f32 0, .float .f32 0, .float .f32 0, .slice Option.none 0 0, .int .i64 0, .complex .f32 0 0, .float .f32 0, .slice Option.none 0 0, .int .i64 0, .slice Option.none 0 0] 34) = X at *
  refine (V.call _).mono ?_
  rintro r w1 ⟨rfl, hb⟩
  have D1 := Lib.hid (D0.out.mono hb)
  clear hb D0 V
  (obtain ⟨p0, p1, p2, p3, p4, p5, p6, p7, p8, p9, p10, p11⟩ := blk12 (D1.out.sh))
  have l0 := D1.out.sh.lt
  go_wp2_with fail
  refine (S.call _ _ _ _ _ _ _ D1.out.inn).mono ?_
  rintro r w2 ⟨rfl, hb⟩
  have D2 := Lib.hid (D1.out.mono hb)
  clear hb D1 S p0 p1 p2 p3 p4 p5 p6 p7 p8 p9 p10 p11 l0
  (obtain ⟨p0, p1, p2, p3, p4, p5, p6, p7, p8, p9, p10, p11⟩ := blk12 (D2.out.sh))
  have l0 := D2.out.sh.lt
  go_wp2_with fail
  refine (H.call _ _ _ _ _ _ _ _ _ _).mono ?_
  rintro r w3 ⟨rfl, hb⟩
  have D3 := Lib.hid (D2.out.mono hb)
  clear hb D2 H p0 p1 p2 p3 p4 p5 p6 p7 p8 p9 p10 p11 l0
  (obtain ⟨p0, p1, p2, p3, p4, p5, p6, p7, p8, p9, p10, p11⟩ := blk12 (D3.out.sh))
  have l0 := D3.out.sh.lt
  go_wp2_with fail
  have F3 : Hid (DoFin w3.heap.size w3 s N M K a b l ca cb cl w) := ⟨D3.out.sh, D3.out.res, R0.out, D3.out.below, D3.out.size⟩
  have C' := C
  refine (C'.call _ _ _ _ _ _ _ D3.out.inn).mono ?_
  rintro r w4 ⟨a4, b4, l4, ca4, cb4, cl4, ⟨rfl, hown, hb⟩⟩
  have HE := D3.out.ev.below hb
  have hs4 := hb.size
  clear p0 p1 p2 p3 p4 p5 p6 p7 p8 p9 p10 p11 l0 D3 R0 C'
  generalize w3.heap.size = B at *
  have O4 := Lib.hid hown
  have F4 := Lib.hid (F3.out.mono hb)
  have hcB := F3.out.c
  clear hb hown F3
  have lE := HE.lt
  (obtain ⟨c0, c1, c2, c3, c4, c5, c6, c7, c8, c9, c10, c11, c12⟩ := blk13 (HE))
  clear HE
  have hOl : ((w4.alloc (.cells #[.int .i64 s.size, .float .f32 s.step, .float .f32 s.lit.r, .float .f32 s.lit.g, .float .f32 s.lit.b, .slice a4 N ca4, .int .i64 s.kind, .complex .f32 s.g1 s.g2, .float .f32 0, .slice b4 M cb4, .int .i64 s.ticks, .slice l4 K cl4] 34)).alloc (.cells #[.int .i64 e.kind, .int .i64 e.n, .complex .f32 e.z1 e.z2, .complex .f32 e.s.a1 e.s.a2, .complex .f32 e.s.b1 e.s.b2, .complex .f32 e.s.c1 e.s.c2, .float .f32 e.s.r, .float .f32 e.s.g, .float .f32 e.s.b, .float .f32 e.s.k, .float .f32 e.l.r, .float .f32 e.l.g, .float .f32 e.l.b] 38)).ownsRow B 38 13 (.slice l4 K cl4) K (evCells s.log) := World.ownsRow.alloc (World.ownsRow.alloc O4.out.lg _) _
  go_wp2_with (at_builtin; go_loud (refine wpList_append_lies _ rfl _ _ 32 rfl B 38 i0 (.agg #[.int .i64 0, .int .i64 0, .complex .f32 0 0, .complex .f32 0 0, .complex .f32 0 0, .complex .f32 0 0, .float .f32 0, .float .f32 0, .float .f32 0, .float .f32 0, .float .f32 0, .float .f32 0, .float .f32 0]) 13 80 Tryz.underlying32 hi hz0 hz1 hz2 rfl (by decide) (.slice l4 K cl4) K (evCells s.log) rfl hOl ⟨w4.heap.size + 1, 0, Option.none⟩ 1 1 e.cells rfl rfl (World.news_of_block (cs := #[.int .i64 e.kind, .int .i64 e.n, .complex .f32 e.z1 e.z2, .complex .f32 e.s.a1 e.s.a2, .complex .f32 e.s.b1 e.s.b2, .complex .f32 e.s.c1 e.s.c2, .float .f32 e.s.r, .float .f32 e.s.g, .float .f32 e.s.b, .float .f32 e.s.k, .float .f32 e.l.r, .float .f32 e.l.g, .float .f32 e.l.b]) (t := 38) (fr := (0, 0)) (Blk.newAt (by simp))) (by simp [Evw.cells, Value.oneCell']) (by omega) (by unfold maxLen; omega) (by omega) (by simp; omega) (w4.heap.size + 1 + 1) (by simp) ?_))
  intro gg cap5 w5 hown5 hgrow hat hlt5
  have hP5 := blk_keep hgrow hOl ((Blk.new w4 #[.int .i64 s.size, .float .f32 s.step, .float .f32 s.lit.r, .float .f32 s.lit.g, .float .f32 s.lit.b, .slice a4 N ca4, .int .i64 s.kind, .complex .f32 s.g1 s.g2, .float .f32 0, .slice b4 M cb4, .int .i64 s.ticks, .slice l4 K cl4] 34).alloc (o := .cells #[.int .i64 e.kind, .int .i64 e.n, .complex .f32 e.z1 e.z2, .complex .f32 e.s.a1 e.s.a2, .complex .f32 e.s.b1 e.s.b2, .complex .f32 e.s.c1 e.s.c2, .float .f32 e.s.r, .float .f32 e.s.g, .float .f32 e.s.b, .float .f32 e.s.k, .float .f32 e.l.r, .float .f32 e.l.g, .float .f32 e.l.b] 38)) (by decide)
  have hs5 := hgrow.size
  simp only [World.size_alloc] at hs5
  have hSh5 := owns_keep hgrow hOl (World.ownsRow.alloc (World.ownsRow.alloc O4.out.sh _) _) (by decide)
  have hBd5 := owns_keep hgrow hOl (World.ownsRow.alloc (World.ownsRow.alloc O4.out.bd _) _) (by decide)
  have hLg5 : w5.ownsRow B 38 13 (.slice (some ⟨gg, 0, Option.none⟩) (K + 1) cap5) (K + 1) (evCells (s.log ++ [e])) := by rw [evCells_snoc]; exact hown5
  have F5 := Lib.hid (F4.out.mono ((((Below.refl B w4).alloc hs4 (.cells #[.int .i64 s.size, .float .f32 s.step, .float .f32 s.lit.r, .float .f32 s.lit.g, .float .f32 s.lit.b, .slice a4 N ca4, .int .i64 s.kind, .complex .f32 s.g1 s.g2, .float .f32 0, .slice b4 M cb4, .int .i64 s.ticks, .slice l4 K cl4] 34)).alloc (by simp; omega) (.cells #[.int .i64 e.kind, .int .i64 e.n, .complex .f32 e.z1 e.z2, .complex .f32 e.s.a1 e.s.a2, .complex .f32 e.s.b1 e.s.b2, .complex .f32 e.s.c1 e.s.c2, .float .f32 e.s.r, .float .f32 e.s.g, .float .f32 e.s.b, .float .f32 e.s.k, .float .f32 e.l.r, .float .f32 e.l.g, .float .f32 e.l.b] 38)).trans (below_keep hgrow hOl (by simp; omega))))
  have O5 : Hid (ShoOwn w5 B { s with log := s.log ++ [e] } N M (K + 1) a4 b4 (some ⟨gg, 0, Option.none⟩) ca4 cb4 cap5) := ⟨hSh5, hBd5, hLg5⟩
  have hPB : B ≤ w4.heap.size := hs4
  clear hOl hSh5 hBd5 hLg5 hown5 hgrow hat hlt5 F4 O4 c0 c1 c2 c3 c4 c5 c6 c7 c8 c9 c10 c11 c12 lE
  generalize w4.heap.size = P at *
  have P6 : Hid (Blk (w5.setCell ⟨P, 11, Option.none⟩ (.slice (some ⟨gg, 0, Option.none⟩) (K + 1) cap5)) P #[.int .i64 s.size, .float .f32 s.step, .float .f32 s.lit.r, .float .f32 s.lit.g, .float .f32 s.lit.b, .slice a4 N ca4, .int .i64 s.kind, .complex .f32 s.g1 s.g2, .float .f32 0, .slice b4 M cb4, .int .i64 s.ticks, .slice (some ⟨gg, 0, Option.none⟩) (K + 1) cap5] 34) := Blk.setAt rfl hP5 rfl
  have O6 := Lib.hid (O5.out.setP (i := 11) (v := .slice (some ⟨gg, 0, Option.none⟩) (K + 1) cap5) hP5)
  have F6 := Lib.hid (F5.out.mono ((Below.refl B w5).setCell (p := ⟨P, 11, Option.none⟩) hPB (.slice (some ⟨gg, 0, Option.none⟩) (K + 1) cap5)))
  have f11 := hP5.free 11
  have d11 := Blk.cellAt (i := 11) hP5 rfl
  simp only [List.getElem_toArray, List.getElem_cons_zero, List.getElem_cons_succ] at d11
  have l6 : P < (w5.setCell ⟨P, 11, Option.none⟩ (.slice (some ⟨gg, 0, Option.none⟩) (K + 1) cap5)).heap.size := by simp; omega
  clear hP5 O5 F5
  go_wp2_with fail
  generalize w5.setCell ⟨P, 11, Option.none⟩ (.slice (some ⟨gg, 0, Option.none⟩) (K + 1) cap5) = Y at *
  clear d11 f11 hs5
  refine (G.call _ B P _ _ _ _ _ _ P6.out O6.out hPB).mono ?_
  rintro r w7 ⟨a7, b7, l7, ca7, cb7, cl7, ⟨rfl, hP7, hI7, hb7, hs7⟩⟩
  have P7 := Lib.hid hP7
  have I7 := Lib.hid hI7
  have F7 := Lib.hid (F6.out.mono hb7)
  have hPB7 : B ≤ w7.heap.size := by omega
  have l7' : P < w7.heap.size := by omega
  clear hP7 hI7 hb7 hs7 P6 O6 F6 l6 G
  (obtain ⟨p0, p1, p2, p3, p4, p5, p6, p7, p8, p9, p10, p11⟩ := blk12 (P7.out))
  go_wp2_with fail
  refine (S2.call _ _ _ _ _ _ _ I7.out).mono ?_
  rintro r w8 ⟨rfl, hb⟩
  have P8 := Lib.hid (P7.out.below hb)
  have I8 := Lib.hid (I7.out.below hb)
  have F8 := Lib.hid (F7.out.mono (hb.mono hPB7))
  have l8 : P < w8.heap.size := by have := hb.size; omega
  clear hb P7 I7 F7 p0 p1 p2 p3 p4 p5 p6 p7 p8 p9 p10 p11
  rcases hu with ⟨rfl, rfl, rfl, rfl, rfl⟩ | ⟨rfl, rfl, rfl, rfl, rfl⟩
  · (obtain ⟨p0, p1, p2, p3, p4, p5, p6, p7, p8, p9, p10, p11⟩ := blk12 (F8.out.sh))
    have l9 := F8.out.sh.lt
    go_wp2_with fail
    refine (C.call _ _ _ _ _ _ _ F8.out.inn).mono ?_
    rintro r w9 ⟨a2, b2, l2, ca2, cb2, cl2, ⟨rfl, hown, hb⟩⟩
    have D9 := Lib.hid (F8.out.mono (hb.mono (by omega)))
    have O2 := Lib.hid hown.in_
    clear hb hown F8 C p0 p1 p2 p3 p4 p5 p6 p7 p8 p9 p10 p11 l9 P8 I8
    have HR := D9.out.res
    (obtain ⟨q0, q1, q2, q3, q4, q5, q6, q7, q8, q9, q10, q11⟩ := blk12 (HR))
    (have h0 := HR.free 0; have h1 := HR.free 1; have h2 := HR.free 2; have h3 := HR.free 3; have h4 := HR.free 4; have h5 := HR.free 5; have h6 := HR.free 6; have h7 := HR.free 7; have h8 := HR.free 8; have h9 := HR.free 9; have h10 := HR.free 10; have h11 := HR.free 11)
    have l2' := HR.lt
    (have RS := (((((((((((HR.set (i := 0) (v := .int .i64 s.size)).set (i := 1) (v := .float .f32 s.step)).set (i := 2) (v := .float .f32 s.lit.r)).set (i := 3) (v := .float .f32 s.lit.g)).set (i := 4) (v := .float .f32 s.lit.b)).set (i := 5) (v := .slice a2 N ca2)).set (i := 6) (v := .int .i64 s.kind)).set (i := 7) (v := .complex .f32 s.g1 s.g2)).set (i := 8) (v := .float .f32 0)).set (i := 9) (v := .slice b2 M cb2)).set (i := 10) (v := .int .i64 s.ticks)).set (i := 11) (v := .slice l2 K cl2); have e0 := RS.cell 0; have e1 := RS.cell 1; have e2 := RS.cell 2; have e3 := RS.cell 3; have e4 := RS.cell 4; have e5 := RS.cell 5; have e6 := RS.cell 6; have e7 := RS.cell 7; have e8 := RS.cell 8; have e9 := RS.cell 9; have e10 := RS.cell 10; have e11 := RS.cell 11; simp only [List.setIfInBounds_toArray, List.set_cons_zero, List.set_cons_succ, List.getElem?_toArray, List.getElem?_cons_zero, List.getElem?_cons_succ] at e0 e1 e2 e3 e4 e5 e6 e7 e8 e9 e10 e11)
    clear HR
    (have E0 := Lib.hid e0; have E1 := Lib.hid e1; have E2 := Lib.hid e2; have E3 := Lib.hid e3; have E4 := Lib.hid e4; have E5 := Lib.hid e5; have E6 := Lib.hid e6; have E7 := Lib.hid e7; have E8 := Lib.hid e8; have E9 := Lib.hid e9; have E10 := Lib.hid e10; have E11 := Lib.hid e11; clear RS e0 e1 e2 e3 e4 e5 e6 e7 e8 e9 e10 e11)
    go_wp2_with fail
    (have e0 := E0.out; have e1 := E1.out; have e2 := E2.out; have e3 := E3.out; have e4 := E4.out; have e5 := E5.out; have e6 := E6.out; have e7 := E7.out; have e8 := E8.out; have e9 := E9.out; have e10 := E10.out; have e11 := E11.out)
    have hB := D9.out.below
    refine bodyPost_ret (v := .tuple #[.agg #[.int .i64 s.size, .float .f32 s.step, .float .f32 s.lit.r, .float .f32 s.lit.g, .float .f32 s.lit.b, .slice a2 N ca2, .int .i64 s.kind, .complex .f32 s.g1 s.g2, .float .f32 0, .slice b2 M cb2, .int .i64 s.ticks, .slice l2 K cl2], .bool false]) (by simp [results, Tryz.results9, go_sem, e0, e1, e2, e3, e4, e5, e6, e7, e8, e9, e10, e11]) rfl ⟨a2, b2, l2, ca2, cb2, cl2, ⟨rfl, ?_, ?_⟩⟩
    · exact O2.out.grownAt (grownBy_set (grownBy_set (grownBy_set (grownBy_set (grownBy_set (grownBy_set (grownBy_set (grownBy_set (grownBy_set (grownBy_set (grownBy_set (grownBy_set (grownBy_refl _ _))))))))))))) q1
    · iterate 12 (refine Below.setCell ?_ (by dsimp only; omega) _)
      exact hB
  · have HR := F8.out.res
    (obtain ⟨p0, p1, p2, p3, p4, p5, p6, p7, p8, p9, p10, p11⟩ := blk12 (P8.out))
    (obtain ⟨q0, q1, q2, q3, q4, q5, q6, q7, q8, q9, q10, q11⟩ := blk12 (HR))
    (have h0 := HR.free 0; have h1 := HR.free 1; have h2 := HR.free 2; have h3 := HR.free 3; have h4 := HR.free 4; have h5 := HR.free 5; have h6 := HR.free 6; have h7 := HR.free 7; have h8 := HR.free 8; have h9 := HR.free 9; have h10 := HR.free 10; have h11 := HR.free 11)
    have l2' := HR.lt
    (have RS := (((((((((((HR.set (i := 0) (v := .int .i64 t.size)).set (i := 1) (v := .float .f32 t.step)).set (i := 2) (v := .float .f32 t.lit.r)).set (i := 3) (v := .float .f32 t.lit.g)).set (i := 4) (v := .float .f32 t.lit.b)).set (i := 5) (v := .slice a7 N' ca7)).set (i := 6) (v := .int .i64 t.kind)).set (i := 7) (v := .complex .f32 t.g1 t.g2)).set (i := 8) (v := .float .f32 0)).set (i := 9) (v := .slice b7 M' cb7)).set (i := 10) (v := .int .i64 t.ticks)).set (i := 11) (v := .slice l7 (K + 1) cl7); have e0 := RS.cell 0; have e1 := RS.cell 1; have e2 := RS.cell 2; have e3 := RS.cell 3; have e4 := RS.cell 4; have e5 := RS.cell 5; have e6 := RS.cell 6; have e7 := RS.cell 7; have e8 := RS.cell 8; have e9 := RS.cell 9; have e10 := RS.cell 10; have e11 := RS.cell 11; simp only [List.setIfInBounds_toArray, List.set_cons_zero, List.set_cons_succ, List.getElem?_toArray, List.getElem?_cons_zero, List.getElem?_cons_succ] at e0 e1 e2 e3 e4 e5 e6 e7 e8 e9 e10 e11)
    clear HR
    (have E0 := Lib.hid e0; have E1 := Lib.hid e1; have E2 := Lib.hid e2; have E3 := Lib.hid e3; have E4 := Lib.hid e4; have E5 := Lib.hid e5; have E6 := Lib.hid e6; have E7 := Lib.hid e7; have E8 := Lib.hid e8; have E9 := Lib.hid e9; have E10 := Lib.hid e10; have E11 := Lib.hid e11; clear RS e0 e1 e2 e3 e4 e5 e6 e7 e8 e9 e10 e11)
    go_wp2_with fail
    (have e0 := E0.out; have e1 := E1.out; have e2 := E2.out; have e3 := E3.out; have e4 := E4.out; have e5 := E5.out; have e6 := E6.out; have e7 := E7.out; have e8 := E8.out; have e9 := E9.out; have e10 := E10.out; have e11 := E11.out)
    have hB := F8.out.below
    refine bodyPost_ret (v := .tuple #[.agg #[.int .i64 t.size, .float .f32 t.step, .float .f32 t.lit.r, .float .f32 t.lit.g, .float .f32 t.lit.b, .slice a7 N' ca7, .int .i64 t.kind, .complex .f32 t.g1 t.g2, .float .f32 0, .slice b7 M' cb7, .int .i64 t.ticks, .slice l7 (K + 1) cl7], .bool true]) (by simp [results, Tryz.results9, go_sem, e0, e1, e2, e3, e4, e5, e6, e7, e8, e9, e10, e11]) rfl ⟨a7, b7, l7, ca7, cb7, cl7, ⟨rfl, ?_, ?_⟩⟩
    · exact I8.out.grownAt (grownBy_set (grownBy_set (grownBy_set (grownBy_set (grownBy_set (grownBy_set (grownBy_set (grownBy_set (grownBy_set (grownBy_set (grownBy_set (grownBy_set (grownBy_refl _ _))))))))))))) q1
    · iterate 12 (refine Below.setCell ?_ (by dsimp only; omega) _)
      exact hB⟩
end Go.Proofs.YtfdgijmmgllmgaaGreat
