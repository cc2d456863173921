/-
  The call of FnMirrorsAgain returns true and writes nothing that was there.
-/
import Derived.Test.YtfdgijmmgllmgaaGreatR43
namespace Go.Proofs.YtfdgijmmgllmgaaGreat.wFnMirrorsAgain
open Go.ChangeShapes Go.WideShapes Go.ChangeAt Go.RowKit Go.Joins
set_option linter.unusedSimpArgs false
set_option linter.unusedVariables false
set_option maxRecDepth 100000
attribute [local go_sem] store_f
open Ieee Go.Lib
attribute [local go_sem] store_c run_equalIn_c run_equalIn_g
structure Bx (w W : World) (S : Shw) (x : Evw) (m q : Nat) (a1 b1 l1 : Option Addr) (ca1 cb1 cl1 : Nat) : Prop where
  s : Blk W m #[.int .i64 S.w.size, .float .f32 S.w.step, .float .f32 S.w.lit.r, .float .f32 S.w.lit.g, .float .f32 S.w.lit.b, .slice a1 S.bds.length ca1, .int .i64 S.w.kind, .complex .f32 S.w.g1 S.w.g2, .float .f32 0, .slice b1 S.bds.length cb1, .int .i64 S.w.ticks, .slice l1 S.log.length cl1] 34
  e : Blk W (m + 1) #[.int .i64 x.kind, .int .i64 x.n, .complex .f32 x.z1 x.z2, .complex .f32 x.s.a1 x.s.a2, .complex .f32 x.s.b1 x.s.b2, .complex .f32 x.s.c1 x.s.c2, .float .f32 x.s.r, .float .f32 x.s.g, .float .f32 x.s.b, .float .f32 x.s.k, .float .f32 x.l.r, .float .f32 x.l.g, .float .f32 x.l.b] 38
  l : Blk W q #[.int .i64 3, .int .i64 0, .complex .f32 0 0, .complex .f32 0 0, .complex .f32 0 0, .complex .f32 0 0, .float .f32 0, .float .f32 0, .float .f32 0, .float .f32 0, .float .f32 1056964608, .float .f32 0, .float .f32 1048576000] 38
  inn : ShoIn W S.w a1 b1 l1
  below : Below w.heap.size w W
theorem Bx.mono {w W W1 : World} {S : Shw} {x : Evw} {m q : Nat} {a1 b1 l1 : Option Addr} {ca1 cb1 cl1 : Nat} (h : Bx w W S x m q a1 b1 l1 ca1 cb1 cl1) (hb : Below W.heap.size W W1) : Bx w W1 S x m q a1 b1 l1 ca1 cb1 cl1 :=
  ⟨h.s.below hb, h.e.below hb, h.l.below hb, h.inn.below hb, h.below.trans (hb.mono h.below.size)⟩
theorem Bx.alloc {w W : World} {S : Shw} {x : Evw} {m q : Nat} {a1 b1 l1 : Option Addr} {ca1 cb1 cl1 : Nat} {o : Obj} (h : Bx w W S x m q a1 b1 l1 ca1 cb1 cl1) : Bx w (W.alloc o) S x m q a1 b1 l1 ca1 cb1 cl1 :=
  h.mono ((Below.refl _ _).alloc (Nat.le_refl _) _)
theorem evs_two {W : World} {P T : Nat} {x y : Evw} {cs : Array Value} (h : Blk W P cs T) (hcs : cs.toList = evCells [x, y]) : EvsAt W (some ⟨P, 0, Option.none⟩) [x, y] :=
  .inr ⟨P, 0, rfl, fun j u hj => by rw [Nat.zero_add, h.cell j]; rw [← hcs] at hj; simpa using hj⟩
set_option maxHeartbeats 64000000 in
theorem walk (a : Option Addr) (len cap : Nat) (bs : List Int) (w : World) (hrow : ByteRow w w.heap.size a len bs) :
    Calls Tryz.prog 5 #[.slice a len cap] w fun e w' => e = .returned (.bool true) ∧ Below w.heap.size w w' := by
  by_cases hl : len ≤ 4096
  · go_enter Tryz.func5, Tryz.ntmps5
    go_wp2_with fail
    refine (big_no _ _ _ _ hl).mono ?_
    rintro e w0 ⟨rfl, rfl⟩
    go_wp2_with fail
    refine (drawShow_s a len cap bs _ hrow hl).mono ?_
    rintro e w1 ⟨S, x, a1, b1, l1, ca1, cb1, cl1, ⟨rfl, told, ok, hlen, hcost, hinn, hb1, _, _⟩⟩
    obtain ⟨LT, KT, M0⟩ := mg0_of told hcost hlen
    have HMG : Hid (x.isLight = false → ((∃ A L n kA kB z m, Mg2 S x A L n kA kB z m) ∨ (∃ A n kA, Mg1 S x A n kA))) := fun h => mg_of told ok hcost hlen h
    have HK := Lib.hid (isLight_kind x)
    have D := M0.d
    have SM := M0.st
    have B0 := Lib.hid hb1
    have I0 := Lib.hid hinn
    have s0 := hb1.size
    clear told ok hlen hcost hinn hb1 hrow M0
    go_wp2_with fail
    generalize hV : (w1.alloc (.cells #[.int .i64 S.w.size, .float .f32 S.w.step, .float .f32 S.w.lit.r, .float .f32 S.w.lit.g, .float .f32 S.w.lit.b, .slice a1 S.bds.length ca1, .int .i64 S.w.kind, .complex .f32 S.w.g1 S.w.g2, .float .f32 0, .slice b1 S.bds.length cb1, .int .i64 S.w.ticks, .slice l1 S.log.length cl1] 34)).alloc (.cells #[.int .i64 x.w.kind, .int .i64 x.w.n, .complex .f32 x.w.z1 x.w.z2, .complex .f32 x.w.s.a1 x.w.s.a2, .complex .f32 x.w.s.b1 x.w.s.b2, .complex .f32 x.w.s.c1 x.w.s.c2, .float .f32 x.w.s.r, .float .f32 x.w.s.g, .float .f32 x.w.s.b, .float .f32 x.w.s.k, .float .f32 x.w.l.r, .float .f32 x.w.l.g, .float .f32 x.w.l.b] 38) = V
    have M1 : Hid (Blk V w1.heap.size #[.int .i64 S.w.size, .float .f32 S.w.step, .float .f32 S.w.lit.r, .float .f32 S.w.lit.g, .float .f32 S.w.lit.b, .slice a1 S.bds.length ca1, .int .i64 S.w.kind, .complex .f32 S.w.g1 S.w.g2, .float .f32 0, .slice b1 S.bds.length cb1, .int .i64 S.w.ticks, .slice l1 S.log.length cl1] 34) := by rw [← hV]; exact (Blk.new _ _ _).alloc
    have E1 : Hid (Blk V (w1.heap.size + 1) #[.int .i64 x.w.kind, .int .i64 x.w.n, .complex .f32 x.w.z1 x.w.z2, .complex .f32 x.w.s.a1 x.w.s.a2, .complex .f32 x.w.s.b1 x.w.s.b2, .complex .f32 x.w.s.c1 x.w.s.c2, .float .f32 x.w.s.r, .float .f32 x.w.s.g, .float .f32 x.w.s.b, .float .f32 x.w.s.k, .float .f32 x.w.l.r, .float .f32 x.w.l.g, .float .f32 x.w.l.b] 38) := by rw [← hV]; exact Blk.newAt (by simp)
    have I1 : Hid (ShoIn V S.w a1 b1 l1) := by rw [← hV]; exact I0.out.alloc.alloc
    have B1 : Hid (Below w.heap.size w V) := by rw [← hV]; exact (B0.out.alloc s0 _).alloc (by simp; omega) _
    clear hV B0 I0 s0
    generalize w1.heap.size = m at *
    refine (D.call _ _ _ _ _ _ _ I1.out).mono ?_
    rintro e w2 ⟨a2, b2, l2, ca2, cb2, cl2, ⟨rfl, hI2, hb⟩⟩
    have M2 := Lib.hid (M1.out.below hb)
    have E2 := Lib.hid (E1.out.below hb)
    have I2 := Lib.hid (I1.out.below hb)
    have J2 := Lib.hid (bwIn_of_lies hI2.bd)
    have B2 : Hid (Below w.heap.size w w2) := B1.out.trans (hb.mono B1.out.size)
    clear hI2 hb M1 E1 I1 B1 D
    have s2 := B2.out.size
    have TB : Hid (Blk ((w2.alloc (.cells #[.int .i64 S.w.size, .float .f32 S.w.step, .float .f32 S.w.lit.r, .float .f32 S.w.lit.g, .float .f32 S.w.lit.b, .slice a2 S.bds.length ca2, .int .i64 S.w.kind, .complex .f32 S.w.g1 S.w.g2, .float .f32 0, .slice b2 S.bds.length cb2, .int .i64 S.w.ticks, .slice l2 KT cl2] 34)).alloc (.cells #[.int .i64 3, .int .i64 0, .complex .f32 0 0, .complex .f32 0 0, .complex .f32 0 0, .complex .f32 0 0, .float .f32 0, .float .f32 0, .float .f32 0, .float .f32 0, .float .f32 1056964608, .float .f32 0, .float .f32 1048576000] 38)) w2.heap.size #[.int .i64 S.w.size, .float .f32 S.w.step, .float .f32 S.w.lit.r, .float .f32 S.w.lit.g, .float .f32 S.w.lit.b, .slice a2 S.bds.length ca2, .int .i64 S.w.kind, .complex .f32 S.w.g1 S.w.g2, .float .f32 0, .slice b2 S.bds.length cb2, .int .i64 S.w.ticks, .slice l2 KT cl2] 34) := (Blk.new _ _ _).alloc
    have X2 : Hid (Bx w ((w2.alloc (.cells #[.int .i64 S.w.size, .float .f32 S.w.step, .float .f32 S.w.lit.r, .float .f32 S.w.lit.g, .float .f32 S.w.lit.b, .slice a2 S.bds.length ca2, .int .i64 S.w.kind, .complex .f32 S.w.g1 S.w.g2, .float .f32 0, .slice b2 S.bds.length cb2, .int .i64 S.w.ticks, .slice l2 KT cl2] 34)).alloc (.cells #[.int .i64 3, .int .i64 0, .complex .f32 0 0, .complex .f32 0 0, .complex .f32 0 0, .complex .f32 0 0, .float .f32 0, .float .f32 0, .float .f32 0, .float .f32 0, .float .f32 1056964608, .float .f32 0, .float .f32 1048576000] 38)) S x.w m (w2.heap.size + 1) a1 b1 l1 ca1 cb1 cl1) := ⟨M2.out.alloc.alloc, E2.out.alloc.alloc, Blk.newAt (by simp), I2.out.alloc.alloc, (B2.out.alloc s2 _).alloc (by simp; omega) _⟩
    have JT : Hid (BwIn ((w2.alloc (.cells #[.int .i64 S.w.size, .float .f32 S.w.step, .float .f32 S.w.lit.r, .float .f32 S.w.lit.g, .float .f32 S.w.lit.b, .slice a2 S.bds.length ca2, .int .i64 S.w.kind, .complex .f32 S.w.g1 S.w.g2, .float .f32 0, .slice b2 S.bds.length cb2, .int .i64 S.w.ticks, .slice l2 KT cl2] 34)).alloc (.cells #[.int .i64 3, .int .i64 0, .complex .f32 0 0, .complex .f32 0 0, .complex .f32 0 0, .complex .f32 0 0, .float .f32 0, .float .f32 0, .float .f32 0, .float .f32 0, .float .f32 1056964608, .float .f32 0, .float .f32 1048576000] 38)) b2 S.w.bds) := J2.out.alloc.alloc
    (obtain ⟨m0, m1, m2, m3, m4, m5, m6, m7, m8, m9, m10, m11⟩ := blk12 (M2.out))
    have lm := M2.out.lt
    go_upto_region 6 with fail
    clear m0 m1 m2 m3 m4 m5 m6 m7 m8 m9 m10 m11 lm M2 E2 I2 J2 B2
    generalize (w2.alloc (.cells #[.int .i64 S.w.size, .float .f32 S.w.step, .float .f32 S.w.lit.r, .float .f32 S.w.lit.g, .float .f32 S.w.lit.b, .slice a2 S.bds.length ca2, .int .i64 S.w.kind, .complex .f32 S.w.g1 S.w.g2, .float .f32 0, .slice b2 S.bds.length cb2, .int .i64 S.w.ticks, .slice l2 KT cl2] 34)).alloc (.cells #[.int .i64 3, .int .i64 0, .complex .f32 0 0, .complex .f32 0 0, .complex .f32 0 0, .complex .f32 0 0, .float .f32 0, .float .f32 0, .float .f32 0, .float .f32 0, .float .f32 1056964608, .float .f32 0, .float .f32 1048576000] 38) = V2 at *
    generalize w2.heap.size + 1 = q at *
    generalize w2.heap.size = n at *
    (obtain ⟨m0, m1, m2, m3, m4, m5, m6, m7, m8, m9, m10, m11⟩ := blk12 (X2.out.s))
    (obtain ⟨t0, t1, t2, t3, t4, t5, t6, t7, t8, t9, t10, t11⟩ := blk12 (TB.out))
    have lm := X2.out.s.lt
    have lt := TB.out.lt
    go_wp2_with fail
    refine (SM.call _ _ _ _ _ JT.out (bwIn_of_lies X2.out.inn.bd)).mono ?_
    rintro e w3 ⟨rfl, hb⟩
    have X3 := Lib.hid (X2.out.mono hb)
    have T3 := Lib.hid (TB.out.below hb)
    have J3 : Hid (BwIn w3 b2 S.w.bds) := JT.out.below hb
    clear hb X2 TB JT m0 m1 m2 m3 m4 m5 m6 m7 m8 m9 m10 m11 lm t0 t1 t2 t3 t4 t5 t6 t7 t8 t9 t10 t11 lt
    (obtain ⟨c0, c1, c2, c3, c4, c5, c6, c7, c8, c9, c10, c11, c12⟩ := blk13 (X3.out.e))
    have le := X3.out.e.lt
    cases hlight : x.isLight
    · have hk : ¬ x.w.kind = 3 := fun h => by have := HK.out.1 h; rw [hlight] at this; cases this
      have HG := Lib.hid (HMG.out hlight)
      clear HMG HK hlight SM
      (obtain ⟨m0, m1, m2, m3, m4, m5, m6, m7, m8, m9, m10, m11⟩ := blk12 (X3.out.s))
      (obtain ⟨d0, d1, d2, d3, d4, d5, d6, d7, d8, d9, d10, d11, d12⟩ := blk13 (X3.out.l))
      have lm := X3.out.s.lt
      have ll := X3.out.l.lt
      rcases HG.out with ⟨A, L, na, kA, kB, z, mm, K⟩ | ⟨A, na, kA, K⟩
      · have RA := K.a
        have RS := K.s
        have RB := K.b
        have SA := K.sa
        have SB := K.sb
        have SP := Lib.hid K.sp
        have ST := K.st
        clear HG K
        go_wp2_with fail
        have XV := Lib.hid (X3.out.alloc (o := .cells #[.int .i64 3, .int .i64 0, .complex .f32 0 0, .complex .f32 0 0, .complex .f32 0 0, .complex .f32 0 0, .float .f32 0, .float .f32 0, .float .f32 0, .float .f32 0, .float .f32 1056964608, .float .f32 0, .float .f32 1048576000, .int .i64 x.w.kind, .int .i64 x.w.n, .complex .f32 x.w.z1 x.w.z2, .complex .f32 x.w.s.a1 x.w.s.a2, .complex .f32 x.w.s.b1 x.w.s.b2, .complex .f32 x.w.s.c1 x.w.s.c2, .float .f32 x.w.s.r, .float .f32 x.w.s.g, .float .f32 x.w.s.b, .float .f32 x.w.s.k, .float .f32 x.w.l.r, .float .f32 x.w.l.g, .float .f32 x.w.l.b] 38))
        have EV : EvsAt (w3.alloc (.cells #[.int .i64 3, .int .i64 0, .complex .f32 0 0, .complex .f32 0 0, .complex .f32 0 0, .complex .f32 0 0, .float .f32 0, .float .f32 0, .float .f32 0, .float .f32 0, .float .f32 1056964608, .float .f32 0, .float .f32 1048576000, .int .i64 x.w.kind, .int .i64 x.w.n, .complex .f32 x.w.z1 x.w.z2, .complex .f32 x.w.s.a1 x.w.s.a2, .complex .f32 x.w.s.b1 x.w.s.b2, .complex .f32 x.w.s.c1 x.w.s.c2, .float .f32 x.w.s.r, .float .f32 x.w.s.g, .float .f32 x.w.s.b, .float .f32 x.w.s.k, .float .f32 x.w.l.r, .float .f32 x.w.l.g, .float .f32 x.w.l.b] 38)) (some ⟨w3.heap.size, 0, Option.none⟩) [⟨3, 0, 0, 0, shd0, lightQ⟩, x.w] := evs_two (Blk.new _ _ _) rfl
        refine (RA.call _ _ _ _ _ _ _ _ _ XV.out.inn EV).mono ?_
        rintro e u4 ⟨a4, b4, l4, ca4, cb4, cl4, ⟨rfl, hA, hb⟩⟩
        have XU := Lib.hid (XV.out.mono hb)
        clear XV EV RA X3 m0 m1 m2 m3 m4 m5 m6 m7 m8 m9 m10 m11 c0 c1 c2 c3 c4 c5 c6 c7 c8 c9 c10 c11 c12 d0 d1 d2 d3 d4 d5 d6 d7 d8 d9 d10 d11 d12 lm le ll
        have X4 : Hid (Bx w (u4.alloc (.cells #[.int .i64 A.size, .float .f32 A.step, .float .f32 A.lit.r, .float .f32 A.lit.g, .float .f32 A.lit.b, .slice a4 na ca4, .int .i64 A.kind, .complex .f32 A.g1 A.g2, .float .f32 0, .slice b4 na cb4, .int .i64 A.ticks, .slice l4 kA cl4] 34)) S x.w m q a1 b1 l1 ca1 cb1 cl1) := XU.out.alloc
        have AB : Hid (Blk (u4.alloc (.cells #[.int .i64 A.size, .float .f32 A.step, .float .f32 A.lit.r, .float .f32 A.lit.g, .float .f32 A.lit.b, .slice a4 na ca4, .int .i64 A.kind, .complex .f32 A.g1 A.g2, .float .f32 0, .slice b4 na cb4, .int .i64 A.ticks, .slice l4 kA cl4] 34)) u4.heap.size #[.int .i64 A.size, .float .f32 A.step, .float .f32 A.lit.r, .float .f32 A.lit.g, .float .f32 A.lit.b, .slice a4 na ca4, .int .i64 A.kind, .complex .f32 A.g1 A.g2, .float .f32 0, .slice b4 na cb4, .int .i64 A.ticks, .slice l4 kA cl4] 34) := Blk.new _ _ _
        have AI : Hid (ShoIn (u4.alloc (.cells #[.int .i64 A.size, .float .f32 A.step, .float .f32 A.lit.r, .float .f32 A.lit.g, .float .f32 A.lit.b, .slice a4 na ca4, .int .i64 A.kind, .complex .f32 A.g1 A.g2, .float .f32 0, .slice b4 na cb4, .int .i64 A.ticks, .slice l4 kA cl4] 34)) A a4 b4 l4) := hA.alloc
        clear hb hA XU
        go_upto_region 9 with fail
        generalize hW : u4.alloc (.cells #[.int .i64 A.size, .float .f32 A.step, .float .f32 A.lit.r, .float .f32 A.lit.g, .float .f32 A.lit.b, .slice a4 na ca4, .int .i64 A.kind, .complex .f32 A.g1 A.g2, .float .f32 0, .slice b4 na cb4, .int .i64 A.ticks, .slice l4 kA cl4] 34) = w4 at *
        generalize u4.heap.size = pa at *
        clear hW
        (obtain ⟨m0, m1, m2, m3, m4, m5, m6, m7, m8, m9, m10, m11⟩ := blk12 (X4.out.s))
        (obtain ⟨c0, c1, c2, c3, c4, c5, c6, c7, c8, c9, c10, c11, c12⟩ := blk13 (X4.out.e))
        (obtain ⟨d0, d1, d2, d3, d4, d5, d6, d7, d8, d9, d10, d11, d12⟩ := blk13 (X4.out.l))
        have lm := X4.out.s.lt
        have le := X4.out.e.lt
        have ll := X4.out.l.lt
        go_wp2_with fail
        have XV := Lib.hid (X4.out.alloc (o := .cells #[.int .i64 3, .int .i64 0, .complex .f32 0 0, .complex .f32 0 0, .complex .f32 0 0, .complex .f32 0 0, .float .f32 0, .float .f32 0, .float .f32 0, .float .f32 0, .float .f32 1056964608, .float .f32 0, .float .f32 1048576000, .int .i64 x.w.kind, .int .i64 x.w.n, .complex .f32 x.w.z1 x.w.z2, .complex .f32 x.w.s.a1 x.w.s.a2, .complex .f32 x.w.s.b1 x.w.s.b2, .complex .f32 x.w.s.c1 x.w.s.c2, .float .f32 x.w.s.r, .float .f32 x.w.s.g, .float .f32 x.w.s.b, .float .f32 x.w.s.k, .float .f32 x.w.l.r, .float .f32 x.w.l.g, .float .f32 x.w.l.b] 38))
        have EV : EvsAt (w4.alloc (.cells #[.int .i64 3, .int .i64 0, .complex .f32 0 0, .complex .f32 0 0, .complex .f32 0 0, .complex .f32 0 0, .float .f32 0, .float .f32 0, .float .f32 0, .float .f32 0, .float .f32 1056964608, .float .f32 0, .float .f32 1048576000, .int .i64 x.w.kind, .int .i64 x.w.n, .complex .f32 x.w.z1 x.w.z2, .complex .f32 x.w.s.a1 x.w.s.a2, .complex .f32 x.w.s.b1 x.w.s.b2, .complex .f32 x.w.s.c1 x.w.s.c2, .float .f32 x.w.s.r, .float .f32 x.w.s.g, .float .f32 x.w.s.b, .float .f32 x.w.s.k, .float .f32 x.w.l.r, .float .f32 x.w.l.g, .float .f32 x.w.l.b] 38)) (some ⟨w4.heap.size, 0, Option.none⟩) [⟨3, 0, 0, 0, shd0, lightQ⟩, x.w] := evs_two (Blk.new _ _ _) rfl
        refine (RS.call _ _ _ _ _ _ _ _ _ XV.out.inn EV).mono ?_
        rintro e u5 ⟨a5, b5, l5, ca5, cb5, cl5, ⟨rfl, hA, hb⟩⟩
        have XU := Lib.hid (XV.out.mono hb)
        have AB1 := Lib.hid ((AB.out.alloc (o := .cells #[.int .i64 3, .int .i64 0, .complex .f32 0 0, .complex .f32 0 0, .complex .f32 0 0, .complex .f32 0 0, .float .f32 0, .float .f32 0, .float .f32 0, .float .f32 0, .float .f32 1056964608, .float .f32 0, .float .f32 1048576000, .int .i64 x.w.kind, .int .i64 x.w.n, .complex .f32 x.w.z1 x.w.z2, .complex .f32 x.w.s.a1 x.w.s.a2, .complex .f32 x.w.s.b1 x.w.s.b2, .complex .f32 x.w.s.c1 x.w.s.c2, .float .f32 x.w.s.r, .float .f32 x.w.s.g, .float .f32 x.w.s.b, .float .f32 x.w.s.k, .float .f32 x.w.l.r, .float .f32 x.w.l.g, .float .f32 x.w.l.b] 38)).below hb)
        have AI1 := Lib.hid ((AI.out.alloc (o := .cells #[.int .i64 3, .int .i64 0, .complex .f32 0 0, .complex .f32 0 0, .complex .f32 0 0, .complex .f32 0 0, .float .f32 0, .float .f32 0, .float .f32 0, .float .f32 0, .float .f32 1056964608, .float .f32 0, .float .f32 1048576000, .int .i64 x.w.kind, .int .i64 x.w.n, .complex .f32 x.w.z1 x.w.z2, .complex .f32 x.w.s.a1 x.w.s.a2, .complex .f32 x.w.s.b1 x.w.s.b2, .complex .f32 x.w.s.c1 x.w.s.c2, .float .f32 x.w.s.r, .float .f32 x.w.s.g, .float .f32 x.w.s.b, .float .f32 x.w.s.k, .float .f32 x.w.l.r, .float .f32 x.w.l.g, .float .f32 x.w.l.b] 38)).below hb)
        clear AB AI
        clear XV EV RS X4 m0 m1 m2 m3 m4 m5 m6 m7 m8 m9 m10 m11 c0 c1 c2 c3 c4 c5 c6 c7 c8 c9 c10 c11 c12 d0 d1 d2 d3 d4 d5 d6 d7 d8 d9 d10 d11 d12 lm le ll
        have X5 : Hid (Bx w (u5.alloc (.cells #[.int .i64 A.size, .float .f32 A.step, .float .f32 A.lit.r, .float .f32 A.lit.g, .float .f32 A.lit.b, .slice a5 na ca5, .int .i64 A.kind, .complex .f32 A.g1 A.g2, .float .f32 0, .slice b5 na cb5, .int .i64 A.ticks, .slice l5 kA cl5] 34)) S x.w m q a1 b1 l1 ca1 cb1 cl1) := XU.out.alloc
        have AB : Hid (Blk (u5.alloc (.cells #[.int .i64 A.size, .float .f32 A.step, .float .f32 A.lit.r, .float .f32 A.lit.g, .float .f32 A.lit.b, .slice a5 na ca5, .int .i64 A.kind, .complex .f32 A.g1 A.g2, .float .f32 0, .slice b5 na cb5, .int .i64 A.ticks, .slice l5 kA cl5] 34)) pa #[.int .i64 A.size, .float .f32 A.step, .float .f32 A.lit.r, .float .f32 A.lit.g, .float .f32 A.lit.b, .slice a4 na ca4, .int .i64 A.kind, .complex .f32 A.g1 A.g2, .float .f32 0, .slice b4 na cb4, .int .i64 A.ticks, .slice l4 kA cl4] 34) := AB1.out.alloc
        have AI : Hid (ShoIn (u5.alloc (.cells #[.int .i64 A.size, .float .f32 A.step, .float .f32 A.lit.r, .float .f32 A.lit.g, .float .f32 A.lit.b, .slice a5 na ca5, .int .i64 A.kind, .complex .f32 A.g1 A.g2, .float .f32 0, .slice b5 na cb5, .int .i64 A.ticks, .slice l5 kA cl5] 34)) A a4 b4 l4) := AI1.out.alloc
        clear AB1 AI1
        clear hb hA XU
        go_upto_region 10 with fail
        generalize hW : u5.alloc (.cells #[.int .i64 A.size, .float .f32 A.step, .float .f32 A.lit.r, .float .f32 A.lit.g, .float .f32 A.lit.b, .slice a5 na ca5, .int .i64 A.kind, .complex .f32 A.g1 A.g2, .float .f32 0, .slice b5 na cb5, .int .i64 A.ticks, .slice l5 kA cl5] 34) = w5 at *
        clear hW
        (obtain ⟨m0, m1, m2, m3, m4, m5, m6, m7, m8, m9, m10, m11⟩ := blk12 (X5.out.s))
        (obtain ⟨c0, c1, c2, c3, c4, c5, c6, c7, c8, c9, c10, c11, c12⟩ := blk13 (X5.out.e))
        (obtain ⟨d0, d1, d2, d3, d4, d5, d6, d7, d8, d9, d10, d11, d12⟩ := blk13 (X5.out.l))
        have lm := X5.out.s.lt
        have le := X5.out.e.lt
        have ll := X5.out.l.lt
        go_upto_region 12 with fail
        go_wp2_with fail
        have XV := Lib.hid (X5.out.alloc (o := .cells #[.int .i64 x.w.kind, .int .i64 x.w.n, .complex .f32 x.w.z1 x.w.z2, .complex .f32 x.w.s.a1 x.w.s.a2, .complex .f32 x.w.s.b1 x.w.s.b2, .complex .f32 x.w.s.c1 x.w.s.c2, .float .f32 x.w.s.r, .float .f32 x.w.s.g, .float .f32 x.w.s.b, .float .f32 x.w.s.k, .float .f32 x.w.l.r, .float .f32 x.w.l.g, .float .f32 x.w.l.b, .int .i64 3, .int .i64 0, .complex .f32 0 0, .complex .f32 0 0, .complex .f32 0 0, .complex .f32 0 0, .float .f32 0, .float .f32 0, .float .f32 0, .float .f32 0, .float .f32 1056964608, .float .f32 0, .float .f32 1048576000] 38))
        have EV : EvsAt (w5.alloc (.cells #[.int .i64 x.w.kind, .int .i64 x.w.n, .complex .f32 x.w.z1 x.w.z2, .complex .f32 x.w.s.a1 x.w.s.a2, .complex .f32 x.w.s.b1 x.w.s.b2, .complex .f32 x.w.s.c1 x.w.s.c2, .float .f32 x.w.s.r, .float .f32 x.w.s.g, .float .f32 x.w.s.b, .float .f32 x.w.s.k, .float .f32 x.w.l.r, .float .f32 x.w.l.g, .float .f32 x.w.l.b, .int .i64 3, .int .i64 0, .complex .f32 0 0, .complex .f32 0 0, .complex .f32 0 0, .complex .f32 0 0, .float .f32 0, .float .f32 0, .float .f32 0, .float .f32 0, .float .f32 1056964608, .float .f32 0, .float .f32 1048576000] 38)) (some ⟨w5.heap.size, 0, Option.none⟩) [x.w, ⟨3, 0, 0, 0, shd0, lightQ⟩] := evs_two (Blk.new _ _ _) rfl
        refine (RB.call _ _ _ _ _ _ _ _ _ XV.out.inn EV).mono ?_
        rintro e u6 ⟨a6, b6, l6, ca6, cb6, cl6, ⟨rfl, hA, hb⟩⟩
        have XU := Lib.hid (XV.out.mono hb)
        have AB1 := Lib.hid ((AB.out.alloc (o := .cells #[.int .i64 x.w.kind, .int .i64 x.w.n, .complex .f32 x.w.z1 x.w.z2, .complex .f32 x.w.s.a1 x.w.s.a2, .complex .f32 x.w.s.b1 x.w.s.b2, .complex .f32 x.w.s.c1 x.w.s.c2, .float .f32 x.w.s.r, .float .f32 x.w.s.g, .float .f32 x.w.s.b, .float .f32 x.w.s.k, .float .f32 x.w.l.r, .float .f32 x.w.l.g, .float .f32 x.w.l.b, .int .i64 3, .int .i64 0, .complex .f32 0 0, .complex .f32 0 0, .complex .f32 0 0, .complex .f32 0 0, .float .f32 0, .float .f32 0, .float .f32 0, .float .f32 0, .float .f32 1056964608, .float .f32 0, .float .f32 1048576000] 38)).below hb)
        have AI1 := Lib.hid ((AI.out.alloc (o := .cells #[.int .i64 x.w.kind, .int .i64 x.w.n, .complex .f32 x.w.z1 x.w.z2, .complex .f32 x.w.s.a1 x.w.s.a2, .complex .f32 x.w.s.b1 x.w.s.b2, .complex .f32 x.w.s.c1 x.w.s.c2, .float .f32 x.w.s.r, .float .f32 x.w.s.g, .float .f32 x.w.s.b, .float .f32 x.w.s.k, .float .f32 x.w.l.r, .float .f32 x.w.l.g, .float .f32 x.w.l.b, .int .i64 3, .int .i64 0, .complex .f32 0 0, .complex .f32 0 0, .complex .f32 0 0, .complex .f32 0 0, .float .f32 0, .float .f32 0, .float .f32 0, .float .f32 0, .float .f32 1056964608, .float .f32 0, .float .f32 1048576000] 38)).below hb)
        clear AB AI
        clear XV EV RB X5 m0 m1 m2 m3 m4 m5 m6 m7 m8 m9 m10 m11 c0 c1 c2 c3 c4 c5 c6 c7 c8 c9 c10 c11 c12 d0 d1 d2 d3 d4 d5 d6 d7 d8 d9 d10 d11 d12 lm le ll
        have X6 : Hid (Bx w (u6.alloc (.cells #[.int .i64 A.size, .float .f32 A.step, .float .f32 A.lit.r, .float .f32 A.lit.g, .float .f32 A.lit.b, .slice a6 na ca6, .int .i64 A.kind, .complex .f32 A.g1 A.g2, .float .f32 0, .slice b6 na cb6, .int .i64 A.ticks, .slice l6 kB cl6] 34)) S x.w m q a1 b1 l1 ca1 cb1 cl1) := XU.out.alloc
        have AB : Hid (Blk (u6.alloc (.cells #[.int .i64 A.size, .float .f32 A.step, .float .f32 A.lit.r, .float .f32 A.lit.g, .float .f32 A.lit.b, .slice a6 na ca6, .int .i64 A.kind, .complex .f32 A.g1 A.g2, .float .f32 0, .slice b6 na cb6, .int .i64 A.ticks, .slice l6 kB cl6] 34)) pa #[.int .i64 A.size, .float .f32 A.step, .float .f32 A.lit.r, .float .f32 A.lit.g, .float .f32 A.lit.b, .slice a4 na ca4, .int .i64 A.kind, .complex .f32 A.g1 A.g2, .float .f32 0, .slice b4 na cb4, .int .i64 A.ticks, .slice l4 kA cl4] 34) := AB1.out.alloc
        have AI : Hid (ShoIn (u6.alloc (.cells #[.int .i64 A.size, .float .f32 A.step, .float .f32 A.lit.r, .float .f32 A.lit.g, .float .f32 A.lit.b, .slice a6 na ca6, .int .i64 A.kind, .complex .f32 A.g1 A.g2, .float .f32 0, .slice b6 na cb6, .int .i64 A.ticks, .slice l6 kB cl6] 34)) A a4 b4 l4) := AI1.out.alloc
        clear AB1 AI1
        have BBx : Hid (Blk (u6.alloc (.cells #[.int .i64 A.size, .float .f32 A.step, .float .f32 A.lit.r, .float .f32 A.lit.g, .float .f32 A.lit.b, .slice a6 na ca6, .int .i64 A.kind, .complex .f32 A.g1 A.g2, .float .f32 0, .slice b6 na cb6, .int .i64 A.ticks, .slice l6 kB cl6] 34)) u6.heap.size #[.int .i64 A.size, .float .f32 A.step, .float .f32 A.lit.r, .float .f32 A.lit.g, .float .f32 A.lit.b, .slice a6 na ca6, .int .i64 A.kind, .complex .f32 A.g1 A.g2, .float .f32 0, .slice b6 na cb6, .int .i64 A.ticks, .slice l6 kB cl6] 34) := Blk.new _ _ _
        have BI : Hid (ShoIn (u6.alloc (.cells #[.int .i64 A.size, .float .f32 A.step, .float .f32 A.lit.r, .float .f32 A.lit.g, .float .f32 A.lit.b, .slice a6 na ca6, .int .i64 A.kind, .complex .f32 A.g1 A.g2, .float .f32 0, .slice b6 na cb6, .int .i64 A.ticks, .slice l6 kB cl6] 34)) { A with log := L } a6 b6 l6) := hA.alloc
        clear hb hA XU
        go_upto_region 13 with fail
        generalize hW : u6.alloc (.cells #[.int .i64 A.size, .float .f32 A.step, .float .f32 A.lit.r, .float .f32 A.lit.g, .float .f32 A.lit.b, .slice a6 na ca6, .int .i64 A.kind, .complex .f32 A.g1 A.g2, .float .f32 0, .slice b6 na cb6, .int .i64 A.ticks, .slice l6 kB cl6] 34) = w6 at *
        generalize u6.heap.size = pb at *
        clear hW
        (obtain ⟨m0, m1, m2, m3, m4, m5, m6, m7, m8, m9, m10, m11⟩ := blk12 (X6.out.s))
        (obtain ⟨c0, c1, c2, c3, c4, c5, c6, c7, c8, c9, c10, c11, c12⟩ := blk13 (X6.out.e))
        (obtain ⟨d0, d1, d2, d3, d4, d5, d6, d7, d8, d9, d10, d11, d12⟩ := blk13 (X6.out.l))
        have lm := X6.out.s.lt
        have le := X6.out.e.lt
        have ll := X6.out.l.lt
        have B6 := Lib.hid X6.out.below
        clear X6 m0 m1 m2 m3 m4 m5 m6 m7 m8 m9 m10 m11 c0 c1 c2 c3 c4 c5 c6 c7 c8 c9 c10 c11 c12 d0 d1 d2 d3 d4 d5 d6 d7 d8 d9 d10 d11 d12 lm le ll
        (obtain ⟨m0, m1, m2, m3, m4, m5, m6, m7, m8, m9, m10, m11⟩ := blk12 (AB.out))
        have lm := AB.out.lt
        go_wp2_with fail
        refine (SA.call _ _ _ _ _ _ _ AI.out).mono ?_
        rintro e w7 ⟨g7, c7, ⟨rfl, hL7⟩, hb⟩
        have AB7 := Lib.hid (AB.out.below hb)
        have AI7 := Lib.hid (AI.out.below hb)
        have BB7 := Lib.hid (BBx.out.below hb)
        have BI7 := Lib.hid (BI.out.below hb)
        have L7 := Lib.hid hL7
        have B7 : Hid (Below w.heap.size w w7) := B6.out.trans (hb.mono B6.out.size)
        have s7 := B7.out.size
        clear hb hL7 AB AI BBx BI B6 SA m0 m1 m2 m3 m4 m5 m6 m7 m8 m9 m10 m11 lm
        (obtain ⟨m0, m1, m2, m3, m4, m5, m6, m7, m8, m9, m10, m11⟩ := blk12 (BB7.out))
        have lm := BB7.out.lt
        have PA7 : Hid (Blk (w7.alloc (.cells #[.int .i64 z, .slice (some ⟨g7, 0, Option.none⟩) mm.length c7] 52)) w7.heap.size #[.int .i64 z, .slice (some ⟨g7, 0, Option.none⟩) mm.length c7] 52) := Blk.new _ _ _
        have AB8 := Lib.hid (AB7.out.alloc (o := .cells #[.int .i64 z, .slice (some ⟨g7, 0, Option.none⟩) mm.length c7] 52))
        have AI8 := Lib.hid (AI7.out.alloc (o := .cells #[.int .i64 z, .slice (some ⟨g7, 0, Option.none⟩) mm.length c7] 52))
        have BB8 := Lib.hid (BB7.out.alloc (o := .cells #[.int .i64 z, .slice (some ⟨g7, 0, Option.none⟩) mm.length c7] 52))
        have BI8 := Lib.hid (BI7.out.alloc (o := .cells #[.int .i64 z, .slice (some ⟨g7, 0, Option.none⟩) mm.length c7] 52))
        have L8 := Lib.hid (L7.out.alloc (o := .cells #[.int .i64 z, .slice (some ⟨g7, 0, Option.none⟩) mm.length c7] 52))
        have B8 := Lib.hid (B7.out.alloc s7 (.cells #[.int .i64 z, .slice (some ⟨g7, 0, Option.none⟩) mm.length c7] 52))
        go_wp2_with fail
        clear AB7 AI7 BB7 BI7 L7 B7 m0 m1 m2 m3 m4 m5 m6 m7 m8 m9 m10 m11 lm
        generalize w7.alloc (.cells #[.int .i64 z, .slice (some ⟨g7, 0, Option.none⟩) mm.length c7] 52) = W8 at *
        generalize w7.heap.size = p7 at *
        refine (SB.call _ _ _ _ _ _ _ BI8.out).mono ?_
        rintro e w9 ⟨g9, c9, ⟨rfl, hL9⟩, hb⟩
        have AB9 := Lib.hid (AB8.out.below hb)
        have AI9 := Lib.hid (bwIn_of_lies (AI8.out.below hb).bd)
        have BB9 := Lib.hid (BB8.out.below hb)
        have BI9 := Lib.hid (bwIn_of_lies (BI8.out.below hb).bd)
        have L8a := Lib.hid (L8.out.below hb)
        have P8 := Lib.hid (PA7.out.below hb)
        have L9 := Lib.hid hL9
        have B9 : Hid (Below w.heap.size w w9) := B8.out.trans (hb.mono B8.out.size)
        have s9 := B9.out.size
        clear hb hL9 AB8 AI8 BB8 BI8 L8 PA7 B8 SB
        have p0 := Blk.cellAt (i := 0) P8.out rfl
        have p1 := Blk.cellAt (i := 1) P8.out rfl
        simp only [List.getElem_toArray, List.getElem_cons_zero, List.getElem_cons_succ] at p0 p1
        have lp := P8.out.lt
        go_wp2_with fail
        refine ((SP.out _ _ _ _).call _ (Or.inr ⟨g7, 0, rfl, L8a.out.alloc⟩) (Or.inr ⟨g9, 0, rfl, L9.out.alloc⟩)).mono ?_
        rintro e w10 ⟨rfl, hb⟩
        have ABa := Lib.hid (AB9.out.alloc.below hb)
        have AIa : Hid (BwIn w10 b4 A.bds) := AI9.out.alloc.below hb
        have BBa := Lib.hid (BB9.out.alloc.below hb)
        have BIa : Hid (BwIn w10 b6 A.bds) := BI9.out.alloc.below hb
        have B10 : Hid (Below w.heap.size w w10) := (B9.out.alloc s9 _).trans (hb.mono (by simp; omega))
        clear hb AB9 AI9 BB9 BI9 L8a L9 P8 B9 p0 p1 lp SP
        (obtain ⟨m0, m1, m2, m3, m4, m5, m6, m7, m8, m9, m10, m11⟩ := blk12 (ABa.out))
        (obtain ⟨t0, t1, t2, t3, t4, t5, t6, t7, t8, t9, t10, t11⟩ := blk12 (BBa.out))
        have lm := ABa.out.lt
        have lt := BBa.out.lt
        go_wp2_with fail
        refine (ST.call _ _ _ _ _ AIa.out BIa.out).mono ?_
        rintro e w11 ⟨rfl, hb⟩
        have B11 : Hid (Below w.heap.size w w11) := B10.out.trans (hb.mono B10.out.size)
        clear hb ABa AIa BBa BIa B10 m0 m1 m2 m3 m4 m5 m6 m7 m8 m9 m10 m11 t0 t1 t2 t3 t4 t5 t6 t7 t8 t9 t10 t11 lm lt ST
        go_wp2
        go_ret
        exact ⟨rfl, B11.out⟩
      · have RA := K.a
        have RS := K.s
        have RB := K.b
        clear HG K
        go_wp2_with fail
        have XV := Lib.hid (X3.out.alloc (o := .cells #[.int .i64 3, .int .i64 0, .complex .f32 0 0, .complex .f32 0 0, .complex .f32 0 0, .complex .f32 0 0, .float .f32 0, .float .f32 0, .float .f32 0, .float .f32 0, .float .f32 1056964608, .float .f32 0, .float .f32 1048576000, .int .i64 x.w.kind, .int .i64 x.w.n, .complex .f32 x.w.z1 x.w.z2, .complex .f32 x.w.s.a1 x.w.s.a2, .complex .f32 x.w.s.b1 x.w.s.b2, .complex .f32 x.w.s.c1 x.w.s.c2, .float .f32 x.w.s.r, .float .f32 x.w.s.g, .float .f32 x.w.s.b, .float .f32 x.w.s.k, .float .f32 x.w.l.r, .float .f32 x.w.l.g, .float .f32 x.w.l.b] 38))
        have EV : EvsAt (w3.alloc (.cells #[.int .i64 3, .int .i64 0, .complex .f32 0 0, .complex .f32 0 0, .complex .f32 0 0, .complex .f32 0 0, .float .f32 0, .float .f32 0, .float .f32 0, .float .f32 0, .float .f32 1056964608, .float .f32 0, .float .f32 1048576000, .int .i64 x.w.kind, .int .i64 x.w.n, .complex .f32 x.w.z1 x.w.z2, .complex .f32 x.w.s.a1 x.w.s.a2, .complex .f32 x.w.s.b1 x.w.s.b2, .complex .f32 x.w.s.c1 x.w.s.c2, .float .f32 x.w.s.r, .float .f32 x.w.s.g, .float .f32 x.w.s.b, .float .f32 x.w.s.k, .float .f32 x.w.l.r, .float .f32 x.w.l.g, .float .f32 x.w.l.b] 38)) (some ⟨w3.heap.size, 0, Option.none⟩) [⟨3, 0, 0, 0, shd0, lightQ⟩, x.w] := evs_two (Blk.new _ _ _) rfl
        refine (RA.call _ _ _ _ _ _ _ _ _ XV.out.inn EV).mono ?_
        rintro e u4 ⟨a4, b4, l4, ca4, cb4, cl4, ⟨rfl, hA, hb⟩⟩
        have XU := Lib.hid (XV.out.mono hb)
        clear XV EV RA X3 m0 m1 m2 m3 m4 m5 m6 m7 m8 m9 m10 m11 c0 c1 c2 c3 c4 c5 c6 c7 c8 c9 c10 c11 c12 d0 d1 d2 d3 d4 d5 d6 d7 d8 d9 d10 d11 d12 lm le ll
        have X4 : Hid (Bx w (u4.alloc (.cells #[.int .i64 A.size, .float .f32 A.step, .float .f32 A.lit.r, .float .f32 A.lit.g, .float .f32 A.lit.b, .slice a4 na ca4, .int .i64 A.kind, .complex .f32 A.g1 A.g2, .float .f32 0, .slice b4 na cb4, .int .i64 A.ticks, .slice l4 kA cl4] 34)) S x.w m q a1 b1 l1 ca1 cb1 cl1) := XU.out.alloc
        clear hb hA XU
        go_upto_region 9 with fail
        generalize hW : u4.alloc (.cells #[.int .i64 A.size, .float .f32 A.step, .float .f32 A.lit.r, .float .f32 A.lit.g, .float .f32 A.lit.b, .slice a4 na ca4, .int .i64 A.kind, .complex .f32 A.g1 A.g2, .float .f32 0, .slice b4 na cb4, .int .i64 A.ticks, .slice l4 kA cl4] 34) = w4 at *
        clear hW
        (obtain ⟨m0, m1, m2, m3, m4, m5, m6, m7, m8, m9, m10, m11⟩ := blk12 (X4.out.s))
        (obtain ⟨c0, c1, c2, c3, c4, c5, c6, c7, c8, c9, c10, c11, c12⟩ := blk13 (X4.out.e))
        (obtain ⟨d0, d1, d2, d3, d4, d5, d6, d7, d8, d9, d10, d11, d12⟩ := blk13 (X4.out.l))
        have lm := X4.out.s.lt
        have le := X4.out.e.lt
        have ll := X4.out.l.lt
        go_wp2_with fail
        have XV := Lib.hid (X4.out.alloc (o := .cells #[.int .i64 3, .int .i64 0, .complex .f32 0 0, .complex .f32 0 0, .complex .f32 0 0, .complex .f32 0 0, .float .f32 0, .float .f32 0, .float .f32 0, .float .f32 0, .float .f32 1056964608, .float .f32 0, .float .f32 1048576000, .int .i64 x.w.kind, .int .i64 x.w.n, .complex .f32 x.w.z1 x.w.z2, .complex .f32 x.w.s.a1 x.w.s.a2, .complex .f32 x.w.s.b1 x.w.s.b2, .complex .f32 x.w.s.c1 x.w.s.c2, .float .f32 x.w.s.r, .float .f32 x.w.s.g, .float .f32 x.w.s.b, .float .f32 x.w.s.k, .float .f32 x.w.l.r, .float .f32 x.w.l.g, .float .f32 x.w.l.b] 38))
        have EV : EvsAt (w4.alloc (.cells #[.int .i64 3, .int .i64 0, .complex .f32 0 0, .complex .f32 0 0, .complex .f32 0 0, .complex .f32 0 0, .float .f32 0, .float .f32 0, .float .f32 0, .float .f32 0, .float .f32 1056964608, .float .f32 0, .float .f32 1048576000, .int .i64 x.w.kind, .int .i64 x.w.n, .complex .f32 x.w.z1 x.w.z2, .complex .f32 x.w.s.a1 x.w.s.a2, .complex .f32 x.w.s.b1 x.w.s.b2, .complex .f32 x.w.s.c1 x.w.s.c2, .float .f32 x.w.s.r, .float .f32 x.w.s.g, .float .f32 x.w.s.b, .float .f32 x.w.s.k, .float .f32 x.w.l.r, .float .f32 x.w.l.g, .float .f32 x.w.l.b] 38)) (some ⟨w4.heap.size, 0, Option.none⟩) [⟨3, 0, 0, 0, shd0, lightQ⟩, x.w] := evs_two (Blk.new _ _ _) rfl
        refine (RS.call _ _ _ _ _ _ _ _ _ XV.out.inn EV).mono ?_
        rintro e u5 ⟨a5, b5, l5, ca5, cb5, cl5, ⟨rfl, hA, hb⟩⟩
        have XU := Lib.hid (XV.out.mono hb)
        clear XV EV RS X4 m0 m1 m2 m3 m4 m5 m6 m7 m8 m9 m10 m11 c0 c1 c2 c3 c4 c5 c6 c7 c8 c9 c10 c11 c12 d0 d1 d2 d3 d4 d5 d6 d7 d8 d9 d10 d11 d12 lm le ll
        have X5 : Hid (Bx w (u5.alloc (.cells #[.int .i64 A.size, .float .f32 A.step, .float .f32 A.lit.r, .float .f32 A.lit.g, .float .f32 A.lit.b, .slice a5 na ca5, .int .i64 A.kind, .complex .f32 A.g1 A.g2, .float .f32 0, .slice b5 na cb5, .int .i64 A.ticks, .slice l5 kA cl5] 34)) S x.w m q a1 b1 l1 ca1 cb1 cl1) := XU.out.alloc
        clear hb hA XU
        go_upto_region 10 with fail
        generalize hW : u5.alloc (.cells #[.int .i64 A.size, .float .f32 A.step, .float .f32 A.lit.r, .float .f32 A.lit.g, .float .f32 A.lit.b, .slice a5 na ca5, .int .i64 A.kind, .complex .f32 A.g1 A.g2, .float .f32 0, .slice b5 na cb5, .int .i64 A.ticks, .slice l5 kA cl5] 34) = w5 at *
        clear hW
        (obtain ⟨m0, m1, m2, m3, m4, m5, m6, m7, m8, m9, m10, m11⟩ := blk12 (X5.out.s))
        (obtain ⟨c0, c1, c2, c3, c4, c5, c6, c7, c8, c9, c10, c11, c12⟩ := blk13 (X5.out.e))
        (obtain ⟨d0, d1, d2, d3, d4, d5, d6, d7, d8, d9, d10, d11, d12⟩ := blk13 (X5.out.l))
        have lm := X5.out.s.lt
        have le := X5.out.e.lt
        have ll := X5.out.l.lt
        go_wp2_with fail
        have XV := Lib.hid (X5.out.alloc (o := .cells #[.int .i64 x.w.kind, .int .i64 x.w.n, .complex .f32 x.w.z1 x.w.z2, .complex .f32 x.w.s.a1 x.w.s.a2, .complex .f32 x.w.s.b1 x.w.s.b2, .complex .f32 x.w.s.c1 x.w.s.c2, .float .f32 x.w.s.r, .float .f32 x.w.s.g, .float .f32 x.w.s.b, .float .f32 x.w.s.k, .float .f32 x.w.l.r, .float .f32 x.w.l.g, .float .f32 x.w.l.b, .int .i64 3, .int .i64 0, .complex .f32 0 0, .complex .f32 0 0, .complex .f32 0 0, .complex .f32 0 0, .float .f32 0, .float .f32 0, .float .f32 0, .float .f32 0, .float .f32 1056964608, .float .f32 0, .float .f32 1048576000] 38))
        have EV : EvsAt (w5.alloc (.cells #[.int .i64 x.w.kind, .int .i64 x.w.n, .complex .f32 x.w.z1 x.w.z2, .complex .f32 x.w.s.a1 x.w.s.a2, .complex .f32 x.w.s.b1 x.w.s.b2, .complex .f32 x.w.s.c1 x.w.s.c2, .float .f32 x.w.s.r, .float .f32 x.w.s.g, .float .f32 x.w.s.b, .float .f32 x.w.s.k, .float .f32 x.w.l.r, .float .f32 x.w.l.g, .float .f32 x.w.l.b, .int .i64 3, .int .i64 0, .complex .f32 0 0, .complex .f32 0 0, .complex .f32 0 0, .complex .f32 0 0, .float .f32 0, .float .f32 0, .float .f32 0, .float .f32 0, .float .f32 1056964608, .float .f32 0, .float .f32 1048576000] 38)) (some ⟨w5.heap.size, 0, Option.none⟩) [x.w, ⟨3, 0, 0, 0, shd0, lightQ⟩] := evs_two (Blk.new _ _ _) rfl
        refine (RB.call _ _ _ _ _ _ _ _ _ XV.out.inn EV).mono ?_
        rintro e u6 ⟨a6, b6, l6, ca6, cb6, cl6, ⟨rfl, hA, hb⟩⟩
        have B6 : Hid (Below w.heap.size w u6) := (XV.out.mono hb).below
        have s6 := B6.out.size
        clear XV EV RB X5 m0 m1 m2 m3 m4 m5 m6 m7 m8 m9 m10 m11 c0 c1 c2 c3 c4 c5 c6 c7 c8 c9 c10 c11 c12 d0 d1 d2 d3 d4 d5 d6 d7 d8 d9 d10 d11 d12 lm le ll hb hA
        go_wp2
        go_ret
        exact ⟨rfl, by have hbb := B6.out; (repeat' (first | (with_reducible exact Below.refl _ _) | (with_reducible assumption) | (with_reducible refine Below.alloc ?_ ?_ _) | (with_reducible refine Below.drew ?_) | (with_reducible refine Below.setCell ?_ ?_ _) | (with_reducible refine Below.trans ?_ (Below.mono (by assumption) ?_)) | (with_reducible exact Nat.le_refl _) | omega | (simp only [World.size_alloc, World.size_setCell, World.size_drew]; omega) | (simp; omega) | (simp; done)))⟩
    · have hk : x.w.kind = 3 := HK.out.2 hlight
      clear HMG HK hlight
      (obtain ⟨m0, m1, m2, m3, m4, m5, m6, m7, m8, m9, m10, m11⟩ := blk12 (X3.out.s))
      (obtain ⟨t0, t1, t2, t3, t4, t5, t6, t7, t8, t9, t10, t11⟩ := blk12 (T3.out))
      have lm := X3.out.s.lt
      have lt := T3.out.lt
      go_wp2_with fail
      refine (SM.call _ _ _ _ _ J3.out (bwIn_of_lies X3.out.inn.bd)).mono ?_
      rintro e w4 ⟨rfl, hb⟩
      have B4 : Hid (Below w.heap.size w w4) := X3.out.below.trans (hb.mono X3.out.below.size)
      clear hb X3 T3 J3 SM m0 m1 m2 m3 m4 m5 m6 m7 m8 m9 m10 m11 lm t0 t1 t2 t3 t4 t5 t6 t7 t8 t9 t10 t11 lt c0 c1 c2 c3 c4 c5 c6 c7 c8 c9 c10 c11 c12 le
      go_wp2
      go_ret
      exact ⟨rfl, B4.out⟩
  · go_enter Tryz.func5, Tryz.ntmps5
    go_wp2_with fail
    refine (big_yes _ _ _ _ hl).mono ?_
    rintro e w0 ⟨rfl, rfl⟩
    go_wp2
    all_goals (go_returns; exact ⟨rfl, by (repeat' (first | (with_reducible exact Below.refl _ _) | (with_reducible assumption) | (with_reducible refine Below.alloc ?_ ?_ _) | (with_reducible refine Below.drew ?_) | (with_reducible refine Below.setCell ?_ ?_ _) | (with_reducible refine Below.trans ?_ (Below.mono (by assumption) ?_)) | (with_reducible exact Nat.le_refl _) | omega | (simp only [World.size_alloc, World.size_setCell, World.size_drew]; omega) | (simp; omega) | (simp; done)))⟩)
end Go.Proofs.YtfdgijmmgllmgaaGreat.wFnMirrorsAgain
