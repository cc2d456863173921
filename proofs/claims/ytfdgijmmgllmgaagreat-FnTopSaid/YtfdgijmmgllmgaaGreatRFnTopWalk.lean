/-
  The call of FnTop returns true and writes nothing that was there.
-/
import Derived.Test.YtfdgijmmgllmgaaGreatR47
import Derived.Deep.DeepCutAuto
import Derived.Deep.RegionHeld3
namespace Go.Proofs.YtfdgijmmgllmgaaGreat.wFnTop
open Go.ChangeShapes Go.WideShapes Go.ChangeAt Go.RowKit Go.Joins
set_option linter.unusedSimpArgs false
set_option linter.unusedVariables false
set_option maxRecDepth 100000
attribute [local go_sem] store_f
open Ieee Go.Lib
attribute [local go_sem] store_c run_equalIn_c run_equalIn_g
structure Tq (w W : World) (T : Shw) (n : Nat) (a2 b2 l2 : Option Addr) (ca2 cb2 cl2 : Nat) : Prop where
  box : Blk W n #[.int .i64 T.w.size, .float .f32 T.w.step, .float .f32 T.w.lit.r, .float .f32 T.w.lit.g, .float .f32 T.w.lit.b, .slice a2 T.bds.length ca2, .int .i64 T.w.kind, .complex .f32 T.w.g1 T.w.g2, .float .f32 0, .slice b2 T.bds.length cb2, .int .i64 T.w.ticks, .slice l2 T.log.length cl2] 34
  inn : ShoIn W T.w a2 b2 l2
  below : Below w.heap.size w W
theorem Tq.mono {w W W1 : World} {T : Shw} {n : Nat} {a2 b2 l2 : Option Addr} {ca2 cb2 cl2 : Nat} (h : Tq w W T n a2 b2 l2 ca2 cb2 cl2) (hb : Below W.heap.size W W1) : Tq w W1 T n a2 b2 l2 ca2 cb2 cl2 :=
  ⟨h.box.below hb, h.inn.below hb, h.below.trans (hb.mono h.below.size)⟩
theorem Tq.alloc {w W : World} {T : Shw} {n : Nat} {a2 b2 l2 : Option Addr} {ca2 cb2 cl2 : Nat} {o : Obj} (h : Tq w W T n a2 b2 l2 ca2 cb2 cl2) : Tq w (W.alloc o) T n a2 b2 l2 ca2 cb2 cl2 :=
  h.mono ((Below.refl _ _).alloc (Nat.le_refl _) _)
set_option maxHeartbeats 64000000 in
theorem walk (a : Option Addr) (len cap : Nat) (bs : List Int) (w : World) (hrow : ByteRow w w.heap.size a len bs) :
    Calls Tryz.prog 6 #[.slice a len cap] w fun e w' => e = .returned (.bool true) ∧ Below w.heap.size w w' := by
  have HROW := Lib.hid hrow
  by_cases hl : len ≤ 4096
  · go_enter Tryz.func6, Tryz.ntmps6
    go_wp2_with fail
    refine (big_no _ _ _ _ hl).mono ?_
    rintro e w0 ⟨rfl, rfl⟩
    go_wp2_with fail
    refine (drawShow_s a len cap bs _ hrow hl).mono ?_
    rintro e w1 ⟨S, x, a1, b1, l1, ca1, cb1, cl1, ⟨rfl, told, ok, hlen, hcost, hinn, hb1, _, _⟩⟩
    obtain ⟨T, p, A⟩ := aftM told ok (by have := x.big_le; omega) (by omega)
    obtain ⟨z, mm, K⟩ := topq A.told (by have := A.cost; have := x.big_le; omega) (by have := A.len; omega)
    have D := A.call
    have RP := K.rep
    have SM := Lib.hid K.same
    have SE := K.seen
    have SPR := Lib.hid K.spr
    have SP := Lib.hid K.sp
    have HWD := Lib.hid K.wed
    have HLT := Lib.hid K.len
    have hfew := K.few
    have HNO := Lib.hid A.no
    have B0 := Lib.hid hb1
    have I0 := Lib.hid hinn
    have s0 := hb1.size
    clear told ok hlen hcost hinn hb1 hrow A K
    go_wp2_with fail
    generalize hV : (w1.alloc (.cells #[.int .i64 S.w.size, .float .f32 S.w.step, .float .f32 S.w.lit.r, .float .f32 S.w.lit.g, .float .f32 S.w.lit.b, .slice a1 S.bds.length ca1, .int .i64 S.w.kind, .complex .f32 S.w.g1 S.w.g2, .float .f32 0, .slice b1 S.bds.length cb1, .int .i64 S.w.ticks, .slice l1 S.log.length cl1] 34)).alloc (.cells #[.int .i64 x.w.kind, .int .i64 x.w.n, .complex .f32 x.w.z1 x.w.z2, .complex .f32 x.w.s.a1 x.w.s.a2, .complex .f32 x.w.s.b1 x.w.s.b2, .complex .f32 x.w.s.c1 x.w.s.c2, .float .f32 x.w.s.r, .float .f32 x.w.s.g, .float .f32 x.w.s.b, .float .f32 x.w.s.k, .float .f32 x.w.l.r, .float .f32 x.w.l.g, .float .f32 x.w.l.b] 38) = V
    have M1 : Hid (Blk V w1.heap.size #[.int .i64 S.w.size, .float .f32 S.w.step, .float .f32 S.w.lit.r, .float .f32 S.w.lit.g, .float .f32 S.w.lit.b, .slice a1 S.bds.length ca1, .int .i64 S.w.kind, .complex .f32 S.w.g1 S.w.g2, .float .f32 0, .slice b1 S.bds.length cb1, .int .i64 S.w.ticks, .slice l1 S.log.length cl1] 34) := by rw [← hV]; exact (Blk.new _ _ _).alloc
    have I1 : Hid (ShoIn V S.w a1 b1 l1) := by rw [← hV]; exact I0.out.alloc.alloc
    have B1 : Hid (Below w.heap.size w V) := by rw [← hV]; exact (B0.out.alloc s0 _).alloc (by simp; omega) _
    clear hV B0 I0 s0
    generalize w1.heap.size = m at *
    refine (D.call _ _ _ _ _ _ _ I1.out).mono ?_
    rintro e w2 ⟨a2, b2, l2, ca2, cb2, cl2, ⟨rfl, hI2, hb⟩⟩
    have B2 : Below w.heap.size w w2 := B1.out.trans (hb.mono B1.out.size)
    have s2 := B2.size
    have T2 : Hid (Tq w (w2.alloc (.cells #[.int .i64 T.w.size, .float .f32 T.w.step, .float .f32 T.w.lit.r, .float .f32 T.w.lit.g, .float .f32 T.w.lit.b, .slice a2 T.bds.length ca2, .int .i64 T.w.kind, .complex .f32 T.w.g1 T.w.g2, .float .f32 0, .slice b2 T.bds.length cb2, .int .i64 T.w.ticks, .slice l2 T.log.length cl2] 34)) T w2.heap.size a2 b2 l2 ca2 cb2 cl2) := ⟨Blk.new _ _ _, hI2.alloc, B2.alloc s2 _⟩
    have M2 := Lib.hid ((M1.out.below hb).alloc (o := .cells #[.int .i64 T.w.size, .float .f32 T.w.step, .float .f32 T.w.lit.r, .float .f32 T.w.lit.g, .float .f32 T.w.lit.b, .slice a2 T.bds.length ca2, .int .i64 T.w.kind, .complex .f32 T.w.g1 T.w.g2, .float .f32 0, .slice b2 T.bds.length cb2, .int .i64 T.w.ticks, .slice l2 T.log.length cl2] 34))
    have I2 := Lib.hid ((I1.out.below hb).alloc (o := .cells #[.int .i64 T.w.size, .float .f32 T.w.step, .float .f32 T.w.lit.r, .float .f32 T.w.lit.g, .float .f32 T.w.lit.b, .slice a2 T.bds.length ca2, .int .i64 T.w.kind, .complex .f32 T.w.g1 T.w.g2, .float .f32 0, .slice b2 T.bds.length cb2, .int .i64 T.w.ticks, .slice l2 T.log.length cl2] 34))
    clear hI2 hb M1 I1 B1 D B2 s2
    go_upto_region 5 with fail
    generalize w2.alloc (.cells #[.int .i64 T.w.size, .float .f32 T.w.step, .float .f32 T.w.lit.r, .float .f32 T.w.lit.g, .float .f32 T.w.lit.b, .slice a2 T.bds.length ca2, .int .i64 T.w.kind, .complex .f32 T.w.g1 T.w.g2, .float .f32 0, .slice b2 T.bds.length cb2, .int .i64 T.w.ticks, .slice l2 T.log.length cl2] 34) = V2 at *
    generalize w2.heap.size = n at *
    (obtain ⟨t0, t1, t2, t3, t4, t5, t6, t7, t8, t9, t10, t11⟩ := blk12 (T2.out.box))
    have lt := T2.out.box.lt
    go_wp2_with fail
    refine (RP.call _ _ _ _ _ _ _ T2.out.inn).mono ?_
    rintro e w3 ⟨a3, b3, l3, ca3, cb3, cl3, ⟨rfl, hI3, hb⟩⟩
    have T3 : Hid (Tq w (w3.alloc (.cells #[.int .i64 T.w.size, .float .f32 T.w.step, .float .f32 T.w.lit.r, .float .f32 T.w.lit.g, .float .f32 T.w.lit.b, .slice a3 T.bds.length ca3, .int .i64 T.w.kind, .complex .f32 T.w.g1 T.w.g2, .float .f32 0, .slice b3 T.bds.length cb3, .int .i64 T.w.ticks, .slice l3 T.log.length cl3] 34)) T n a2 b2 l2 ca2 cb2 cl2) := (T2.out.mono hb).alloc
    have M3 := Lib.hid ((M2.out.below hb).alloc (o := .cells #[.int .i64 T.w.size, .float .f32 T.w.step, .float .f32 T.w.lit.r, .float .f32 T.w.lit.g, .float .f32 T.w.lit.b, .slice a3 T.bds.length ca3, .int .i64 T.w.kind, .complex .f32 T.w.g1 T.w.g2, .float .f32 0, .slice b3 T.bds.length cb3, .int .i64 T.w.ticks, .slice l3 T.log.length cl3] 34))
    have I3 := Lib.hid ((I2.out.below hb).alloc (o := .cells #[.int .i64 T.w.size, .float .f32 T.w.step, .float .f32 T.w.lit.r, .float .f32 T.w.lit.g, .float .f32 T.w.lit.b, .slice a3 T.bds.length ca3, .int .i64 T.w.kind, .complex .f32 T.w.g1 T.w.g2, .float .f32 0, .slice b3 T.bds.length cb3, .int .i64 T.w.ticks, .slice l3 T.log.length cl3] 34))
    have R3 : Hid (Blk (w3.alloc (.cells #[.int .i64 T.w.size, .float .f32 T.w.step, .float .f32 T.w.lit.r, .float .f32 T.w.lit.g, .float .f32 T.w.lit.b, .slice a3 T.bds.length ca3, .int .i64 T.w.kind, .complex .f32 T.w.g1 T.w.g2, .float .f32 0, .slice b3 T.bds.length cb3, .int .i64 T.w.ticks, .slice l3 T.log.length cl3] 34)) w3.heap.size #[.int .i64 T.w.size, .float .f32 T.w.step, .float .f32 T.w.lit.r, .float .f32 T.w.lit.g, .float .f32 T.w.lit.b, .slice a3 T.bds.length ca3, .int .i64 T.w.kind, .complex .f32 T.w.g1 T.w.g2, .float .f32 0, .slice b3 T.bds.length cb3, .int .i64 T.w.ticks, .slice l3 T.log.length cl3] 34) := Blk.new _ _ _
    have J3 := Lib.hid (hI3.alloc (o := .cells #[.int .i64 T.w.size, .float .f32 T.w.step, .float .f32 T.w.lit.r, .float .f32 T.w.lit.g, .float .f32 T.w.lit.b, .slice a3 T.bds.length ca3, .int .i64 T.w.kind, .complex .f32 T.w.g1 T.w.g2, .float .f32 0, .slice b3 T.bds.length cb3, .int .i64 T.w.ticks, .slice l3 T.log.length cl3] 34))
    clear hI3 hb T2 M2 I2 RP t0 t1 t2 t3 t4 t5 t6 t7 t8 t9 t10 t11 lt
    go_upto_region 6 with fail
    generalize w3.alloc (.cells #[.int .i64 T.w.size, .float .f32 T.w.step, .float .f32 T.w.lit.r, .float .f32 T.w.lit.g, .float .f32 T.w.lit.b, .slice a3 T.bds.length ca3, .int .i64 T.w.kind, .complex .f32 T.w.g1 T.w.g2, .float .f32 0, .slice b3 T.bds.length cb3, .int .i64 T.w.ticks, .slice l3 T.log.length cl3] 34) = V3 at *
    generalize w3.heap.size = r at *
    go_cut [59] (fun v wx => v = .bool false ∧ Tq w wx T n a2 b2 l2 ca2 cb2 cl2)
    case first =>
      (obtain ⟨t0, t1, t2, t3, t4, t5, t6, t7, t8, t9, t10, t11⟩ := blk12 (T3.out.box))
      (obtain ⟨r0, r1, r2, r3, r4, r5, r6, r7, r8, r9, r10, r11⟩ := blk12 (R3.out))
      have lt := T3.out.box.lt
      have lr := R3.out.lt
      go_wp2_with fail
      refine (SM.out.call _ _ _ _ _ _ _ _ _ _ _ _ _ J3.out T3.out.inn).mono ?_
      rintro e w4 ⟨rfl, hb⟩
      have T4 := Lib.hid (T3.out.mono hb)
      have M4 := Lib.hid (M3.out.below hb)
      have I4 := Lib.hid (I3.out.below hb)
      clear hb T3 M3 I3 R3 J3 t0 t1 t2 t3 t4 t5 t6 t7 t8 t9 t10 t11 r0 r1 r2 r3 r4 r5 r6 r7 r8 r9 r10 r11 lt lr
      cases p
      · obtain rfl := HNO.out rfl
        (obtain ⟨t0, t1, t2, t3, t4, t5, t6, t7, t8, t9, t10, t11⟩ := blk12 (T4.out.box))
        (obtain ⟨m0, m1, m2, m3, m4, m5, m6, m7, m8, m9, m10, m11⟩ := blk12 (M4.out))
        have lt := T4.out.box.lt
        have lm := M4.out.lt
        go_wp2_with fail
        refine (SM.out.call _ _ _ _ _ _ _ _ _ _ _ _ _ T4.out.inn I4.out).mono ?_
        rintro e w5 ⟨rfl, hb⟩
        have T5 := Lib.hid (T4.out.mono hb)
        clear hb T4 M4 I4 t0 t1 t2 t3 t4 t5 t6 t7 t8 t9 t10 t11 m0 m1 m2 m3 m4 m5 m6 m7 m8 m9 m10 m11 lt lm
        go_wp2_with fail
        go_meet
        exact ⟨rfl, T5.out⟩
      · go_wp2_with fail
        go_meet
        exact ⟨rfl, T4.out⟩
    case rest =>
      obtain ⟨rfl, hT⟩ := hcut
      rename World => W6
      have T6 := Lib.hid hT
      clear hT T3 M3 I3 R3 J3 SM HNO
      (obtain ⟨t0, t1, t2, t3, t4, t5, t6, t7, t8, t9, t10, t11⟩ := blk12 (T6.out.box))
      have lt := T6.out.box.lt
      go_wp2_with fail
      refine (SE.call _ _ _ _ _ _ _ T6.out.inn).mono ?_
      rintro e w7 ⟨g7, c7, ⟨rfl, hL7⟩, hb⟩
      have T7 := Lib.hid ((T6.out.mono hb).alloc (o := .cells #[.int .i64 z, .slice (some ⟨g7, 0, Option.none⟩) mm.length c7] 52))
      have L7 := Lib.hid (hL7.alloc (o := .cells #[.int .i64 z, .slice (some ⟨g7, 0, Option.none⟩) mm.length c7] 52))
      have P7 : Hid (Blk (w7.alloc (.cells #[.int .i64 z, .slice (some ⟨g7, 0, Option.none⟩) mm.length c7] 52)) w7.heap.size #[.int .i64 z, .slice (some ⟨g7, 0, Option.none⟩) mm.length c7] 52) := Blk.new _ _ _
      clear hb hL7 T6 SE t0 t1 t2 t3 t4 t5 t6 t7 t8 t9 t10 t11 lt
      go_upto_region 9 with fail
      generalize w7.alloc (.cells #[.int .i64 z, .slice (some ⟨g7, 0, Option.none⟩) mm.length c7] 52) = V7 at *
      generalize w7.heap.size = p7 at *
      (obtain ⟨t0, t1, t2, t3, t4, t5, t6, t7, t8, t9, t10, t11⟩ := blk12 (T7.out.box))
      have lt := T7.out.box.lt
      have q0 := Blk.cellAt (i := 0) P7.out rfl
      have q1 := Blk.cellAt (i := 1) P7.out rfl
      simp only [List.getElem_toArray, List.getElem_cons_zero, List.getElem_cons_succ] at q0 q1
      have lq := P7.out.lt
      go_wp2_with fail
      refine ((SPR.out _ _).call _ (Or.inr ⟨g7, 0, rfl, L7.out⟩)).mono ?_
      rintro e w8 ⟨⟨g8, c8, ⟨rfl, hown⟩⟩, hb⟩
      have T8 := Lib.hid (T7.out.mono hb)
      have L8 := Lib.hid (L7.out.below hb)
      have P8 := P7.out.below hb
      have N8 : Hid (LitRow w8 g8 0 mm) := litRow_of hown rfl
      clear hb hown T7 L7 P7 SPR t0 t1 t2 t3 t4 t5 t6 t7 t8 t9 t10 t11 lt q0 q1 lq
      have q0 := Blk.cellAt (i := 0) P8 rfl
      have q1 := Blk.cellAt (i := 1) P8 rfl
      simp only [List.getElem_toArray, List.getElem_cons_zero, List.getElem_cons_succ] at q0 q1
      have lq := P8.lt
      clear P8
      go_wp2_with fail
      refine ((SP.out _ _ _ _).call _ (Or.inr ⟨g7, 0, rfl, L8.out.alloc⟩) (Or.inr ⟨g8, 0, rfl, N8.out.alloc⟩)).mono ?_
      rintro e w9 ⟨rfl, hb⟩
      have T9 := Lib.hid (T8.out.alloc.mono hb)
      clear hb T8 L8 N8 SP q0 q1 lq
      go_wp2_with fail
      go_loopw [13] (fun i wr => ∃ j : Nat, j ≤ T.bds.length ∧ i = .int .i64 j ∧ Tq w wr T n a2 b2 l2 ca2 cb2 cl2) (fun i _ => T.bds.length - (intOf i).toNat)
      case atStart => exact ⟨0, by omega, rfl, T9.out⟩
      case round =>
        obtain ⟨j, hj, rfl, hst⟩ := hrel
        have T10 := Lib.hid hst
        clear hst T9
        (obtain ⟨t0, t1, t2, t3, t4, t5, t6, t7, t8, t9, t10, t11⟩ := blk12 (T10.out.box))
        have lt := T10.out.box.lt
        by_cases hlt : j < T.bds.length
        · rcases T10.out.inn.bd with hnil | ⟨gb, rfl, hbd⟩
          · exfalso
            have h1 := flat_nil (f := Bw.cells) (m := 2) (by omega) (fun _ => rfl) hnil
            have h2 := HLT.out
            rw [h1] at h2
            simp at h2
            omega
          obtain ⟨c0, c1⟩ := (bwRow_of_lie hbd) j (by have := HLT.out; omega)
          have WD := HWD.out j hlt
          generalize T.w.bds.getD j default = bd at *
          have hj0 : (0 : Int) ≤ (j : Int) := by omega
          have hj1 : (j : Int) < (T.bds.length : Int) := by omega
          have lb := cell_lt c0
          clear hbd
          go_wp2_with fail
          go_region_held3 (fun wx => n < wx.heap.size ∧ gb < wx.heap.size ∧ wx.cell? ⟨n, 6, Option.none⟩ = some (.int .i64 T.w.kind) ∧ wx.cell? ⟨n, 9, Option.none⟩ = some (.slice (some ⟨gb, 0, Option.none⟩) T.bds.length cb2) ∧ wx.cell? ⟨gb, j * 2, Option.none⟩ = some (.complex .f32 bd.a1 bd.a2))
            (((repeat' apply And.intro) <;> first | (with_reducible assumption) | (((repeat (first | (with_reducible assumption) | (with_reducible exact cNewAt (by first | rfl | (simp only [World.size_alloc, World.size_setCell, World.size_drew]; done) | omega) rfl) | (with_reducible exact sNewAt (by first | rfl | (simp only [World.size_alloc, World.size_setCell, World.size_drew]; done) | omega) rfl) | (simp; done) | (with_reducible apply cAlloc) | (with_reducible apply cDrew) | (with_reducible refine cSet (by dsimp only; omega) ?_) | (with_reducible refine cSetOff (by dsimp only; omega) ?_) | (with_reducible apply cSame) | (with_reducible refine cBelow (by assumption) ?_) | (with_reducible apply sAlloc) | (with_reducible apply sDrew) | (with_reducible refine sBelow (by assumption) ?_) | (with_reducible refine sSet (by dsimp only; omega) ?_))); first | done | (simp [*]; done)); done) | (simp only [World.size_alloc, World.size_setCell, World.size_drew]; omega) | omega | (go_keep; done) | ((repeat' (first | (with_reducible exact Below.refl _ _) | (with_reducible assumption) | (with_reducible refine Below.alloc ?_ ?_ _) | (with_reducible refine Below.drew ?_) | (with_reducible refine Below.setCell ?_ ?_ _) | (with_reducible refine Below.trans ?_ (Below.mono (by assumption) ?_)) | (with_reducible exact Nat.le_refl _) | omega | (simp only [World.size_alloc, World.size_setCell, World.size_drew]; omega) | (simp; omega) | (simp; done))); done)))
            (first | (go_at_call 20; (with_reducible refine (WD.call _).mono ?_); rintro e w11 ⟨rfl, rfl⟩))
          all_goals
            rename_i hHeld
            clear hHeld
            have T11 := Lib.hid (T10.out.mono ((Below.refl _ _).drew))
            clear t0 t1 t2 t3 t4 t5 t6 t7 t8 t9 t10 t11 c0 c1 lt lb
            go_wp2
            go_roundw
            case rel => exact ⟨j + 1, by omega, by go_num, T11.out⟩
            case measure => simp [intOf]; omega
        · have hjm : j = T.bds.length := by omega
          have B10 := Lib.hid T10.out.below
          clear HWD HLT
          go_wp2_with fail
          refine (drawPlace_s a len cap bs _ ((HROW.out.of B10.out).mono B10.out.size) hl).mono ?_
          rintro e w11 ⟨kind, x', y', ⟨rfl, hkk, hx, hy, hb⟩⟩
          obtain ⟨pa, pb, t', f', il, O⟩ := orb_of hkk hx hy
          have FM := O.fold
          have CO := Lib.hid O.orb
          have EACH := Lib.hid O.each
          have hil := O.few
          have hop : ∀ w, (binOp .neq 28 (.complex .f32 pa pb) (.complex .f32 pa pb)).run Tryz.prog w = .ok (.bool false) w := fun w => by rw [run_neq_complex, order_self O.fa, order_self O.fb]; rfl
          have HOP := Lib.hid hop
          have B11 : Hid (Below w.heap.size w w11) := B10.out.trans (hb.mono B10.out.size)
          clear hb O hop T10 B10 t0 t1 t2 t3 t4 t5 t6 t7 t8 t9 t10 t11 lt hx hy
          generalize (kind : Int) = kd at *
          go_wp2_with fail
          refine (FM.call _).mono ?_
          rintro e w12 ⟨rfl, hb⟩
          have B12 : Hid (Below w.heap.size w w12) := B11.out.trans (hb.mono B11.out.size)
          have s12 := B12.out.size
          clear hb B11 FM
          have B12a : Hid (Below w.heap.size w (w12.alloc (.cells #[.int .i64 t', .bool f'] 63))) := B12.out.alloc s12 _
          go_wp2_with fail
          refine (CO.out _).mono ?_
          rintro e w13 ⟨go, co, om, rfl, HO⟩
          have hml := HO.len
          have HMEM : Hid (∀ k, k < om.length → om.getD k default ∈ il) := fun k hk => (HO.mem _).1 (getD_mem hk)
          have HCELL := Lib.hid HO.holds
          have hb := HO.below
          have hgo := HO.lt
          have B13 : Hid (Below w.heap.size w w13) := B12a.out.trans (hb.mono B12a.out.size)
          clear hb HO CO B12 B12a s12
          go_wp2_with fail
          go_loopw [20] (fun i wr => ∃ k : Nat, k ≤ om.length ∧ i = .int .i64 k ∧ Below w13.heap.size w13 wr) (fun i _ => om.length - (intOf i).toNat)
          case atStart => exact ⟨0, by omega, rfl, Below.refl _ _⟩
          case round =>
            obtain ⟨k, hk, rfl, hbel⟩ := hrel
            have BR := Lib.hid hbel
            have sr := hbel.size
            by_cases hkl : k < om.length
            · have c0 := cBelow hbel (HCELL.out k hkl)
              obtain ⟨t2, f2, F2⟩ := EACH.out _ (HMEM.out k hkl)
              simp only [encP] at c0
              generalize om.getD k default = qq at *
              generalize qq.1.1 = q1 at *
              generalize qq.1.2 = q2 at *
              have hk0 : (0 : Int) ≤ (k : Int) := by omega
              have hk1 : (k : Int) < (om.length : Int) := by omega
              have lg := cell_lt c0
              clear hbel
              go_wp2_with fail
              refine (F2.call _).mono ?_
              rintro e w14 ⟨rfl, hb⟩
              have B14 : Hid (Below w13.heap.size w13 w14) := BR.out.trans (hb.mono sr)
              have s14 := B14.out.size
              have hop := HOP.out
              clear hb BR c0 lg F2
              go_wp2_with (simp only [hop])
              go_roundw
              case rel => exact ⟨k + 1, by omega, by go_num, B14.out.alloc s14 _⟩
              case measure => simp [intOf]; omega
            · have hkm : k = om.length := by omega
              subst hkm
              have BF : Hid (Below w.heap.size w wr) := B13.out.trans (hbel.mono B13.out.size)
              clear hbel
              go_wp2
              go_ret
              exact ⟨rfl, BF.out⟩
  · go_enter Tryz.func6, Tryz.ntmps6
    go_wp2_with fail
    refine (big_yes _ _ _ _ hl).mono ?_
    rintro e w0 ⟨rfl, rfl⟩
    go_wp2
    all_goals (go_returns; exact ⟨rfl, by (repeat' (first | (with_reducible exact Below.refl _ _) | (with_reducible assumption) | (with_reducible refine Below.alloc ?_ ?_ _) | (with_reducible refine Below.drew ?_) | (with_reducible refine Below.setCell ?_ ?_ _) | (with_reducible refine Below.trans ?_ (Below.mono (by assumption) ?_)) | (with_reducible exact Nat.le_refl _) | omega | (simp only [World.size_alloc, World.size_setCell, World.size_drew]; omega) | (simp; omega) | (simp; done)))⟩)
end Go.Proofs.YtfdgijmmgllmgaaGreat.wFnTop
