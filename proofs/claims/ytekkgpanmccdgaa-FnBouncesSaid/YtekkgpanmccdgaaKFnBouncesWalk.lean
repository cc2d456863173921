/-
  The call of FnBounces returns true and writes nothing that was there.
-/
import Derived.Test.YtekkgpanmccdgaaK24
namespace Go.Proofs.Ytekkgpanmccdgaa.wFnBounces
open Go.ChangeShapes Go.WideShapes Go.ChangeAt Go.RowKit Go.Joins
set_option linter.unusedSimpArgs false
set_option linter.unusedVariables false
set_option maxRecDepth 100000
attribute [local go_sem] store_f
open Ieee Go.Lib
attribute [local go_sem] store_c

set_option maxHeartbeats 32000000 in
theorem walk (a : Option Addr) (len cap : Nat) (bs : List Int) (w : World) (hrow : ByteRow w w.heap.size a len bs) :
    Calls Try.prog 7 #[.slice a len cap] w fun e w' => e = .returned (.bool true) ∧ Below w.heap.size w w' := by
  have HR := Lib.hid hrow
  clear hrow
  by_cases hl : len ≤ 4096
  · go_enter Try.func7, Try.ntmps7
    go_wp2_with fail
    refine (big_no _ _ _ _ hl).mono ?_
    rintro e w0 ⟨rfl, rfl⟩
    go_wp2_with fail
    refine (drawTumble_s a len cap bs _ HR.out hl).mono ?_
    rintro e w1 ⟨kind, g, ls, l, b0, c0, n, ⟨rfl, hrow1, hbase, hfew, hn, hb1⟩⟩
    obtain ⟨Lk, Ca, Cb, Cc, K⟩ := bo_of hbase (show n ≤ 24 by omega)
    have K1 := Lib.hid K
    have W1 : Hid (BwIn w1 b0 (l.map wd)) := hrow1
    have B1 := Lib.hid hb1
    have s1 := hb1.size
    have hN : l.length ≤ 4 := hfew
    have hk03 : (0 : Int) ≤ kind ∧ (kind : Int) ≤ 3 := ⟨hbase.k0, hbase.k3⟩
    have HK3 := Lib.hid hk03
    clear hbase hrow1 hb1 hfew K HR hk03
    generalize l.map wd = L0 at *
    generalize l.length = N at *
    generalize g.1.1 = g1 at *
    generalize g.1.2 = g2 at *
    generalize (kind : Int) = kd at *
    go_wp2_with fail
    generalize hV : w1.alloc (.cells #[.int .i64 kd, .complex .f32 g1 g2, .float .f32 ls, .slice b0 N c0] 39) = V
    have M1 : Hid (Blk V w1.heap.size #[.int .i64 kd, .complex .f32 g1 g2, .float .f32 ls, .slice b0 N c0] 39) := by rw [← hV]; exact Blk.new _ _ _
    have WV : Hid (BwIn V b0 L0) := by rw [← hV]; exact W1.out.alloc
    have BV : Hid (Below w.heap.size w V) := by rw [← hV]; exact B1.out.alloc s1 _
    clear hV W1 B1
    generalize w1.heap.size = m at *
    refine (K1.out.all.call _ _ _ WV.out).mono ?_
    rintro e w2 ⟨ga, ⟨rfl, hi, hb⟩⟩
    have M2 := Lib.hid (M1.out.below hb)
    have W2 : Hid (BwIn w2 b0 L0) := WV.out.below hb
    have A2 := Lib.hid hi
    have B2 : Hid (Below w.heap.size w w2) := BV.out.trans (hb.mono BV.out.size)
    clear hb hi M1 WV BV
    (have m0 := Blk.cellAt (i := 0) M2.out rfl; have m1 := Blk.cellAt (i := 1) M2.out rfl; have m2 := Blk.cellAt (i := 2) M2.out rfl; have m3 := Blk.cellAt (i := 3) M2.out rfl; simp only [List.getElem_toArray, List.getElem_cons_zero, List.getElem_cons_succ] at m0 m1 m2 m3)
    have lm := M2.out.lt
    go_wp2_with fail
    refine (K1.out.bs.call _ _ _ W2.out).mono ?_
    rintro e w3 ⟨v3, rfl, hb⟩
    have M3 := Lib.hid (M2.out.below hb)
    have W3 : Hid (BwIn w3 b0 L0) := W2.out.below hb
    have A3 := Lib.hid (A2.out.below hb)
    have B3 : Hid (Below w.heap.size w w3) := B2.out.trans (hb.mono B2.out.size)
    clear hb M2 W2 A2 B2 m0 m1 m2 m3 lm
    (have m0 := Blk.cellAt (i := 0) M3.out rfl; have m1 := Blk.cellAt (i := 1) M3.out rfl; have m2 := Blk.cellAt (i := 2) M3.out rfl; have m3 := Blk.cellAt (i := 3) M3.out rfl; simp only [List.getElem_toArray, List.getElem_cons_zero, List.getElem_cons_succ] at m0 m1 m2 m3)
    have lm := M3.out.lt
    go_wp2_with fail
    refine (K1.out.one _ _ _ W3.out).mono ?_
    rintro e w4 ⟨gb, ⟨rfl, hi, hb⟩⟩
    have M4 := Lib.hid (M3.out.below hb)
    have W4 : Hid (BwIn w4 b0 L0) := W3.out.below hb
    have A4 := Lib.hid (A3.out.below hb)
    have E4 := Lib.hid hi
    have B4 : Hid (Below w.heap.size w w4) := B3.out.trans (hb.mono B3.out.size)
    clear hb hi M3 W3 A3 B3 m0 m1 m2 m3 lm
    (have m0 := Blk.cellAt (i := 0) M4.out rfl; have m1 := Blk.cellAt (i := 1) M4.out rfl; have m2 := Blk.cellAt (i := 2) M4.out rfl; have m3 := Blk.cellAt (i := 3) M4.out rfl; simp only [List.getElem_toArray, List.getElem_cons_zero, List.getElem_cons_succ] at m0 m1 m2 m3)
    have lm := M4.out.lt
    go_wp2_with fail
    refine (K1.out.mid _ _ _ W4.out).mono ?_
    rintro e w5 ⟨b5, c5, ⟨rfl, hr, hb⟩⟩
    have M5 := Lib.hid (M4.out.below hb)
    have A5 := Lib.hid (A4.out.below hb)
    have E5 := Lib.hid (E4.out.below hb)
    have R5 := Lib.hid hr
    have B5 : Hid (Below w.heap.size w w5) := B4.out.trans (hb.mono B4.out.size)
    clear hb hr M4 W4 A4 E4 B4 m0 m1 m2 m3 lm
    have s5 := B5.out.size
    go_wp2_with fail
    generalize hV : w5.alloc (.cells #[.int .i64 kd, .complex .f32 g1 g2, .float .f32 ls, .slice b5 N c5] 39) = V6
    have hA : Below w5.heap.size w5 V6 := by rw [← hV]; exact (Below.refl _ _).alloc (Nat.le_refl _) _
    have M6 := Lib.hid (M5.out.below hA)
    have A6 := Lib.hid (A5.out.below hA)
    have E6 := Lib.hid (E5.out.below hA)
    have R6 : Hid (BwIn V6 b5 Lk) := R5.out.below hA
    have B6 : Hid (Below w.heap.size w V6) := B5.out.trans (hA.mono B5.out.size)
    clear hV hA M5 A5 E5 R5 B5 s5
    refine (K1.out.two _ _ _ R6.out).mono ?_
    rintro e w7 ⟨gc, ⟨rfl, hi, hb⟩⟩
    have M7 := Lib.hid (M6.out.below hb)
    have A7 := Lib.hid (A6.out.below hb)
    have E7 := Lib.hid (E6.out.below hb)
    have C7 := Lib.hid hi
    have B7 : Hid (Below w.heap.size w w7) := B6.out.trans (hb.mono B6.out.size)
    clear hb hi M6 A6 E6 R6 B6
    have m3 := Blk.cellAt (i := 3) M7.out rfl
    simp only [List.getElem_toArray, List.getElem_cons_zero, List.getElem_cons_succ] at m3
    have lm := M7.out.lt
    go_wp2_with fail
    clear m3 lm
    go_loopw [16] (fun i wr => ∃ k : Nat, k ≤ N ∧ i = .int .i64 k ∧ Below w7.heap.size w7 wr) (fun i _ => N - (intOf i).toNat)
    case atStart => exact ⟨0, by omega, rfl, Below.refl _ _⟩
    case round =>
      obtain ⟨k, hk, rfl, hbel⟩ := hrel
      have HB := Lib.hid hbel
      by_cases hlt : k < N
      · have m0 := Blk.cellAt (i := 0) (M7.out.below hbel) rfl
        simp only [List.getElem_toArray, List.getElem_cons_zero] at m0
        have a0 := (A7.out.below hbel).cell hlt
        have e0 := (E7.out.below hbel).cell hlt
        have f0 := (C7.out.below hbel).cell hlt
        have la := (A7.out.below hbel).lt
        have le := (E7.out.below hbel).lt
        have lc := (C7.out.below hbel).lt
        have lm := (M7.out.below hbel).lt
        have hadd := K1.out.add k
        have hle := K1.out.le k
        have hno : kd = 0 → Ca k = 0 := fun e => K1.out.no e k
        generalize Ca k = x at a0 hadd hle hno
        generalize Cb k = y at e0 hadd
        generalize Cc k = z at f0 hadd
        have hwr : IntKind.i64.wrap ((y : Int) + (z : Int)) = (y : Int) + (z : Int) := by
          rw [Go.IntWalk.i64_left]
          exact Go.IntWalk.wrap64_in _ ⟨by omega, by omega⟩
        have hq2 : ((x : Int) != IntKind.i64.wrap ((y : Int) + (z : Int))) = false := by rw [hwr]; simp; omega
        have hle2 : (x : Int) ≤ n := by omega
        have hq3 : ((x : Int) != IntKind.i64.wrap ((y : Int) + (z : Int))) = false ∧ (x : Int) ≤ n := ⟨hq2, hle2⟩
        have hlx : decide (n < x) = false := decide_eq_false (by omega)
        clear hbel hwr hadd hq3 hle2 hle
        by_cases hk0 : kd = 0
        · have hx := hno hk0
          have hx2 : ((x : Int) != 0) = false := by simp [hx]
          subst hk0
          clear hno hx
          go_wp2_with fail
          refine wp_region_still_lit (by kernel_rfl) (by kernel_rfl) ?_
          repeat still_step
          refine wpStill_nil ?_
          clear hq2 hx2 hlx a0 e0 f0 m0
          go_wp2_with fail
          go_roundw
          case rel => exact ⟨k + 1, by omega, by go_num, by first | exact HB.out.drew | exact HB.out.trans (below_draws _ _ _)⟩
          case measure => simp [intOf]; omega
        · have hk3 := HK3.out
          rcases (by omega : kd = 1 ∨ kd = 2 ∨ kd = 3) with rfl | rfl | rfl
          all_goals
            clear hno hk0 hk3
            go_wp2_with fail
            go_quiet (fail)
            clear hq2 hlx a0 e0 f0 m0
            go_wp2_with fail
            go_roundw
            case rel => exact ⟨k + 1, by omega, by go_num, by first | exact HB.out.drew | exact HB.out.trans (below_draws _ _ _)⟩
            case measure => simp [intOf]; omega
      · have hkm : k = N := by omega
        subst hkm
        clear hbel
        go_wp2
        go_ret
        exact ⟨rfl, B7.out.trans (HB.out.mono B7.out.size)⟩
  · go_enter Try.func7, Try.ntmps7
    go_wp2_with fail
    refine (big_yes _ _ _ _ hl).mono ?_
    rintro e w0 ⟨rfl, rfl⟩
    go_wp2
    all_goals (go_returns; exact ⟨rfl, by (repeat' (first | (with_reducible exact Below.refl _ _) | (with_reducible assumption) | (with_reducible refine Below.alloc ?_ ?_ _) | (with_reducible refine Below.drew ?_) | (with_reducible refine Below.setCell ?_ ?_ _) | (with_reducible refine Below.trans ?_ (Below.mono (by assumption) ?_)) | (with_reducible exact Nat.le_refl _) | omega | (simp only [World.size_alloc, World.size_setCell, World.size_drew]; omega) | (simp; omega) | (simp; done)))⟩)
end Go.Proofs.Ytekkgpanmccdgaa.wFnBounces
