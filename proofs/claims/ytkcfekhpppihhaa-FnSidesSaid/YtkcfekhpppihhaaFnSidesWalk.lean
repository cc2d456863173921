/-
  The call of FnSides returns true and writes nothing that was there.
-/
import Derived.Test.YtkcfekhpppihhaaGs
import Derived.Test.YtkcfekhpppihhaaGq
import Derived.Test.YtkcfekhpppihhaaFh
import Derived.Deep.RegionHeld3
import Derived.Deep.DeepCutAuto
namespace Go.Proofs.Ytkcfekhpppihhaa.wFnSides
open Go.ChangeShapes Go.WideShapes Go.ChangeAt Go.RowKit Go.Joins
set_option linter.unusedSimpArgs false
set_option linter.unusedVariables false
set_option maxRecDepth 100000
attribute [local go_sem] store_f
open Ieee
attribute [local go_sem] store_c

set_option maxHeartbeats 32000000 in
theorem walk (a : Option Addr) (len cap : Nat) (bs : List Int) (w : World) (hrow : ByteRow w w.heap.size a len bs) :
    Calls Try.prog 3 #[.slice a len cap] w fun e w' => e = .returned (.bool true) ∧ Below w.heap.size w w' := by
  have HBR : Hid (ByteRow w w.heap.size a len bs) := hrow
  clear hrow
  by_cases hl : len ≤ 4096
  · go_enter Try.func3, Try.ntmps3
    go_wp2_with fail
    refine (big_no _ _ _ _ hl).mono ?_
    rintro e w0 ⟨rfl, rfl⟩
    go_wp2_with fail
    refine (drawGlass_s a len cap bs _ HBR.out hl).mono ?_
    rintro e w1 ⟨g, lc, l, x, y, r, b, k, ⟨rfl, hll, hcap, hgl, hlo, hR, hok, hx, hy, lr, lg, lb, hb1⟩⟩
    have OK : Hid (∀ s ∈ l, s.Drawn) := hok
    have HX : Hid (Rch x) := hx
    have HY : Hid (Rch y) := hy
    have HR : Hid (ShRow w1 g 0 l) := hR
    have B1 : Hid (Below w.heap.size w w1) := hb1
    have s1 := hb1.size
    clear hb1 hR hok hx hy lr lg lb hcap
    go_wp2_with fail
    generalize hW : w1.alloc (.cells #[.float .f32 r, .float .f32 b, .float .f32 k] 28) = W
    have hRW : Hid (ShRow W g 0 l) := by rw [← hW]; exact HR.out.below ((Below.refl _ _).alloc (Nat.le_refl _) _)
    have HBW : Hid (Below w.heap.size w W) := by rw [← hW]; exact B1.out.alloc (by omega) _
    have sW : w.heap.size ≤ W.heap.size := HBW.out.size
    have sz : W.heap.size = w1.heap.size + 1 := by rw [← hW]; simp
    have hgW : g < W.heap.size := by omega
    clear hW HR B1
    refine (drawSyms_s a len cap bs _ ((HBR.out.of HBW.out).mono sW) hl).mono ?_
    rintro e w2 ⟨i, i2, i3, ⟨rfl, hi, hj, hk, hb2⟩⟩
    have ei : (symK i).1 = ((i % 4 : Nat) : Int) := rfl
    rw [ei]
    have ht : i % 4 < 4 := by omega
    clear ei
    generalize i % 4 = t at ht ⊢
    generalize (symK i).2 = f
    generalize (symK i2).1 = tt2
    generalize (symK i2).2 = ff2
    generalize (symK i3).1 = tt3
    generalize (symK i3).2 = ff3
    have HK : Hid (∀ j, j < l.length → ∃ rr p q u v c, Turned (t : Int) f (l.getD j default) x y rr p q u v c) := fun j hj => turned_of ht ((OK.out _ (by simp [List.getD, hj])).ok) HX.out HY.out
    have hR2 : Hid (ShRow w2 g 0 l) := hRW.out.below hb2
    have HB2 : Hid (Below w.heap.size w w2) := HBW.out.trans (hb2.mono sW)
    have s2 := hb2.size
    clear hb2 hRW HBW OK HX HY HBR ht
    generalize (t : Int) = t at *
    go_wp2_with fail
    generalize hX : ((w2.alloc (.cells #[.int .i64 t, .bool f] 32)).alloc (.cells #[.int .i64 tt2, .bool ff2] 32)).alloc (.cells #[.int .i64 tt3, .bool ff3] 32) = X
    have hRX : Hid (ShRow X g 0 l) := by rw [← hX]; exact ((hR2.out.below ((Below.refl _ _).alloc (Nat.le_refl _) _)).below ((Below.refl _ _).alloc (Nat.le_refl _) _)).below ((Below.refl _ _).alloc (Nat.le_refl _) _)
    have HBX : Hid (Below w.heap.size w X) := by rw [← hX]; exact ((HB2.out.alloc (by omega) _).alloc (by simp; omega) _).alloc (by simp; omega) _
    have SX : Hid (Blk X w2.heap.size #[.int .i64 t, .bool f] 32) := by rw [← hX]; exact ((Blk.new _ _ _).alloc).alloc
    have sX : X.heap.size = w2.heap.size + 3 := by rw [← hX]; simp
    have sWX : w.heap.size ≤ X.heap.size := by omega
    have hgX : g < X.heap.size := by omega
    clear hX hR2 HB2
    have lX := SX.out.lt
    generalize w2.heap.size = ng at *
    go_loopw [9] (fun i wr => ∃ j : Nat, j ≤ l.length ∧ i = .int .i64 j ∧ Below X.heap.size X wr) (fun i _ => l.length - (intOf i).toNat)
    case atStart => exact ⟨0, by omega, rfl, by have := Below.refl X.heap.size X; exact this⟩
    case round =>
      obtain ⟨j, hj, rfl, hbel⟩ := hrel
      have HB : Hid (Below X.heap.size X wr) := hbel
      have hbs := hbel.size
      have HBRR : Hid (Below w.heap.size w wr) := HBX.out.trans (hbel.mono sWX)
      by_cases hlt : j < l.length
      · obtain ⟨rr, p, q, u, v, c, K⟩ := HK.out j hlt
        have hrow := hRX.out.below hbel j hlt
        simp only [Nat.zero_add] at hrow
        generalize l.getD j default = s at hrow K
        obtain ⟨d0, d1, d2, d3, d4, d5, d6⟩ := hrow
        have hS := Blk.below SX.out hbel
        have g0 := Blk.cellAt (i := 0) hS rfl
        have g1 := Blk.cellAt (i := 1) hS rfl
        simp only [List.getElem_toArray, List.getElem_cons_zero, List.getElem_cons_succ] at g0 g1
        have hj0 : (0 : Int) ≤ (j : Int) := by omega
        have hj1 : (j : Int) < (l.length : Int) := by omega
        have hlg : ng < wr.heap.size := by omega
        have hgg : g < wr.heap.size := by omega
        clear hS
        go_upto_region 8 with fail
        go_region_held3 (fun wx => Below X.heap.size X wx ∧ X.heap.size ≤ wx.heap.size ∧ ng < wx.heap.size ∧ g < wx.heap.size ∧ wx.cell? ⟨ng, 0, Option.none⟩ = some (.int .i64 (t)) ∧ wx.cell? ⟨ng, 1, Option.none⟩ = some (.bool (f)) ∧ wx.cell? ⟨g, j * 7, Option.none⟩ = some (.complex .f32 s.a1 s.a2) ∧ wx.cell? ⟨g, j * 7 + 1, Option.none⟩ = some (.complex .f32 s.b1 s.b2) ∧ wx.cell? ⟨g, j * 7 + 2, Option.none⟩ = some (.complex .f32 s.c1 s.c2) ∧ wx.cell? ⟨g, j * 7 + 3, Option.none⟩ = some (.float .f32 s.r) ∧ wx.cell? ⟨g, j * 7 + 4, Option.none⟩ = some (.float .f32 s.g) ∧ wx.cell? ⟨g, j * 7 + 5, Option.none⟩ = some (.float .f32 s.b) ∧ wx.cell? ⟨g, j * 7 + 6, Option.none⟩ = some (.float .f32 s.k))
          (((repeat' apply And.intro) <;> first | (with_reducible assumption) | (((repeat (first | (with_reducible assumption) | (with_reducible exact cNewAt (by first | rfl | (simp only [World.size_alloc, World.size_setCell, World.size_drew]; done) | omega) rfl) | (with_reducible exact sNewAt (by first | rfl | (simp only [World.size_alloc, World.size_setCell, World.size_drew]; done) | omega) rfl) | (simp; done) | (with_reducible apply cAlloc) | (with_reducible apply cDrew) | (with_reducible refine cSet (by dsimp only; omega) ?_) | (with_reducible refine cSetOff (by dsimp only; omega) ?_) | (with_reducible apply cSame) | (with_reducible refine cBelow (by assumption) ?_) | (with_reducible apply sAlloc) | (with_reducible apply sDrew) | (with_reducible refine sBelow (by assumption) ?_) | (with_reducible refine sSet (by dsimp only; omega) ?_))); first | done | (simp [*]; done)); done) | (simp only [World.size_alloc, World.size_setCell, World.size_drew]; omega) | omega | (go_keep; done) | ((repeat' (first | (with_reducible exact Below.refl _ _) | (with_reducible assumption) | (with_reducible refine Below.alloc ?_ ?_ _) | (with_reducible refine Below.drew ?_) | (with_reducible refine Below.setCell ?_ ?_ _) | (with_reducible refine Below.trans ?_ (Below.mono (by assumption) ?_)) | (with_reducible exact Nat.le_refl _) | omega | (simp only [World.size_alloc, World.size_setCell, World.size_drew]; omega) | (simp; omega) | (simp; done))); done)))
          (first | (go_at_call 10; (with_reducible refine (K.sx.call _).mono ?_); rintro e w6 ⟨rfl, rfl⟩))
        rename_i hHeld
        obtain ⟨hB, hsz, hlg', hgg', g0', g1', d0', d1', d2', d3', d4', d5', d6'⟩ := hHeld
        clear d0 d1 d2 d3 d4 d5 d6 g0 g1 hlg hgg hbel HB hbs
        generalize wr.drew = wa at hB hsz hlg' hgg' g0' g1' d0' d1' d2' d3' d4' d5' d6' ⊢
        go_wp2_with fail
        go_cut [11] (fun sy wx => sy = .float .f32 v ∧ Below X.heap.size X wx ∧ X.heap.size ≤ wx.heap.size ∧ ng < wx.heap.size ∧ g < wx.heap.size ∧ wx.cell? ⟨ng, 0, Option.none⟩ = some (.int .i64 (t)) ∧ wx.cell? ⟨ng, 1, Option.none⟩ = some (.bool (f)) ∧ wx.cell? ⟨g, j * 7, Option.none⟩ = some (.complex .f32 s.a1 s.a2) ∧ wx.cell? ⟨g, j * 7 + 1, Option.none⟩ = some (.complex .f32 s.b1 s.b2) ∧ wx.cell? ⟨g, j * 7 + 2, Option.none⟩ = some (.complex .f32 s.c1 s.c2) ∧ wx.cell? ⟨g, j * 7 + 3, Option.none⟩ = some (.float .f32 s.r) ∧ wx.cell? ⟨g, j * 7 + 4, Option.none⟩ = some (.float .f32 s.g) ∧ wx.cell? ⟨g, j * 7 + 5, Option.none⟩ = some (.float .f32 s.b) ∧ wx.cell? ⟨g, j * 7 + 6, Option.none⟩ = some (.float .f32 s.k))
        case first =>
          go_region_held3 (fun wx => Below X.heap.size X wx ∧ X.heap.size ≤ wx.heap.size ∧ ng < wx.heap.size ∧ g < wx.heap.size ∧ wx.cell? ⟨ng, 0, Option.none⟩ = some (.int .i64 (t)) ∧ wx.cell? ⟨ng, 1, Option.none⟩ = some (.bool (f)) ∧ wx.cell? ⟨g, j * 7, Option.none⟩ = some (.complex .f32 s.a1 s.a2) ∧ wx.cell? ⟨g, j * 7 + 1, Option.none⟩ = some (.complex .f32 s.b1 s.b2) ∧ wx.cell? ⟨g, j * 7 + 2, Option.none⟩ = some (.complex .f32 s.c1 s.c2) ∧ wx.cell? ⟨g, j * 7 + 3, Option.none⟩ = some (.float .f32 s.r) ∧ wx.cell? ⟨g, j * 7 + 4, Option.none⟩ = some (.float .f32 s.g) ∧ wx.cell? ⟨g, j * 7 + 5, Option.none⟩ = some (.float .f32 s.b) ∧ wx.cell? ⟨g, j * 7 + 6, Option.none⟩ = some (.float .f32 s.k))
            (((repeat' apply And.intro) <;> first | (with_reducible assumption) | (((repeat (first | (with_reducible assumption) | (with_reducible exact cNewAt (by first | rfl | (simp only [World.size_alloc, World.size_setCell, World.size_drew]; done) | omega) rfl) | (with_reducible exact sNewAt (by first | rfl | (simp only [World.size_alloc, World.size_setCell, World.size_drew]; done) | omega) rfl) | (simp; done) | (with_reducible apply cAlloc) | (with_reducible apply cDrew) | (with_reducible refine cSet (by dsimp only; omega) ?_) | (with_reducible refine cSetOff (by dsimp only; omega) ?_) | (with_reducible apply cSame) | (with_reducible refine cBelow (by assumption) ?_) | (with_reducible apply sAlloc) | (with_reducible apply sDrew) | (with_reducible refine sBelow (by assumption) ?_) | (with_reducible refine sSet (by dsimp only; omega) ?_))); first | done | (simp [*]; done)); done) | (simp only [World.size_alloc, World.size_setCell, World.size_drew]; omega) | omega | (go_keep; done) | ((repeat' (first | (with_reducible exact Below.refl _ _) | (with_reducible assumption) | (with_reducible refine Below.alloc ?_ ?_ _) | (with_reducible refine Below.drew ?_) | (with_reducible refine Below.setCell ?_ ?_ _) | (with_reducible refine Below.trans ?_ (Below.mono (by assumption) ?_)) | (with_reducible exact Nat.le_refl _) | omega | (simp only [World.size_alloc, World.size_setCell, World.size_drew]; omega) | (simp; omega) | (simp; done))); done)))
            (first | (go_at_call 10; (with_reducible refine (K.sy.call _).mono ?_); rintro e w6 ⟨rfl, rfl⟩) | (go_at_call 11; (first | (with_reducible refine (K.ia.call _).mono ?_) | (with_reducible refine (K.ib.call _).mono ?_) | (with_reducible refine (K.ip.call _).mono ?_)); rintro e w4 ⟨rfl, hb⟩; have hbs := hb.size; try simp only [World.size_alloc, World.size_setCell, World.size_drew] at hbs))
          all_goals (go_wp2_with fail; go_meet; refine ⟨rfl, ?_⟩; ((repeat' apply And.intro) <;> first | (with_reducible assumption) | (((repeat (first | (with_reducible assumption) | (with_reducible exact cNewAt (by first | rfl | (simp only [World.size_alloc, World.size_setCell, World.size_drew]; done) | omega) rfl) | (with_reducible exact sNewAt (by first | rfl | (simp only [World.size_alloc, World.size_setCell, World.size_drew]; done) | omega) rfl) | (simp; done) | (with_reducible apply cAlloc) | (with_reducible apply cDrew) | (with_reducible refine cSet (by dsimp only; omega) ?_) | (with_reducible refine cSetOff (by dsimp only; omega) ?_) | (with_reducible apply cSame) | (with_reducible refine cBelow (by assumption) ?_) | (with_reducible apply sAlloc) | (with_reducible apply sDrew) | (with_reducible refine sBelow (by assumption) ?_) | (with_reducible refine sSet (by dsimp only; omega) ?_))); first | done | (simp [*]; done)); done) | (simp only [World.size_alloc, World.size_setCell, World.size_drew]; omega) | omega | (go_keep; done) | ((repeat' (first | (with_reducible exact Below.refl _ _) | (with_reducible assumption) | (with_reducible refine Below.alloc ?_ ?_ _) | (with_reducible refine Below.drew ?_) | (with_reducible refine Below.setCell ?_ ?_ _) | (with_reducible refine Below.trans ?_ (Below.mono (by assumption) ?_)) | (with_reducible exact Nat.le_refl _) | omega | (simp only [World.size_alloc, World.size_setCell, World.size_drew]; omega) | (simp; omega) | (simp; done))); done)))
        case rest =>
        obtain ⟨rfl, hB2, hsz2, hlg2, hgg2, g02, g12, d02, d12, d22, d32, d42, d52, d62⟩ := hcut
        have hop := fun w => run_negf Try.prog w .f32 u
        generalize hnu : Op.negFloat .f32 u = nu at hop
        cases f
        · have o1 : (FloatKind.f32.format.order v u != some .eq) = false := by rw [bne, K.no rfl]; rfl
          go_upto_region 12 with (simp only [hop])
          go_cut [12] (fun sb wx => ∃ nb : Nat, sb = .pointer (some ⟨nb, 0, Option.none⟩) ∧ nb < wx.heap.size ∧ wx.cell? ⟨nb, 0, Option.none⟩ = some (.complex .f32 rr.a1 rr.a2) ∧ wx.cell? ⟨nb, 1, Option.none⟩ = some (.complex .f32 rr.b1 rr.b2) ∧ wx.cell? ⟨nb, 2, Option.none⟩ = some (.complex .f32 rr.c1 rr.c2) ∧ wx.cell? ⟨nb, 3, Option.none⟩ = some (.float .f32 rr.r) ∧ wx.cell? ⟨nb, 4, Option.none⟩ = some (.float .f32 rr.g) ∧ wx.cell? ⟨nb, 5, Option.none⟩ = some (.float .f32 rr.b) ∧ wx.cell? ⟨nb, 6, Option.none⟩ = some (.float .f32 rr.k) ∧ Below X.heap.size X wx ∧ X.heap.size ≤ wx.heap.size ∧ ng < wx.heap.size ∧ g < wx.heap.size ∧ wx.cell? ⟨ng, 0, Option.none⟩ = some (.int .i64 (t)) ∧ wx.cell? ⟨ng, 1, Option.none⟩ = some (.bool (false)) ∧ wx.cell? ⟨g, j * 7, Option.none⟩ = some (.complex .f32 s.a1 s.a2) ∧ wx.cell? ⟨g, j * 7 + 1, Option.none⟩ = some (.complex .f32 s.b1 s.b2) ∧ wx.cell? ⟨g, j * 7 + 2, Option.none⟩ = some (.complex .f32 s.c1 s.c2) ∧ wx.cell? ⟨g, j * 7 + 3, Option.none⟩ = some (.float .f32 s.r) ∧ wx.cell? ⟨g, j * 7 + 4, Option.none⟩ = some (.float .f32 s.g) ∧ wx.cell? ⟨g, j * 7 + 5, Option.none⟩ = some (.float .f32 s.b) ∧ wx.cell? ⟨g, j * 7 + 6, Option.none⟩ = some (.float .f32 s.k))
          case first =>
            go_region_held3 (fun wx => Below X.heap.size X wx ∧ X.heap.size ≤ wx.heap.size ∧ ng < wx.heap.size ∧ g < wx.heap.size ∧ wx.cell? ⟨ng, 0, Option.none⟩ = some (.int .i64 (t)) ∧ wx.cell? ⟨ng, 1, Option.none⟩ = some (.bool (false)) ∧ wx.cell? ⟨g, j * 7, Option.none⟩ = some (.complex .f32 s.a1 s.a2) ∧ wx.cell? ⟨g, j * 7 + 1, Option.none⟩ = some (.complex .f32 s.b1 s.b2) ∧ wx.cell? ⟨g, j * 7 + 2, Option.none⟩ = some (.complex .f32 s.c1 s.c2) ∧ wx.cell? ⟨g, j * 7 + 3, Option.none⟩ = some (.float .f32 s.r) ∧ wx.cell? ⟨g, j * 7 + 4, Option.none⟩ = some (.float .f32 s.g) ∧ wx.cell? ⟨g, j * 7 + 5, Option.none⟩ = some (.float .f32 s.b) ∧ wx.cell? ⟨g, j * 7 + 6, Option.none⟩ = some (.float .f32 s.k))
              (((repeat' apply And.intro) <;> first | (with_reducible assumption) | (((repeat (first | (with_reducible assumption) | (with_reducible exact cNewAt (by first | rfl | (simp only [World.size_alloc, World.size_setCell, World.size_drew]; done) | omega) rfl) | (with_reducible exact sNewAt (by first | rfl | (simp only [World.size_alloc, World.size_setCell, World.size_drew]; done) | omega) rfl) | (simp; done) | (with_reducible apply cAlloc) | (with_reducible apply cDrew) | (with_reducible refine cSet (by dsimp only; omega) ?_) | (with_reducible refine cSetOff (by dsimp only; omega) ?_) | (with_reducible apply cSame) | (with_reducible refine cBelow (by assumption) ?_) | (with_reducible apply sAlloc) | (with_reducible apply sDrew) | (with_reducible refine sBelow (by assumption) ?_) | (with_reducible refine sSet (by dsimp only; omega) ?_))); first | done | (simp [*]; done)); done) | (simp only [World.size_alloc, World.size_setCell, World.size_drew]; omega) | omega | (go_keep; done) | ((repeat' (first | (with_reducible exact Below.refl _ _) | (with_reducible assumption) | (with_reducible refine Below.alloc ?_ ?_ _) | (with_reducible refine Below.drew ?_) | (with_reducible refine Below.setCell ?_ ?_ _) | (with_reducible refine Below.trans ?_ (Below.mono (by assumption) ?_)) | (with_reducible exact Nat.le_refl _) | omega | (simp only [World.size_alloc, World.size_setCell, World.size_drew]; omega) | (simp; omega) | (simp; done))); done)))
              (first | (go_at_call 12; (with_reducible refine (K.ac.call _).mono ?_); rintro e w5 ⟨rfl, hb⟩; have hbs := hb.size; try simp only [World.size_alloc, World.size_setCell, World.size_drew] at hbs; (try ((first | have hN := Blk.belowAt hb (Blk.drew (Blk.new _ _ _)) | have hN := Blk.belowAt hb (Blk.new _ _ _)); (try simp only [World.size_drew] at hN); have y0 := Blk.cellAt (i := 0) hN rfl; have y1 := Blk.cellAt (i := 1) hN rfl; have y2 := Blk.cellAt (i := 2) hN rfl; have y3 := Blk.cellAt (i := 3) hN rfl; have y4 := Blk.cellAt (i := 4) hN rfl; have y5 := Blk.cellAt (i := 5) hN rfl; have y6 := Blk.cellAt (i := 6) hN rfl; simp only [List.getElem_toArray, List.getElem_cons_zero, List.getElem_cons_succ] at y0 y1 y2 y3 y4 y5 y6; have h0 := hN.free 0; have h1 := hN.free 1; have h2 := hN.free 2; have h3 := hN.free 3; have h4 := hN.free 4; have h5 := hN.free 5; have h6 := hN.free 6))))
            all_goals (go_wp2_with fail; go_meet; refine ⟨_, rfl, ?_⟩; ((repeat' apply And.intro) <;> first | (with_reducible assumption) | (((repeat (first | (with_reducible assumption) | (with_reducible exact cNewAt (by first | rfl | (simp only [World.size_alloc, World.size_setCell, World.size_drew]; done) | omega) rfl) | (with_reducible exact sNewAt (by first | rfl | (simp only [World.size_alloc, World.size_setCell, World.size_drew]; done) | omega) rfl) | (simp; done) | (with_reducible apply cAlloc) | (with_reducible apply cDrew) | (with_reducible refine cSet (by dsimp only; omega) ?_) | (with_reducible refine cSetOff (by dsimp only; omega) ?_) | (with_reducible apply cSame) | (with_reducible refine cBelow (by assumption) ?_) | (with_reducible apply sAlloc) | (with_reducible apply sDrew) | (with_reducible refine sBelow (by assumption) ?_) | (with_reducible refine sSet (by dsimp only; omega) ?_))); first | done | (simp [*]; done)); done) | (simp only [World.size_alloc, World.size_setCell, World.size_drew]; omega) | omega | (go_keep; done) | ((repeat' (first | (with_reducible exact Below.refl _ _) | (with_reducible assumption) | (with_reducible refine Below.alloc ?_ ?_ _) | (with_reducible refine Below.drew ?_) | (with_reducible refine Below.setCell ?_ ?_ _) | (with_reducible refine Below.trans ?_ (Below.mono (by assumption) ?_)) | (with_reducible exact Nat.le_refl _) | omega | (simp only [World.size_alloc, World.size_setCell, World.size_drew]; omega) | (simp; omega) | (simp; done))); done)))
          case rest =>
            obtain ⟨nb, rfl, hnb, q0, q1, q2, q3, q4, q5, q6, hB3, hsz3, hlg3, hgg3, g03, g13, d03, d13, d23, d33, d43, d53, d63⟩ := hcut
            clear hop
            go_wp2_with fail
            go_region_held3 (fun wx => nb < wx.heap.size ∧ wx.cell? ⟨nb, 0, Option.none⟩ = some (.complex .f32 rr.a1 rr.a2) ∧ wx.cell? ⟨nb, 1, Option.none⟩ = some (.complex .f32 rr.b1 rr.b2) ∧ wx.cell? ⟨nb, 2, Option.none⟩ = some (.complex .f32 rr.c1 rr.c2) ∧ wx.cell? ⟨nb, 3, Option.none⟩ = some (.float .f32 rr.r) ∧ wx.cell? ⟨nb, 4, Option.none⟩ = some (.float .f32 rr.g) ∧ wx.cell? ⟨nb, 5, Option.none⟩ = some (.float .f32 rr.b) ∧ wx.cell? ⟨nb, 6, Option.none⟩ = some (.float .f32 rr.k) ∧ Below X.heap.size X wx ∧ X.heap.size ≤ wx.heap.size ∧ ng < wx.heap.size ∧ g < wx.heap.size ∧ wx.cell? ⟨ng, 0, Option.none⟩ = some (.int .i64 (t)) ∧ wx.cell? ⟨ng, 1, Option.none⟩ = some (.bool (false)) ∧ wx.cell? ⟨g, j * 7, Option.none⟩ = some (.complex .f32 s.a1 s.a2) ∧ wx.cell? ⟨g, j * 7 + 1, Option.none⟩ = some (.complex .f32 s.b1 s.b2) ∧ wx.cell? ⟨g, j * 7 + 2, Option.none⟩ = some (.complex .f32 s.c1 s.c2) ∧ wx.cell? ⟨g, j * 7 + 3, Option.none⟩ = some (.float .f32 s.r) ∧ wx.cell? ⟨g, j * 7 + 4, Option.none⟩ = some (.float .f32 s.g) ∧ wx.cell? ⟨g, j * 7 + 5, Option.none⟩ = some (.float .f32 s.b) ∧ wx.cell? ⟨g, j * 7 + 6, Option.none⟩ = some (.float .f32 s.k))
              (((repeat' apply And.intro) <;> first | (with_reducible assumption) | (((repeat (first | (with_reducible assumption) | (with_reducible exact cNewAt (by first | rfl | (simp only [World.size_alloc, World.size_setCell, World.size_drew]; done) | omega) rfl) | (with_reducible exact sNewAt (by first | rfl | (simp only [World.size_alloc, World.size_setCell, World.size_drew]; done) | omega) rfl) | (simp; done) | (with_reducible apply cAlloc) | (with_reducible apply cDrew) | (with_reducible refine cSet (by dsimp only; omega) ?_) | (with_reducible refine cSetOff (by dsimp only; omega) ?_) | (with_reducible apply cSame) | (with_reducible refine cBelow (by assumption) ?_) | (with_reducible apply sAlloc) | (with_reducible apply sDrew) | (with_reducible refine sBelow (by assumption) ?_) | (with_reducible refine sSet (by dsimp only; omega) ?_))); first | done | (simp [*]; done)); done) | (simp only [World.size_alloc, World.size_setCell, World.size_drew]; omega) | omega | (go_keep; done) | ((repeat' (first | (with_reducible exact Below.refl _ _) | (with_reducible assumption) | (with_reducible refine Below.alloc ?_ ?_ _) | (with_reducible refine Below.drew ?_) | (with_reducible refine Below.setCell ?_ ?_ _) | (with_reducible refine Below.trans ?_ (Below.mono (by assumption) ?_)) | (with_reducible exact Nat.le_refl _) | omega | (simp only [World.size_alloc, World.size_setCell, World.size_drew]; omega) | (simp; omega) | (simp; done))); done)))
              (first | (go_at_call 13; (with_reducible refine (K.sr.call _).mono ?_); rintro e w5 ⟨rfl, hb⟩; have hbs := hb.size; try simp only [World.size_alloc, World.size_setCell, World.size_drew] at hbs) | (go_at_call 11; (with_reducible refine (K.ip.call _).mono ?_); rintro e w5 ⟨rfl, hb⟩; have hbs := hb.size; try simp only [World.size_alloc, World.size_setCell, World.size_drew] at hbs) | (go_at_call 14; (first | (with_reducible refine (K.i1.call _).mono ?_) | (with_reducible refine (K.i0.call _).mono ?_)); rintro e w7 ⟨rfl, hb⟩; have hbs := hb.size; try simp only [World.size_alloc, World.size_setCell, World.size_drew] at hbs))
            all_goals
              have HZ : Hid (Below X.heap.size X w7) := And.left (And.right (And.right (And.right (And.right (And.right (And.right (And.right (And.right (by assumption))))))))) 
              rename_i hHeld
              clear hHeld
              go_wp2
              go_roundw
              case rel => exact ⟨j + 1, by omega, by go_num, HZ.out⟩
              case measure => simp [intOf]; omega
        · have o1 : (FloatKind.f32.format.order v nu != some .eq) = false := by rw [← hnu, bne, K.yes rfl]; rfl
          go_upto_region 12 with (simp only [hop])
          go_cut [12] (fun sb wx => ∃ nb : Nat, sb = .pointer (some ⟨nb, 0, Option.none⟩) ∧ nb < wx.heap.size ∧ wx.cell? ⟨nb, 0, Option.none⟩ = some (.complex .f32 rr.a1 rr.a2) ∧ wx.cell? ⟨nb, 1, Option.none⟩ = some (.complex .f32 rr.b1 rr.b2) ∧ wx.cell? ⟨nb, 2, Option.none⟩ = some (.complex .f32 rr.c1 rr.c2) ∧ wx.cell? ⟨nb, 3, Option.none⟩ = some (.float .f32 rr.r) ∧ wx.cell? ⟨nb, 4, Option.none⟩ = some (.float .f32 rr.g) ∧ wx.cell? ⟨nb, 5, Option.none⟩ = some (.float .f32 rr.b) ∧ wx.cell? ⟨nb, 6, Option.none⟩ = some (.float .f32 rr.k) ∧ Below X.heap.size X wx ∧ X.heap.size ≤ wx.heap.size ∧ ng < wx.heap.size ∧ g < wx.heap.size ∧ wx.cell? ⟨ng, 0, Option.none⟩ = some (.int .i64 (t)) ∧ wx.cell? ⟨ng, 1, Option.none⟩ = some (.bool (true)) ∧ wx.cell? ⟨g, j * 7, Option.none⟩ = some (.complex .f32 s.a1 s.a2) ∧ wx.cell? ⟨g, j * 7 + 1, Option.none⟩ = some (.complex .f32 s.b1 s.b2) ∧ wx.cell? ⟨g, j * 7 + 2, Option.none⟩ = some (.complex .f32 s.c1 s.c2) ∧ wx.cell? ⟨g, j * 7 + 3, Option.none⟩ = some (.float .f32 s.r) ∧ wx.cell? ⟨g, j * 7 + 4, Option.none⟩ = some (.float .f32 s.g) ∧ wx.cell? ⟨g, j * 7 + 5, Option.none⟩ = some (.float .f32 s.b) ∧ wx.cell? ⟨g, j * 7 + 6, Option.none⟩ = some (.float .f32 s.k))
          case first =>
            go_region_held3 (fun wx => Below X.heap.size X wx ∧ X.heap.size ≤ wx.heap.size ∧ ng < wx.heap.size ∧ g < wx.heap.size ∧ wx.cell? ⟨ng, 0, Option.none⟩ = some (.int .i64 (t)) ∧ wx.cell? ⟨ng, 1, Option.none⟩ = some (.bool (true)) ∧ wx.cell? ⟨g, j * 7, Option.none⟩ = some (.complex .f32 s.a1 s.a2) ∧ wx.cell? ⟨g, j * 7 + 1, Option.none⟩ = some (.complex .f32 s.b1 s.b2) ∧ wx.cell? ⟨g, j * 7 + 2, Option.none⟩ = some (.complex .f32 s.c1 s.c2) ∧ wx.cell? ⟨g, j * 7 + 3, Option.none⟩ = some (.float .f32 s.r) ∧ wx.cell? ⟨g, j * 7 + 4, Option.none⟩ = some (.float .f32 s.g) ∧ wx.cell? ⟨g, j * 7 + 5, Option.none⟩ = some (.float .f32 s.b) ∧ wx.cell? ⟨g, j * 7 + 6, Option.none⟩ = some (.float .f32 s.k))
              (((repeat' apply And.intro) <;> first | (with_reducible assumption) | (((repeat (first | (with_reducible assumption) | (with_reducible exact cNewAt (by first | rfl | (simp only [World.size_alloc, World.size_setCell, World.size_drew]; done) | omega) rfl) | (with_reducible exact sNewAt (by first | rfl | (simp only [World.size_alloc, World.size_setCell, World.size_drew]; done) | omega) rfl) | (simp; done) | (with_reducible apply cAlloc) | (with_reducible apply cDrew) | (with_reducible refine cSet (by dsimp only; omega) ?_) | (with_reducible refine cSetOff (by dsimp only; omega) ?_) | (with_reducible apply cSame) | (with_reducible refine cBelow (by assumption) ?_) | (with_reducible apply sAlloc) | (with_reducible apply sDrew) | (with_reducible refine sBelow (by assumption) ?_) | (with_reducible refine sSet (by dsimp only; omega) ?_))); first | done | (simp [*]; done)); done) | (simp only [World.size_alloc, World.size_setCell, World.size_drew]; omega) | omega | (go_keep; done) | ((repeat' (first | (with_reducible exact Below.refl _ _) | (with_reducible assumption) | (with_reducible refine Below.alloc ?_ ?_ _) | (with_reducible refine Below.drew ?_) | (with_reducible refine Below.setCell ?_ ?_ _) | (with_reducible refine Below.trans ?_ (Below.mono (by assumption) ?_)) | (with_reducible exact Nat.le_refl _) | omega | (simp only [World.size_alloc, World.size_setCell, World.size_drew]; omega) | (simp; omega) | (simp; done))); done)))
              (first | (go_at_call 12; (with_reducible refine (K.ac.call _).mono ?_); rintro e w5 ⟨rfl, hb⟩; have hbs := hb.size; try simp only [World.size_alloc, World.size_setCell, World.size_drew] at hbs; (try ((first | have hN := Blk.belowAt hb (Blk.drew (Blk.new _ _ _)) | have hN := Blk.belowAt hb (Blk.new _ _ _)); (try simp only [World.size_drew] at hN); have y0 := Blk.cellAt (i := 0) hN rfl; have y1 := Blk.cellAt (i := 1) hN rfl; have y2 := Blk.cellAt (i := 2) hN rfl; have y3 := Blk.cellAt (i := 3) hN rfl; have y4 := Blk.cellAt (i := 4) hN rfl; have y5 := Blk.cellAt (i := 5) hN rfl; have y6 := Blk.cellAt (i := 6) hN rfl; simp only [List.getElem_toArray, List.getElem_cons_zero, List.getElem_cons_succ] at y0 y1 y2 y3 y4 y5 y6; have h0 := hN.free 0; have h1 := hN.free 1; have h2 := hN.free 2; have h3 := hN.free 3; have h4 := hN.free 4; have h5 := hN.free 5; have h6 := hN.free 6))))
            all_goals (go_wp2_with fail; go_meet; refine ⟨_, rfl, ?_⟩; ((repeat' apply And.intro) <;> first | (with_reducible assumption) | (((repeat (first | (with_reducible assumption) | (with_reducible exact cNewAt (by first | rfl | (simp only [World.size_alloc, World.size_setCell, World.size_drew]; done) | omega) rfl) | (with_reducible exact sNewAt (by first | rfl | (simp only [World.size_alloc, World.size_setCell, World.size_drew]; done) | omega) rfl) | (simp; done) | (with_reducible apply cAlloc) | (with_reducible apply cDrew) | (with_reducible refine cSet (by dsimp only; omega) ?_) | (with_reducible refine cSetOff (by dsimp only; omega) ?_) | (with_reducible apply cSame) | (with_reducible refine cBelow (by assumption) ?_) | (with_reducible apply sAlloc) | (with_reducible apply sDrew) | (with_reducible refine sBelow (by assumption) ?_) | (with_reducible refine sSet (by dsimp only; omega) ?_))); first | done | (simp [*]; done)); done) | (simp only [World.size_alloc, World.size_setCell, World.size_drew]; omega) | omega | (go_keep; done) | ((repeat' (first | (with_reducible exact Below.refl _ _) | (with_reducible assumption) | (with_reducible refine Below.alloc ?_ ?_ _) | (with_reducible refine Below.drew ?_) | (with_reducible refine Below.setCell ?_ ?_ _) | (with_reducible refine Below.trans ?_ (Below.mono (by assumption) ?_)) | (with_reducible exact Nat.le_refl _) | omega | (simp only [World.size_alloc, World.size_setCell, World.size_drew]; omega) | (simp; omega) | (simp; done))); done)))
          case rest =>
            obtain ⟨nb, rfl, hnb, q0, q1, q2, q3, q4, q5, q6, hB3, hsz3, hlg3, hgg3, g03, g13, d03, d13, d23, d33, d43, d53, d63⟩ := hcut
            clear hop
            go_wp2_with fail
            go_region_held3 (fun wx => nb < wx.heap.size ∧ wx.cell? ⟨nb, 0, Option.none⟩ = some (.complex .f32 rr.a1 rr.a2) ∧ wx.cell? ⟨nb, 1, Option.none⟩ = some (.complex .f32 rr.b1 rr.b2) ∧ wx.cell? ⟨nb, 2, Option.none⟩ = some (.complex .f32 rr.c1 rr.c2) ∧ wx.cell? ⟨nb, 3, Option.none⟩ = some (.float .f32 rr.r) ∧ wx.cell? ⟨nb, 4, Option.none⟩ = some (.float .f32 rr.g) ∧ wx.cell? ⟨nb, 5, Option.none⟩ = some (.float .f32 rr.b) ∧ wx.cell? ⟨nb, 6, Option.none⟩ = some (.float .f32 rr.k) ∧ Below X.heap.size X wx ∧ X.heap.size ≤ wx.heap.size ∧ ng < wx.heap.size ∧ g < wx.heap.size ∧ wx.cell? ⟨ng, 0, Option.none⟩ = some (.int .i64 (t)) ∧ wx.cell? ⟨ng, 1, Option.none⟩ = some (.bool (true)) ∧ wx.cell? ⟨g, j * 7, Option.none⟩ = some (.complex .f32 s.a1 s.a2) ∧ wx.cell? ⟨g, j * 7 + 1, Option.none⟩ = some (.complex .f32 s.b1 s.b2) ∧ wx.cell? ⟨g, j * 7 + 2, Option.none⟩ = some (.complex .f32 s.c1 s.c2) ∧ wx.cell? ⟨g, j * 7 + 3, Option.none⟩ = some (.float .f32 s.r) ∧ wx.cell? ⟨g, j * 7 + 4, Option.none⟩ = some (.float .f32 s.g) ∧ wx.cell? ⟨g, j * 7 + 5, Option.none⟩ = some (.float .f32 s.b) ∧ wx.cell? ⟨g, j * 7 + 6, Option.none⟩ = some (.float .f32 s.k))
              (((repeat' apply And.intro) <;> first | (with_reducible assumption) | (((repeat (first | (with_reducible assumption) | (with_reducible exact cNewAt (by first | rfl | (simp only [World.size_alloc, World.size_setCell, World.size_drew]; done) | omega) rfl) | (with_reducible exact sNewAt (by first | rfl | (simp only [World.size_alloc, World.size_setCell, World.size_drew]; done) | omega) rfl) | (simp; done) | (with_reducible apply cAlloc) | (with_reducible apply cDrew) | (with_reducible refine cSet (by dsimp only; omega) ?_) | (with_reducible refine cSetOff (by dsimp only; omega) ?_) | (with_reducible apply cSame) | (with_reducible refine cBelow (by assumption) ?_) | (with_reducible apply sAlloc) | (with_reducible apply sDrew) | (with_reducible refine sBelow (by assumption) ?_) | (with_reducible refine sSet (by dsimp only; omega) ?_))); first | done | (simp [*]; done)); done) | (simp only [World.size_alloc, World.size_setCell, World.size_drew]; omega) | omega | (go_keep; done) | ((repeat' (first | (with_reducible exact Below.refl _ _) | (with_reducible assumption) | (with_reducible refine Below.alloc ?_ ?_ _) | (with_reducible refine Below.drew ?_) | (with_reducible refine Below.setCell ?_ ?_ _) | (with_reducible refine Below.trans ?_ (Below.mono (by assumption) ?_)) | (with_reducible exact Nat.le_refl _) | omega | (simp only [World.size_alloc, World.size_setCell, World.size_drew]; omega) | (simp; omega) | (simp; done))); done)))
              (first | (go_at_call 13; (with_reducible refine (K.sr.call _).mono ?_); rintro e w5 ⟨rfl, hb⟩; have hbs := hb.size; try simp only [World.size_alloc, World.size_setCell, World.size_drew] at hbs) | (go_at_call 11; (with_reducible refine (K.ip.call _).mono ?_); rintro e w5 ⟨rfl, hb⟩; have hbs := hb.size; try simp only [World.size_alloc, World.size_setCell, World.size_drew] at hbs) | (go_at_call 14; (first | (with_reducible refine (K.i1.call _).mono ?_) | (with_reducible refine (K.i0.call _).mono ?_)); rintro e w7 ⟨rfl, hb⟩; have hbs := hb.size; try simp only [World.size_alloc, World.size_setCell, World.size_drew] at hbs))
            all_goals
              have HZ : Hid (Below X.heap.size X w7) := And.left (And.right (And.right (And.right (And.right (And.right (And.right (And.right (And.right (by assumption))))))))) 
              rename_i hHeld
              clear hHeld
              go_wp2
              go_roundw
              case rel => exact ⟨j + 1, by omega, by go_num, HZ.out⟩
              case measure => simp [intOf]; omega
      · have hjm : j = l.length := by omega
        subst hjm
        clear hbel
        go_wp2
        go_ret
        exact ⟨rfl, HBRR.out⟩
  · go_enter Try.func3, Try.ntmps3
    go_wp2_with fail
    refine (big_yes _ _ _ _ hl).mono ?_
    rintro e w0 ⟨rfl, rfl⟩
    go_wp2
    all_goals (go_returns; exact ⟨rfl, by (repeat' (first | (with_reducible exact Below.refl _ _) | (with_reducible assumption) | (with_reducible refine Below.alloc ?_ ?_ _) | (with_reducible refine Below.drew ?_) | (with_reducible refine Below.setCell ?_ ?_ _) | (with_reducible refine Below.trans ?_ (Below.mono (by assumption) ?_)) | (with_reducible exact Nat.le_refl _) | omega | (simp only [World.size_alloc, World.size_setCell, World.size_drew]; omega) | (simp; omega) | (simp; done)))⟩)
end Go.Proofs.Ytkcfekhpppihhaa.wFnSides
