/-
  The call of FnCells returns true and writes nothing that was there.
-/
import Derived.Test.YtlnikapkheldeaaHb
import Derived.Test.YtlnikapkheldeaaFh
import Derived.Deep.RegionHeld3
import Derived.Deep.DeepCutAuto
namespace Go.Proofs.Ytlnikapkheldeaa.wFnCells
open Go.ChangeShapes Go.WideShapes Go.ChangeAt Go.RowKit Go.Joins
set_option linter.unusedSimpArgs false
set_option linter.unusedVariables false
set_option maxRecDepth 100000
attribute [local go_sem] store_f
open Ieee
attribute [local go_sem] store_c

/-- All that the law asks of one cell. -/
structure Cells (n k t u : Int) (f g : Bool) (x y p q : Nat) (c d tu b : Int) (fu e : Bool) : Prop where
  p1 : CellPl n k x y true
  c1 : CellM n k t f c
  p2 : CellPl n c p q true
  a : ActM t f x y p q
  e1 : (FloatKind.f32.format.order p p == some .eq) = true
  e2 : (FloatKind.f32.format.order q q == some .eq) = true
  c2 : CellM n c u g d
  th : ThenM t f u g tu fu
  c3 : CellM n k tu fu d
  bk : BackM t f b e
  c4 : CellM n c b e k
theorem cells_of {n k t u : Nat} (f g : Bool) (h1 : 1 ≤ n) (h8 : n ≤ 8) (hk : k < n * n) (ht : t < 4) (hu : u < 4) : ∃ x y p q c d tu b fu e, Cells n k t u f g x y p q c d tu b fu e := by
  have hI := then_in ⟨t, ht⟩ ⟨u, hu⟩ g
  have hJ := back_in ⟨t, ht⟩ f
  dsimp only at hI hJ
  have hc := cell_lt' (f := f) h8 hk ht
  have C3 := cellM_yes (thenF t u f g) h1 h8 hk hI.2
  have C4 := cellM_yes (backF t f) h1 h8 hc hJ.2
  rw [← hI.1, ← cell_then h8 hk ht hu] at C3
  rw [← hJ.1, cell_back h8 hk ht] at C4
  obtain ⟨b1, b2⟩ := pl_bd h1 hc
  exact ⟨_, _, _, _, _, _, _, _, _, _, cellPl_yes h1 h8 hk, cellM_yes f h1 h8 hk ht, cellPl_yes h1 h8 hc, act_place f h1 h8 hk ht, order_self (ok_fin (iw_of (by omega) (by omega)).1), order_self (ok_fin (iw_of (by omega) (by omega)).1), cellM_yes g h1 h8 hc hu, ⟨fun w => thenSym_i t u f g w⟩, C3, ⟨fun w => backSym_i t f w⟩, C4⟩

set_option maxHeartbeats 32000000 in
theorem walk (a : Option Addr) (len cap : Nat) (bs : List Int) (w : World) (hrow : ByteRow w w.heap.size a len bs) :
    Calls Try.prog 3 #[.slice a len cap] w fun e w' => e = .returned (.bool true) ∧ Below w.heap.size w w' := by
  by_cases hl : len ≤ 4096
  · go_enter Try.func3, Try.ntmps3
    go_wp2_with fail
    refine (big_no _ _ _ _ hl).mono ?_
    rintro e w0 ⟨rfl, rfl⟩
    go_wp2_with fail
    refine (drawSyms_s a len cap bs _ hrow hl).mono ?_
    rintro e w1 ⟨i, i2, i3, ⟨rfl, hi, hj, hk, hb1⟩⟩
    obtain ⟨n, hn⟩ : ∃ n : Nat, n = 1 + len % 8 := ⟨_, rfl⟩
    have h1 : 1 ≤ n := by omega
    have h8 : n ≤ 8 := by omega
    have hnn : 1 + (len : Int) % 8 = (n : Int) := by omega
    have HNN : Hid (1 + (len : Int) % 8 = (n : Int)) := hnn
    have e1 : (symK i).1 = ((i % 4 : Nat) : Int) := rfl
    have e2 : (symK i2).1 = ((i2 % 4 : Nat) : Int) := rfl
    rw [e1, e2]
    have ht : i % 4 < 4 := by omega
    have hu : i2 % 4 < 4 := by omega
    clear e1 e2 hn hnn
    generalize i % 4 = t at ht ⊢
    generalize i2 % 4 = u at hu ⊢
    generalize (symK i).2 = f
    generalize (symK i2).2 = g
    generalize (symK i3).1 = tt3
    generalize (symK i3).2 = ff3
    have HK : Hid (∀ k, k < n * n → ∃ x y p q c d tu b fu e, Cells n k t u f g x y p q c d tu b fu e) := fun k hk => cells_of f g h1 h8 hk ht hu
    have s1 := hb1.size
    have HB1 : Hid (Below w.heap.size w w1) := hb1
    clear hb1 hrow hi hj hk ht hu
    generalize (t : Int) = t at *
    generalize (u : Int) = u at *
    go_wp2_with fail
    rw [HNN.out]
    generalize hX : ((w1.alloc (.cells #[.int .i64 t, .bool f] 25)).alloc (.cells #[.int .i64 u, .bool g] 25)).alloc (.cells #[.int .i64 tt3, .bool ff3] 25) = X
    have HBX : Hid (Below w.heap.size w X) := by rw [← hX]; exact ((HB1.out.alloc (by omega) _).alloc (by simp; omega) _).alloc (by simp; omega) _
    have S0 : Hid (Blk X w1.heap.size #[.int .i64 t, .bool f] 25) := by rw [← hX]; exact ((Blk.new _ _ _).alloc).alloc
    have S1 : Hid (Blk X (w1.heap.size + 1) #[.int .i64 u, .bool g] 25) := by rw [← hX]; exact (Blk.newAt (by simp)).alloc
    have sX : X.heap.size = w1.heap.size + 3 := by rw [← hX]; simp
    have sWX : w.heap.size ≤ X.heap.size := by omega
    have l0 : w1.heap.size < X.heap.size := by omega
    have l1 : w1.heap.size + 1 < X.heap.size := by omega
    clear hX sX s1 HB1
    generalize w1.heap.size + 1 = n1 at *
    generalize w1.heap.size = n0 at *
    obtain ⟨N, hN⟩ : ∃ N : Nat, N = n * n := ⟨_, rfl⟩
    have hN64 : N ≤ 64 := by rw [hN]; exact Nat.le_trans (Nat.mul_le_mul h8 h8) (by omega)
    have hNN : (n : Int) * (n : Int) = (N : Int) := by rw [hN]; simp
    rw [← hN] at HK
    clear hN
    go_loopw [7] (fun i wr => ∃ j : Nat, j ≤ N ∧ i = .int .i64 j ∧ Below X.heap.size X wr) (fun i _ => N - (intOf i).toNat)
    case atStart => exact ⟨0, by omega, rfl, by have := Below.refl X.heap.size X; exact this⟩
    case round =>
      obtain ⟨j, hj, rfl, hbel⟩ := hrel
      have HB : Hid (Below X.heap.size X wr) := hbel
      have hbs := hbel.size
      have HBR : Hid (Below w.heap.size w wr) := HBX.out.trans (hbel.mono sWX)
      by_cases hlt : j < N
      · obtain ⟨x, y, p, q, c, d, tu, b, fu, e, K⟩ := HK.out j hlt
        have g0 := Blk.cellAt (i := 0) (Blk.below S0.out hbel) rfl
        have g1 := Blk.cellAt (i := 1) (Blk.below S0.out hbel) rfl
        have k0 := Blk.cellAt (i := 0) (Blk.below S1.out hbel) rfl
        have k1 := Blk.cellAt (i := 1) (Blk.below S1.out hbel) rfl
        simp only [List.getElem_toArray, List.getElem_cons_zero, List.getElem_cons_succ] at g0 g1 k0 k1
        have hl0 : n0 < wr.heap.size := by omega
        have hl1 : n1 < wr.heap.size := by omega
        have HS0 : Hid (wr.cell? ⟨n0, 0, Option.none⟩ = some (.int .i64 (t)) ∧ wr.cell? ⟨n0, 1, Option.none⟩ = some (.bool (f))) := ⟨g0, g1⟩
        have HS1 : Hid (wr.cell? ⟨n1, 0, Option.none⟩ = some (.int .i64 (u)) ∧ wr.cell? ⟨n1, 1, Option.none⟩ = some (.bool (g))) := ⟨k0, k1⟩
        clear hbel g0 g1 k0 k1
        go_wp2_with fail
        refine (K.p1.call _).mono ?_
        rintro e w2 ⟨rfl, hb⟩
        have HB2 : Hid (Below X.heap.size X w2) := HB.out.trans (hb.mono hbs)
        have hs2 := HB2.out.size
        have g0 := cBelow hb HS0.out.1
        have g1 := cBelow hb HS0.out.2
        have HT1 : Hid (w2.cell? ⟨n1, 0, Option.none⟩ = some (.int .i64 (u)) ∧ w2.cell? ⟨n1, 1, Option.none⟩ = some (.bool (g))) := ⟨cBelow hb HS1.out.1, cBelow hb HS1.out.2⟩
        have hl02 : n0 < w2.heap.size := by omega
        clear hb HB HS0 HS1 hbs hl0 hl1
        have HT0 : Hid (w2.cell? ⟨n0, 0, Option.none⟩ = some (.int .i64 (t)) ∧ w2.cell? ⟨n0, 1, Option.none⟩ = some (.bool (f))) := ⟨g0, g1⟩
        go_wp2_with fail
        refine (K.c1.call _).mono ?_
        rintro e w3 ⟨rfl, hb⟩
        have HB3 : Hid (Below X.heap.size X w3) := HB2.out.trans (hb.mono hs2)
        have hs3 := HB3.out.size
        have HU0 : Hid (w3.cell? ⟨n0, 0, Option.none⟩ = some (.int .i64 (t)) ∧ w3.cell? ⟨n0, 1, Option.none⟩ = some (.bool (f))) := ⟨cBelow hb HT0.out.1, cBelow hb HT0.out.2⟩
        have HU1 : Hid (w3.cell? ⟨n1, 0, Option.none⟩ = some (.int .i64 (u)) ∧ w3.cell? ⟨n1, 1, Option.none⟩ = some (.bool (g))) := ⟨cBelow hb HT1.out.1, cBelow hb HT1.out.2⟩
        clear hb HB2 HT0 HT1 hs2 hl02 g0 g1
        go_wp2_with fail
        refine (K.p2.call _).mono ?_
        rintro e w4 ⟨rfl, hb⟩
        have HB4 : Below X.heap.size X w4 := HB3.out.trans (hb.mono hs3)
        have hs4 := HB4.size
        have g0 := cBelow hb HU0.out.1
        have g1 := cBelow hb HU0.out.2
        have k0 := cBelow hb HU1.out.1
        have k1 := cBelow hb HU1.out.2
        have hl0 : n0 < w4.heap.size := by omega
        have hl1 : n1 < w4.heap.size := by omega
        have o1 := K.e1
        have o2 := K.e2
        clear hb HB3 HU0 HU1 hs3
        go_wp2_with fail
        go_region_held3 (fun wx => Below X.heap.size X wx ∧ X.heap.size ≤ wx.heap.size ∧ n0 < wx.heap.size ∧ n1 < wx.heap.size ∧ wx.cell? ⟨n0, 0, Option.none⟩ = some (.int .i64 (t)) ∧ wx.cell? ⟨n0, 1, Option.none⟩ = some (.bool (f)) ∧ wx.cell? ⟨n1, 0, Option.none⟩ = some (.int .i64 (u)) ∧ wx.cell? ⟨n1, 1, Option.none⟩ = some (.bool (g)))
          (((repeat' apply And.intro) <;> first | (with_reducible assumption) | (((repeat (first | (with_reducible assumption) | (with_reducible exact cNewAt (by first | rfl | (simp only [World.size_alloc, World.size_setCell, World.size_drew]; done) | omega) rfl) | (with_reducible exact sNewAt (by first | rfl | (simp only [World.size_alloc, World.size_setCell, World.size_drew]; done) | omega) rfl) | (simp; done) | (with_reducible apply cAlloc) | (with_reducible apply cDrew) | (with_reducible refine cSet (by dsimp only; omega) ?_) | (with_reducible refine cSetOff (by dsimp only; omega) ?_) | (with_reducible apply cSame) | (with_reducible refine cBelow (by assumption) ?_) | (with_reducible apply sAlloc) | (with_reducible apply sDrew) | (with_reducible refine sBelow (by assumption) ?_) | (with_reducible refine sSet (by dsimp only; omega) ?_))); first | done | (simp [*]; done)); done) | (simp only [World.size_alloc, World.size_setCell, World.size_drew]; omega) | omega | (go_keep; done) | ((repeat' (first | (with_reducible exact Below.refl _ _) | (with_reducible assumption) | (with_reducible refine Below.alloc ?_ ?_ _) | (with_reducible refine Below.drew ?_) | (with_reducible refine Below.setCell ?_ ?_ _) | (with_reducible refine Below.trans ?_ (Below.mono (by assumption) ?_)) | (with_reducible exact Nat.le_refl _) | omega | (simp only [World.size_alloc, World.size_setCell, World.size_drew]; omega) | (simp; omega) | (simp; done))); done)))
          (first | (go_at_call 24; (with_reducible refine (K.a.call _).mono ?_); rintro e w5 ⟨rfl, hb⟩; have hbs := hb.size; try simp only [World.size_alloc, World.size_setCell, World.size_drew] at hbs) | (go_at_call 25; (with_reducible refine (K.th.call _).mono ?_); rintro e w5 ⟨rfl, hb⟩; have hbs := hb.size; try simp only [World.size_alloc, World.size_setCell, World.size_drew] at hbs) | (go_at_call 26; (with_reducible refine (K.bk.call _).mono ?_); rintro e w5 ⟨rfl, hb⟩; have hbs := hb.size; try simp only [World.size_alloc, World.size_setCell, World.size_drew] at hbs) | (go_at_call 23; (first | (with_reducible refine (K.c2.call _).mono ?_) | (with_reducible refine (K.c3.call _).mono ?_) | (with_reducible refine (K.c4.call _).mono ?_)); rintro e w5 ⟨rfl, hb⟩; have hbs := hb.size; try simp only [World.size_alloc, World.size_setCell, World.size_drew] at hbs))
        rename_i hHeld
        have HZ : Hid (Below X.heap.size X w5) := hHeld.1
        clear hHeld g0 g1 k0 k1
        go_wp2
        go_roundw
        case rel => exact ⟨j + 1, by omega, by go_num, HZ.out⟩
        case measure => simp [intOf]; omega
      · have hjm : j = N := by omega
        subst hjm
        clear hbel
        go_wp2
        go_ret
        exact ⟨rfl, HBR.out⟩
  · go_enter Try.func3, Try.ntmps3
    go_wp2_with fail
    refine (big_yes _ _ _ _ hl).mono ?_
    rintro e w0 ⟨rfl, rfl⟩
    go_wp2
    all_goals (go_returns; exact ⟨rfl, by (repeat' (first | (with_reducible exact Below.refl _ _) | (with_reducible assumption) | (with_reducible refine Below.alloc ?_ ?_ _) | (with_reducible refine Below.drew ?_) | (with_reducible refine Below.setCell ?_ ?_ _) | (with_reducible refine Below.trans ?_ (Below.mono (by assumption) ?_)) | (with_reducible exact Nat.le_refl _) | omega | (simp only [World.size_alloc, World.size_setCell, World.size_drew]; omega) | (simp; omega) | (simp; done)))⟩)
end Go.Proofs.Ytlnikapkheldeaa.wFnCells
