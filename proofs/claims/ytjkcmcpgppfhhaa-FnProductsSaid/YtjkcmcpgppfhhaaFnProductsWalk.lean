/-
  The call of FnProducts returns true and writes nothing that was there.
-/
import Derived.Test.YtjkcmcpgppfhhaaFo
import Derived.Test.YtjkcmcpgppfhhaaFh
import Derived.Deep.RegionHeld3
import Derived.Deep.DeepCutAuto
namespace Go.Proofs.Ytjkcmcpgppfhhaa.wFnProducts
open Go.ChangeShapes Go.WideShapes Go.ChangeAt Go.RowKit Go.Joins
set_option linter.unusedSimpArgs false
set_option linter.unusedVariables false
set_option maxRecDepth 100000
attribute [local go_sem] store_f
open Ieee

set_option maxHeartbeats 16000000 in
theorem walk (a : Option Addr) (len cap : Nat) (bs : List Int) (w : World) (hrow : ByteRow w w.heap.size a len bs) :
    Calls Try.prog 3 #[.slice a len cap] w fun e w' => e = .returned (.bool true) ∧ Below w.heap.size w w' := by
  have HR : Hid (ByteRow w w.heap.size a len bs) := hrow
  clear hrow
  by_cases hl : len ≤ 4096
  · go_enter Try.func3, Try.ntmps3
    go_wp2_with fail
    refine (big_no _ _ _ _ hl).mono ?_
    rintro e w0 ⟨rfl, rfl⟩
    go_wp2_with fail
    refine (drawSyms_s a len cap bs _ HR.out hl).mono ?_
    rintro e w1 ⟨i, j, k, ⟨rfl, hi, hj, hk, hb1⟩⟩
    have B1 : Hid (Below w.heap.size w w1) := hb1
    have s1 := hb1.size
    have ei : (symK i).1 = ((i % 4 : Nat) : Int) := rfl
    have ej : (symK j).1 = ((j % 4 : Nat) : Int) := rfl
    have ek : (symK k).1 = ((k % 4 : Nat) : Int) := rfl
    rw [ei, ej, ek]
    have ht : i % 4 < 4 := by omega
    have hu : j % 4 < 4 := by omega
    have hv : k % 4 < 4 := by omega
    clear hb1 ei ej ek
    generalize i % 4 = t at ht ⊢
    generalize j % 4 = u at hu ⊢
    generalize k % 4 = v at hv ⊢
    generalize (symK i).2 = f
    generalize (symK j).2 = g
    generalize (symK k).2 = h
    go_wp2_with fail
    generalize hW : ((w1.alloc (.cells #[.int .i64 t, .bool f] 25)).alloc (.cells #[.int .i64 u, .bool g] 25)).alloc (.cells #[.int .i64 v, .bool h] 25) = W
    have hWs : W.heap.size = w1.heap.size + 3 := by rw [← hW]; simp
    have HB : Hid (Below w.heap.size w W) := by rw [← hW]; exact (((B1.out.alloc (by omega) _).alloc (by simp; omega) _).alloc (by simp; omega) _)
    have R0 : Hid (Blk W w1.heap.size #[.int .i64 t, .bool f] 25) := by rw [← hW]; exact ((Blk.new _ _ _).alloc).alloc
    have R1 : Hid (Blk W (w1.heap.size + 1) #[.int .i64 u, .bool g] 25) := by rw [← hW]; exact (Blk.newAt (by simp)).alloc
    have R2 : Hid (Blk W (w1.heap.size + 1 + 1) #[.int .i64 v, .bool h] 25) := by rw [← hW]; exact Blk.newAt (by simp)
    clear hW
    have hWl : w.heap.size ≤ W.heap.size := by omega
    refine (drawPlace_s a len cap bs _ ((HR.out.of HB.out).mono hWl) hl).mono ?_
    rintro e w2 ⟨kk, x, y, ⟨rfl, hkk, hx, hy, hb2⟩⟩
    obtain ⟨p, r, s, b, pa, pc, pd, pe, x1, y1, x2, y2, x3, y3, PR⟩ := prods_of f g h ht hu hv hx hy
    have s2 := hb2.size
    have B2 : Hid (Below w.heap.size w w2) := HB.out.trans (hb2.mono hWl)
    have Q0 : Hid (Blk w2 w1.heap.size #[.int .i64 t, .bool f] 25) := Blk.belowAt hb2 R0.out
    have Q1 : Hid (Blk w2 (w1.heap.size + 1) #[.int .i64 u, .bool g] 25) := Blk.belowAt hb2 R1.out
    have Q2 : Hid (Blk w2 (w1.heap.size + 1 + 1) #[.int .i64 v, .bool h] 25) := Blk.belowAt hb2 R2.out
    clear hb2 R0 R1 R2 HB HR B1 hx hy hkk ht hu hv hi hj hk
    generalize (t : Int) = t at *
    generalize (u : Int) = u at *
    generalize (v : Int) = v at *
    go_wp2_with fail
    generalize hX : w2.alloc (.cells #[.int .i64 0, .bool false] 25) = X
    have hXs : X.heap.size = w2.heap.size + 1 := by rw [← hX]; simp
    have D0 : Blk X w1.heap.size #[.int .i64 t, .bool f] 25 := by rw [← hX]; exact Q0.out.alloc
    have D1 : Blk X (w1.heap.size + 1) #[.int .i64 u, .bool g] 25 := by rw [← hX]; exact Q1.out.alloc
    have D2 : Blk X (w1.heap.size + 1 + 1) #[.int .i64 v, .bool h] 25 := by rw [← hX]; exact Q2.out.alloc
    have D3 : Blk X w2.heap.size #[.int .i64 0, .bool false] 25 := by rw [← hX]; exact Blk.new _ _ _
    have hB : Below w.heap.size w X := by rw [← hX]; exact B2.out.alloc (by omega) _
    have sX : w.heap.size ≤ X.heap.size := hB.size
    clear hX Q0 Q1 Q2 B2
    have c0 := Blk.cellAt (i := 0) D0 rfl
    have c1 := Blk.cellAt (i := 1) D0 rfl
    have c2 := Blk.cellAt (i := 0) D1 rfl
    have c3 := Blk.cellAt (i := 1) D1 rfl
    have c4 := Blk.cellAt (i := 0) D2 rfl
    have c5 := Blk.cellAt (i := 1) D2 rfl
    have c6 := Blk.cellAt (i := 0) D3 rfl
    have c7 := Blk.cellAt (i := 1) D3 rfl
    have l0 := D0.lt
    have l1 := D1.lt
    have l2 := D2.lt
    have l3 := D3.lt
    simp only [List.getElem_toArray, List.getElem_cons_zero, List.getElem_cons_succ] at c0 c1 c2 c3 c4 c5 c6 c7
    clear D0 D1 D2 D3 hWs hWl s1 s2 hXs
    generalize w2.heap.size = n3 at *
    generalize w1.heap.size + 1 + 1 = n2 at *
    generalize w1.heap.size + 1 = n1 at *
    generalize w1.heap.size = n0 at *
    have E1 := fun w => run_eq_sym r pc w
    have E2 := fun w => run_eq_sym 0 false w
    have E3 := fun w => run_eq_sym t f w
    go_cut [56] (fun sl wx => sl = .bool false ∧ Below w.heap.size w wx ∧ w.heap.size ≤ wx.heap.size ∧ n0 < wx.heap.size ∧ n1 < wx.heap.size ∧ wx.cell? ⟨n0, 0, Option.none⟩ = some (.int .i64 (t)) ∧ wx.cell? ⟨n0, 1, Option.none⟩ = some (.bool (f)) ∧ wx.cell? ⟨n1, 0, Option.none⟩ = some (.int .i64 (u)) ∧ wx.cell? ⟨n1, 1, Option.none⟩ = some (.bool (g)))
    case first =>
      go_region_held3 (fun wx => Below w.heap.size w wx ∧ w.heap.size ≤ wx.heap.size ∧ n0 < wx.heap.size ∧ n1 < wx.heap.size ∧ n2 < wx.heap.size ∧ n3 < wx.heap.size ∧ wx.cell? ⟨n0, 0, Option.none⟩ = some (.int .i64 (t)) ∧ wx.cell? ⟨n0, 1, Option.none⟩ = some (.bool (f)) ∧ wx.cell? ⟨n1, 0, Option.none⟩ = some (.int .i64 (u)) ∧ wx.cell? ⟨n1, 1, Option.none⟩ = some (.bool (g)) ∧ wx.cell? ⟨n2, 0, Option.none⟩ = some (.int .i64 (v)) ∧ wx.cell? ⟨n2, 1, Option.none⟩ = some (.bool (h)) ∧ wx.cell? ⟨n3, 0, Option.none⟩ = some (.int .i64 (0)) ∧ wx.cell? ⟨n3, 1, Option.none⟩ = some (.bool (false)))
        (((repeat' apply And.intro) <;> first | (with_reducible assumption) | (((repeat (first | (with_reducible assumption) | (with_reducible exact cNewAt (by first | rfl | (simp only [World.size_alloc, World.size_setCell, World.size_drew]; done) | omega) rfl) | (with_reducible exact sNewAt (by first | rfl | (simp only [World.size_alloc, World.size_setCell, World.size_drew]; done) | omega) rfl) | (simp; done) | (with_reducible apply cAlloc) | (with_reducible apply cDrew) | (with_reducible refine cSet (by dsimp only; omega) ?_) | (with_reducible refine cSetOff (by dsimp only; omega) ?_) | (with_reducible apply cSame) | (with_reducible refine cBelow (by assumption) ?_) | (with_reducible apply sAlloc) | (with_reducible apply sDrew) | (with_reducible refine sBelow (by assumption) ?_) | (with_reducible refine sSet (by dsimp only; omega) ?_))); first | done | (simp [*]; done)); done) | (simp only [World.size_alloc, World.size_setCell, World.size_drew]; omega) | omega | (go_keep; done) | ((repeat' (first | (with_reducible exact Below.refl _ _) | (with_reducible assumption) | (with_reducible refine Below.alloc ?_ ?_ _) | (with_reducible refine Below.drew ?_) | (with_reducible refine Below.setCell ?_ ?_ _) | (with_reducible refine Below.trans ?_ (Below.mono (by assumption) ?_)) | (with_reducible exact Nat.le_refl _) | omega | (simp only [World.size_alloc, World.size_setCell, World.size_drew]; omega) | (simp; omega) | (simp; done))); done)))
        (first | (go_at_call 9; (first | (with_reducible refine (PR.tu.call _).mono ?_) | (with_reducible refine (PR.tuv.call _).mono ?_) | (with_reducible refine (PR.uv.call _).mono ?_) | (with_reducible refine (PR.tuv'.call _).mono ?_) | (with_reducible refine (PR.tb.call _).mono ?_) | (with_reducible refine (PR.bt.call _).mono ?_) | (with_reducible refine (PR.zt.call _).mono ?_)); rintro e w4 ⟨rfl, hb⟩; obtain ⟨hc, hf⟩ := bcell hb; have HL := keepL (by (repeat (first | (with_reducible assumption) | (with_reducible apply AllLt.alloc) | (with_reducible apply AllLt.setCell) | (with_reducible apply AllLt.drew) | (with_reducible exact AllLt.nil _)))) hb; have hq := HL; simp only [AllLt, and_true, World.size_alloc, World.size_setCell, World.size_drew] at hq; have hbs := hb.size; try simp only [World.size_alloc, World.size_setCell, World.size_drew] at hbs) | (go_at_call 10; (with_reducible refine (PR.bk.call _).mono ?_); rintro e w4 ⟨rfl, hb⟩; obtain ⟨hc, hf⟩ := bcell hb; have HL := keepL (by (repeat (first | (with_reducible assumption) | (with_reducible apply AllLt.alloc) | (with_reducible apply AllLt.setCell) | (with_reducible apply AllLt.drew) | (with_reducible exact AllLt.nil _)))) hb; have hq := HL; simp only [AllLt, and_true, World.size_alloc, World.size_setCell, World.size_drew] at hq; have hbs := hb.size; try simp only [World.size_alloc, World.size_setCell, World.size_drew] at hbs))
      all_goals (go_wp2_with fail; go_meet; refine ⟨rfl, ?_⟩; ((repeat' apply And.intro) <;> first | (with_reducible assumption) | (((repeat (first | (with_reducible assumption) | (with_reducible exact cNewAt (by first | rfl | (simp only [World.size_alloc, World.size_setCell, World.size_drew]; done) | omega) rfl) | (with_reducible exact sNewAt (by first | rfl | (simp only [World.size_alloc, World.size_setCell, World.size_drew]; done) | omega) rfl) | (simp; done) | (with_reducible apply cAlloc) | (with_reducible apply cDrew) | (with_reducible refine cSet (by dsimp only; omega) ?_) | (with_reducible refine cSetOff (by dsimp only; omega) ?_) | (with_reducible apply cSame) | (with_reducible refine cBelow (by assumption) ?_) | (with_reducible apply sAlloc) | (with_reducible apply sDrew) | (with_reducible refine sBelow (by assumption) ?_) | (with_reducible refine sSet (by dsimp only; omega) ?_))); first | done | (simp [*]; done)); done) | (simp only [World.size_alloc, World.size_setCell, World.size_drew]; omega) | omega | (go_keep; done) | ((repeat' (first | (with_reducible exact Below.refl _ _) | (with_reducible assumption) | (with_reducible refine Below.alloc ?_ ?_ _) | (with_reducible refine Below.drew ?_) | (with_reducible refine Below.setCell ?_ ?_ _) | (with_reducible refine Below.trans ?_ (Below.mono (by assumption) ?_)) | (with_reducible exact Nat.le_refl _) | omega | (simp only [World.size_alloc, World.size_setCell, World.size_drew]; omega) | (simp; omega) | (simp; done))); done)))
    case rest =>
      obtain ⟨rfl, hB, sX, l0, l1, c0, c1, c2, c3⟩ := hcut
      have o1 := PR.e1
      have o2 := PR.e2
      have o3 := PR.e3
      have o4 := PR.e4
      clear E1 E2 E3
      go_wp2_with fail
      go_region_held3 (fun wx => Below w.heap.size w wx ∧ w.heap.size ≤ wx.heap.size ∧ n0 < wx.heap.size ∧ n1 < wx.heap.size ∧ wx.cell? ⟨n0, 0, Option.none⟩ = some (.int .i64 (t)) ∧ wx.cell? ⟨n0, 1, Option.none⟩ = some (.bool (f)) ∧ wx.cell? ⟨n1, 0, Option.none⟩ = some (.int .i64 (u)) ∧ wx.cell? ⟨n1, 1, Option.none⟩ = some (.bool (g)))
        (((repeat' apply And.intro) <;> first | (with_reducible assumption) | (((repeat (first | (with_reducible assumption) | (with_reducible exact cNewAt (by first | rfl | (simp only [World.size_alloc, World.size_setCell, World.size_drew]; done) | omega) rfl) | (with_reducible exact sNewAt (by first | rfl | (simp only [World.size_alloc, World.size_setCell, World.size_drew]; done) | omega) rfl) | (simp; done) | (with_reducible apply cAlloc) | (with_reducible apply cDrew) | (with_reducible refine cSet (by dsimp only; omega) ?_) | (with_reducible refine cSetOff (by dsimp only; omega) ?_) | (with_reducible apply cSame) | (with_reducible refine cBelow (by assumption) ?_) | (with_reducible apply sAlloc) | (with_reducible apply sDrew) | (with_reducible refine sBelow (by assumption) ?_) | (with_reducible refine sSet (by dsimp only; omega) ?_))); first | done | (simp [*]; done)); done) | (simp only [World.size_alloc, World.size_setCell, World.size_drew]; omega) | omega | (go_keep; done) | ((repeat' (first | (with_reducible exact Below.refl _ _) | (with_reducible assumption) | (with_reducible refine Below.alloc ?_ ?_ _) | (with_reducible refine Below.drew ?_) | (with_reducible refine Below.setCell ?_ ?_ _) | (with_reducible refine Below.trans ?_ (Below.mono (by assumption) ?_)) | (with_reducible exact Nat.le_refl _) | omega | (simp only [World.size_alloc, World.size_setCell, World.size_drew]; omega) | (simp; omega) | (simp; done))); done)))
        (first | (go_at_call 11; (first | (with_reducible refine (PR.a1.call _).mono ?_) | (with_reducible refine (PR.a2.call _).mono ?_) | (with_reducible refine (PR.a3.call _).mono ?_) | (with_reducible refine (PR.a4.call _).mono ?_)); rintro e w4 ⟨rfl, hb⟩; obtain ⟨hc, hf⟩ := bcell hb; have HL := keepL (by (repeat (first | (with_reducible assumption) | (with_reducible apply AllLt.alloc) | (with_reducible apply AllLt.setCell) | (with_reducible apply AllLt.drew) | (with_reducible exact AllLt.nil _)))) hb; have hq := HL; simp only [AllLt, and_true, World.size_alloc, World.size_setCell, World.size_drew] at hq; have hbs := hb.size; try simp only [World.size_alloc, World.size_setCell, World.size_drew] at hbs) | (go_at_call 10; (with_reducible refine (PR.bk.call _).mono ?_); rintro e w4 ⟨rfl, hb⟩; obtain ⟨hc, hf⟩ := bcell hb; have HL := keepL (by (repeat (first | (with_reducible assumption) | (with_reducible apply AllLt.alloc) | (with_reducible apply AllLt.setCell) | (with_reducible apply AllLt.drew) | (with_reducible exact AllLt.nil _)))) hb; have hq := HL; simp only [AllLt, and_true, World.size_alloc, World.size_setCell, World.size_drew] at hq; have hbs := hb.size; try simp only [World.size_alloc, World.size_setCell, World.size_drew] at hbs) | (go_at_call 9; (with_reducible refine (PR.tu.call _).mono ?_); rintro e w4 ⟨rfl, hb⟩; obtain ⟨hc, hf⟩ := bcell hb; have HL := keepL (by (repeat (first | (with_reducible assumption) | (with_reducible apply AllLt.alloc) | (with_reducible apply AllLt.setCell) | (with_reducible apply AllLt.drew) | (with_reducible exact AllLt.nil _)))) hb; have hq := HL; simp only [AllLt, and_true, World.size_alloc, World.size_setCell, World.size_drew] at hq; have hbs := hb.size; try simp only [World.size_alloc, World.size_setCell, World.size_drew] at hbs))
      all_goals (go_wp2; go_returns; exact ⟨rfl, by (repeat' (first | (with_reducible exact Below.refl _ _) | (with_reducible assumption) | (with_reducible refine Below.alloc ?_ ?_ _) | (with_reducible refine Below.drew ?_) | (with_reducible refine Below.setCell ?_ ?_ _) | (with_reducible refine Below.trans ?_ (Below.mono (by assumption) ?_)) | (with_reducible exact Nat.le_refl _) | omega | (simp only [World.size_alloc, World.size_setCell, World.size_drew]; omega) | (simp; omega) | (simp; done)))⟩)
  · go_enter Try.func3, Try.ntmps3
    go_wp2_with fail
    refine (big_yes _ _ _ _ hl).mono ?_
    rintro e w0 ⟨rfl, rfl⟩
    go_wp2
    all_goals (go_returns; exact ⟨rfl, by (repeat' (first | (with_reducible exact Below.refl _ _) | (with_reducible assumption) | (with_reducible refine Below.alloc ?_ ?_ _) | (with_reducible refine Below.drew ?_) | (with_reducible refine Below.setCell ?_ ?_ _) | (with_reducible refine Below.trans ?_ (Below.mono (by assumption) ?_)) | (with_reducible exact Nat.le_refl _) | omega | (simp only [World.size_alloc, World.size_setCell, World.size_drew]; omega) | (simp; omega) | (simp; done)))⟩)
end Go.Proofs.Ytjkcmcpgppfhhaa.wFnProducts
