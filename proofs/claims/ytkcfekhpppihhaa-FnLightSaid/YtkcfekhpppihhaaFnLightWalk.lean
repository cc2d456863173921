/-
  The call of FnLight returns true and writes nothing that was there.
-/
import Derived.Test.YtkcfekhpppihhaaGu
import Derived.Test.YtkcfekhpppihhaaGq
import Derived.Deep.RegionHeld3
import Derived.Deep.DeepCutAuto
namespace Go.Proofs.Ytkcfekhpppihhaa.wFnLight
open Go.ChangeShapes Go.WideShapes Go.ChangeAt Go.RowKit Go.Joins
set_option linter.unusedSimpArgs false
set_option linter.unusedVariables false
set_option maxRecDepth 100000
attribute [local go_sem] store_f
open Ieee
attribute [local go_sem] store_c

theorem rowAt_of {w : World} {g off : Nat} {l : List Shd} (h : ShRow w g off l) : RowAt w (some ⟨g, off, Option.none⟩) l := .inr ⟨g, off, rfl, h⟩
theorem row_drew {w : World} {g off : Nat} {l : List Shd} (h : ShRow w g off l) : ShRow w.drew g off l := h
theorem row_alloc {w : World} {g off : Nat} {l : List Shd} {o : Obj} (h : ShRow w g off l) : ShRow (w.alloc o) g off l := h.below ((Below.refl _ _).alloc (Nat.le_refl _) _)
theorem row_right {w : World} {g : Nat} {l : List Shd} (h : ShRow w g 0 l) (n : Nat) : ShRow w g (n * 7) (l.drop n) := by
  have h2 := h.right n
  rwa [Nat.zero_add] at h2
theorem row_below {w w1 : World} {g off : Nat} {l : List Shd} (hb : Below w.heap.size w w1) (h : ShRow w g off l) : ShRow w1 g off l := h.below hb

set_option maxHeartbeats 32000000 in
theorem walk (a : Option Addr) (len cap : Nat) (bs : List Int) (w : World) (hrow : ByteRow w w.heap.size a len bs) :
    Calls Try.prog 5 #[.slice a len cap] w fun e w' => e = .returned (.bool true) ∧ Below w.heap.size w w' := by
  by_cases hl : len ≤ 4096
  · go_enter Try.func5, Try.ntmps5
    go_wp2_with fail
    refine (big_no _ _ _ _ hl).mono ?_
    rintro e w0 ⟨rfl, rfl⟩
    go_wp2_with fail
    refine (drawGlass_s a len cap bs _ hrow hl).mono ?_
    rintro e w1 ⟨g, lc, l, x, y, r, b, k, ⟨rfl, hll, hcap, hgl, hlo, hR, hok, hx, hy, lr, lg, lb, hb1⟩⟩
    obtain ⟨c, hc⟩ : ∃ c : Lit, c = ⟨r, b, k⟩ := ⟨_, rfl⟩
    have z1 : r = c.r := by rw [hc]
    have z2 : b = c.g := by rw [hc]
    have z3 : k = c.b := by rw [hc]
    have hcok : c.Ok := by rw [hc]; exact ⟨lr, lg, lb⟩
    clear hc
    subst z1 z2 z3
    have hnn : l.length / 2 ≤ l.length := by omega
    obtain ⟨H, A, m, LL⟩ := lights_of (g := g) (lc := lc) hnn hll (fun s hs => (hok s hs).ok) hcok hx.inb hy.inb
    have HR : Hid (ShRow w1 g 0 l) := hR
    have B1 : Hid (Below w.heap.size w w1) := hb1
    have s1 := hb1.size
    clear hb1 hR hok hx hy lr lg lb hrow hcok
    go_wp2_with fail
    have hdiv : (l.length : Int) / 2 = ((l.length / 2 : Nat) : Int) := by omega
    try rw [hdiv]
    clear hdiv
    generalize l.length / 2 = n at hnn LL ⊢
    generalize hW : w1.alloc (.cells #[.float .f32 c.r, .float .f32 c.g, .float .f32 c.b] 28) = W
    have hRW : Hid (ShRow W g 0 l) := by rw [← hW]; exact row_alloc HR.out
    have HBW : Hid (Below w.heap.size w W) := by rw [← hW]; exact B1.out.alloc (by omega) _
    have CW : Hid (Blk W w1.heap.size #[.float .f32 c.r, .float .f32 c.g, .float .f32 c.b] 28) := by rw [← hW]; exact Blk.new _ _ _
    have sW : w.heap.size ≤ W.heap.size := HBW.out.size
    clear hW HR B1
    have lW := CW.out.lt
    generalize w1.heap.size = nc at *
    refine (LL.s1.call _ (rowAt_of hRW.out)).mono ?_
    rintro e w2 ⟨rfl, hb⟩
    have R2 : Hid (ShRow w2 g 0 l) := hRW.out.below hb
    have C2 : Hid (Blk w2 nc #[.float .f32 c.r, .float .f32 c.g, .float .f32 c.b] 28) := CW.out.below hb
    have B2 : Hid (Below w.heap.size w w2) := HBW.out.trans (hb.mono sW)
    have s2 := B2.out.size
    have s2' := hb.size
    clear hb hRW CW HBW
    go_wp2_with fail
    generalize hV : w2.alloc (.cells #[.float .f32 A.r, .float .f32 A.g, .float .f32 A.b] 28) = V
    have R3 : ShRow V g 0 l := by rw [← hV]; exact row_alloc R2.out
    have C3 : Blk V nc #[.float .f32 c.r, .float .f32 c.g, .float .f32 c.b] 28 := by rw [← hV]; exact C2.out.alloc
    have A3 : Blk V w2.heap.size #[.float .f32 A.r, .float .f32 A.g, .float .f32 A.b] 28 := by rw [← hV]; exact Blk.new _ _ _
    have B3 : Below w.heap.size w V := by rw [← hV]; exact B2.out.alloc (by omega) _
    have s3 : w.heap.size ≤ V.heap.size := B3.size
    have c0 := Blk.cellAt (i := 0) C3 rfl
    have c1 := Blk.cellAt (i := 1) C3 rfl
    have c2 := Blk.cellAt (i := 2) C3 rfl
    have a0 := Blk.cellAt (i := 0) A3 rfl
    have a1 := Blk.cellAt (i := 1) A3 rfl
    have a2 := Blk.cellAt (i := 2) A3 rfl
    simp only [List.getElem_toArray, List.getElem_cons_zero, List.getElem_cons_succ] at c0 c1 c2 a0 a1 a2
    have lc3 := C3.lt
    have la3 := A3.lt
    have lg3 : g < V.heap.size := by omega
    clear hV R2 C2 B2 C3 A3 s2'
    generalize w2.heap.size = na at *
    have hn0 : (0 : Int) ≤ (n : Int) := by omega
    have hn1 : (n : Int) ≤ (l.length : Int) := by omega
    have hn2 : (n : Int) ≤ (lc : Int) := by omega
    have hn3 : n ≤ lc := by omega
    go_cut [8] (fun sh wx => ∃ nh : Nat, sh = .pointer (some ⟨nh, 0, Option.none⟩) ∧ nh < wx.heap.size ∧ wx.cell? ⟨nh, 0, Option.none⟩ = some (.float .f32 (H.r)) ∧ wx.cell? ⟨nh, 1, Option.none⟩ = some (.float .f32 (H.g)) ∧ wx.cell? ⟨nh, 2, Option.none⟩ = some (.float .f32 (H.b)) ∧ ShRow wx g 0 l ∧ Below w.heap.size w wx ∧ w.heap.size ≤ wx.heap.size ∧ nc < wx.heap.size ∧ na < wx.heap.size ∧ g < wx.heap.size ∧ wx.cell? ⟨nc, 0, Option.none⟩ = some (.float .f32 (c.r)) ∧ wx.cell? ⟨nc, 1, Option.none⟩ = some (.float .f32 (c.g)) ∧ wx.cell? ⟨nc, 2, Option.none⟩ = some (.float .f32 (c.b)) ∧ wx.cell? ⟨na, 0, Option.none⟩ = some (.float .f32 (A.r)) ∧ wx.cell? ⟨na, 1, Option.none⟩ = some (.float .f32 (A.g)) ∧ wx.cell? ⟨na, 2, Option.none⟩ = some (.float .f32 (A.b)))
    case first =>
      go_region_held3 (fun wx => ShRow wx g 0 l ∧ Below w.heap.size w wx ∧ w.heap.size ≤ wx.heap.size ∧ nc < wx.heap.size ∧ na < wx.heap.size ∧ g < wx.heap.size ∧ wx.cell? ⟨nc, 0, Option.none⟩ = some (.float .f32 (c.r)) ∧ wx.cell? ⟨nc, 1, Option.none⟩ = some (.float .f32 (c.g)) ∧ wx.cell? ⟨nc, 2, Option.none⟩ = some (.float .f32 (c.b)) ∧ wx.cell? ⟨na, 0, Option.none⟩ = some (.float .f32 (A.r)) ∧ wx.cell? ⟨na, 1, Option.none⟩ = some (.float .f32 (A.g)) ∧ wx.cell? ⟨na, 2, Option.none⟩ = some (.float .f32 (A.b)))
        (((repeat' apply And.intro) <;> first | (with_reducible assumption) | ((repeat (first | (with_reducible assumption) | (with_reducible exact And.left (by assumption)) | (with_reducible refine row_drew ?_) | (with_reducible refine row_below hb ?_) | (with_reducible refine row_alloc ?_) | (with_reducible refine ShRow.set ?_ (by dsimp only; omega)))); done) | (((repeat (first | (with_reducible assumption) | (with_reducible exact cNewAt (by first | rfl | (simp only [World.size_alloc, World.size_setCell, World.size_drew]; done) | omega) rfl) | (with_reducible exact sNewAt (by first | rfl | (simp only [World.size_alloc, World.size_setCell, World.size_drew]; done) | omega) rfl) | (simp; done) | (with_reducible apply cAlloc) | (with_reducible apply cDrew) | (with_reducible refine cSet (by dsimp only; omega) ?_) | (with_reducible refine cSetOff (by dsimp only; omega) ?_) | (with_reducible apply cSame) | (with_reducible refine cBelow (by assumption) ?_) | (with_reducible apply sAlloc) | (with_reducible apply sDrew) | (with_reducible refine sBelow (by assumption) ?_) | (with_reducible refine sSet (by dsimp only; omega) ?_))); first | done | (simp [*]; done)); done) | (simp only [World.size_alloc, World.size_setCell, World.size_drew]; omega) | omega | (go_keep; done) | ((repeat' (first | (with_reducible exact Below.refl _ _) | (with_reducible assumption) | (with_reducible refine Below.alloc ?_ ?_ _) | (with_reducible refine Below.drew ?_) | (with_reducible refine Below.setCell ?_ ?_ _) | (with_reducible refine Below.trans ?_ (Below.mono (by assumption) ?_)) | (with_reducible exact Nat.le_refl _) | omega | (simp only [World.size_alloc, World.size_setCell, World.size_drew]; omega) | (simp; omega) | (simp; done))); done)))
        (first | (go_at_call 18; (with_reducible refine (LL.s2.call _ ?_).mono ?_); (next => exact rowAt_of (ShRow.left (And.left (by assumption)) n)); rintro e w4 ⟨rfl, hb⟩; have hbs := hb.size; try simp only [World.size_alloc, World.size_setCell, World.size_drew] at hbs; (try ((first | have hN := Blk.belowAt hb (Blk.drew (Blk.new _ _ _)) | have hN := Blk.belowAt hb (Blk.new _ _ _)); (try simp only [World.size_drew] at hN); have y0 := Blk.cellAt (i := 0) hN rfl; have y1 := Blk.cellAt (i := 1) hN rfl; have y2 := Blk.cellAt (i := 2) hN rfl; simp only [List.getElem_toArray, List.getElem_cons_zero, List.getElem_cons_succ] at y0 y1 y2; have h0 := hN.free 0; have h1 := hN.free 1; have h2 := hN.free 2))))
      all_goals (go_wp2_with fail; go_meet; refine ⟨_, rfl, ?_⟩; ((repeat' apply And.intro) <;> first | (with_reducible assumption) | ((repeat (first | (with_reducible assumption) | (with_reducible exact And.left (by assumption)) | (with_reducible refine row_drew ?_) | (with_reducible refine row_below hb ?_) | (with_reducible refine row_alloc ?_) | (with_reducible refine ShRow.set ?_ (by dsimp only; omega)))); done) | (((repeat (first | (with_reducible assumption) | (with_reducible exact cNewAt (by first | rfl | (simp only [World.size_alloc, World.size_setCell, World.size_drew]; done) | omega) rfl) | (with_reducible exact sNewAt (by first | rfl | (simp only [World.size_alloc, World.size_setCell, World.size_drew]; done) | omega) rfl) | (simp; done) | (with_reducible apply cAlloc) | (with_reducible apply cDrew) | (with_reducible refine cSet (by dsimp only; omega) ?_) | (with_reducible refine cSetOff (by dsimp only; omega) ?_) | (with_reducible apply cSame) | (with_reducible refine cBelow (by assumption) ?_) | (with_reducible apply sAlloc) | (with_reducible apply sDrew) | (with_reducible refine sBelow (by assumption) ?_) | (with_reducible refine sSet (by dsimp only; omega) ?_))); first | done | (simp [*]; done)); done) | (simp only [World.size_alloc, World.size_setCell, World.size_drew]; omega) | omega | (go_keep; done) | ((repeat' (first | (with_reducible exact Below.refl _ _) | (with_reducible assumption) | (with_reducible refine Below.alloc ?_ ?_ _) | (with_reducible refine Below.drew ?_) | (with_reducible refine Below.setCell ?_ ?_ _) | (with_reducible refine Below.trans ?_ (Below.mono (by assumption) ?_)) | (with_reducible exact Nat.le_refl _) | omega | (simp only [World.size_alloc, World.size_setCell, World.size_drew]; omega) | (simp; omega) | (simp; done))); done)))
    case rest =>
      obtain ⟨nh, rfl, hnh, h0, h1, h2, R4, B4, s4, lc4, la4, lg4, c04, c14, c24, a04, a14, a24⟩ := hcut
      clear R3 B3 s3 lc3 la3 lg3 c0 c1 c2 a0 a1 a2
      have eA := LL.eA
      have eC := LL.eC
      obtain ⟨off, hoff, hro⟩ : ∃ off : Nat, (if lc = n then (some ⟨g, 0, Option.none⟩ : Option Addr) else some ⟨g, n * 7, Option.none⟩) = some ⟨g, off, Option.none⟩ ∧ Hid (∀ wx, ShRow wx g 0 l → ShRow wx g off (l.drop n)) := by
        by_cases hln : lc = n
        · exact ⟨0, by rw [if_pos hln], fun wx _ k hk => absurd hk (by simp; omega)⟩
        · exact ⟨n * 7, by rw [if_neg hln], fun wx h => row_right h n⟩
      go_wp2_with fail
      go_cut [47] (fun sb wx => sb = .bool false ∧ ShRow wx g 0 l ∧ Below w.heap.size w wx ∧ w.heap.size ≤ wx.heap.size ∧ nc < wx.heap.size ∧ na < wx.heap.size ∧ g < wx.heap.size ∧ wx.cell? ⟨nc, 0, Option.none⟩ = some (.float .f32 (c.r)) ∧ wx.cell? ⟨nc, 1, Option.none⟩ = some (.float .f32 (c.g)) ∧ wx.cell? ⟨nc, 2, Option.none⟩ = some (.float .f32 (c.b)) ∧ wx.cell? ⟨na, 0, Option.none⟩ = some (.float .f32 (A.r)) ∧ wx.cell? ⟨na, 1, Option.none⟩ = some (.float .f32 (A.g)) ∧ wx.cell? ⟨na, 2, Option.none⟩ = some (.float .f32 (A.b)))
      case first =>
        go_region_held3 (fun wx => ShRow wx g 0 l ∧ Below w.heap.size w wx ∧ w.heap.size ≤ wx.heap.size ∧ nc < wx.heap.size ∧ na < wx.heap.size ∧ g < wx.heap.size ∧ wx.cell? ⟨nc, 0, Option.none⟩ = some (.float .f32 (c.r)) ∧ wx.cell? ⟨nc, 1, Option.none⟩ = some (.float .f32 (c.g)) ∧ wx.cell? ⟨nc, 2, Option.none⟩ = some (.float .f32 (c.b)) ∧ wx.cell? ⟨na, 0, Option.none⟩ = some (.float .f32 (A.r)) ∧ wx.cell? ⟨na, 1, Option.none⟩ = some (.float .f32 (A.g)) ∧ wx.cell? ⟨na, 2, Option.none⟩ = some (.float .f32 (A.b)) ∧ nh < wx.heap.size ∧ wx.cell? ⟨nh, 0, Option.none⟩ = some (.float .f32 (H.r)) ∧ wx.cell? ⟨nh, 1, Option.none⟩ = some (.float .f32 (H.g)) ∧ wx.cell? ⟨nh, 2, Option.none⟩ = some (.float .f32 (H.b)))
          (((repeat' apply And.intro) <;> first | (with_reducible assumption) | ((repeat (first | (with_reducible assumption) | (with_reducible exact And.left (by assumption)) | (with_reducible refine row_drew ?_) | (with_reducible refine row_below hb ?_) | (with_reducible refine row_alloc ?_) | (with_reducible refine ShRow.set ?_ (by dsimp only; omega)))); done) | (((repeat (first | (with_reducible assumption) | (with_reducible exact cNewAt (by first | rfl | (simp only [World.size_alloc, World.size_setCell, World.size_drew]; done) | omega) rfl) | (with_reducible exact sNewAt (by first | rfl | (simp only [World.size_alloc, World.size_setCell, World.size_drew]; done) | omega) rfl) | (simp; done) | (with_reducible apply cAlloc) | (with_reducible apply cDrew) | (with_reducible refine cSet (by dsimp only; omega) ?_) | (with_reducible refine cSetOff (by dsimp only; omega) ?_) | (with_reducible apply cSame) | (with_reducible refine cBelow (by assumption) ?_) | (with_reducible apply sAlloc) | (with_reducible apply sDrew) | (with_reducible refine sBelow (by assumption) ?_) | (with_reducible refine sSet (by dsimp only; omega) ?_))); first | done | (simp [*]; done)); done) | (simp only [World.size_alloc, World.size_setCell, World.size_drew]; omega) | omega | (go_keep; done) | ((repeat' (first | (with_reducible exact Below.refl _ _) | (with_reducible assumption) | (with_reducible refine Below.alloc ?_ ?_ _) | (with_reducible refine Below.drew ?_) | (with_reducible refine Below.setCell ?_ ?_ _) | (with_reducible refine Below.trans ?_ (Below.mono (by assumption) ?_)) | (with_reducible exact Nat.le_refl _) | omega | (simp only [World.size_alloc, World.size_setCell, World.size_drew]; omega) | (simp; omega) | (simp; done))); done)))
          (first | (go_at_call 18; (with_reducible refine ((LL.s3 _ _).call _ ?_).mono ?_); (next => exact rowAt_of (hro.out _ (And.left (by assumption)))); rintro e w5 ⟨rfl, hb⟩; have hbs := hb.size; try simp only [World.size_alloc, World.size_setCell, World.size_drew] at hbs) | (go_at_call 18; (with_reducible refine (LL.s4.call _ ?_).mono ?_); (next => exact .inl rfl); rintro e w6 ⟨rfl, hb⟩; have hbs := hb.size; try simp only [World.size_alloc, World.size_setCell, World.size_drew] at hbs))
        all_goals (go_wp2_with fail; go_meet; refine ⟨rfl, ?_⟩; ((repeat' apply And.intro) <;> first | (with_reducible assumption) | ((repeat (first | (with_reducible assumption) | (with_reducible exact And.left (by assumption)) | (with_reducible refine row_drew ?_) | (with_reducible refine row_below hb ?_) | (with_reducible refine row_alloc ?_) | (with_reducible refine ShRow.set ?_ (by dsimp only; omega)))); done) | (((repeat (first | (with_reducible assumption) | (with_reducible exact cNewAt (by first | rfl | (simp only [World.size_alloc, World.size_setCell, World.size_drew]; done) | omega) rfl) | (with_reducible exact sNewAt (by first | rfl | (simp only [World.size_alloc, World.size_setCell, World.size_drew]; done) | omega) rfl) | (simp; done) | (with_reducible apply cAlloc) | (with_reducible apply cDrew) | (with_reducible refine cSet (by dsimp only; omega) ?_) | (with_reducible refine cSetOff (by dsimp only; omega) ?_) | (with_reducible apply cSame) | (with_reducible refine cBelow (by assumption) ?_) | (with_reducible apply sAlloc) | (with_reducible apply sDrew) | (with_reducible refine sBelow (by assumption) ?_) | (with_reducible refine sSet (by dsimp only; omega) ?_))); first | done | (simp [*]; done)); done) | (simp only [World.size_alloc, World.size_setCell, World.size_drew]; omega) | omega | (go_keep; done) | ((repeat' (first | (with_reducible exact Below.refl _ _) | (with_reducible assumption) | (with_reducible refine Below.alloc ?_ ?_ _) | (with_reducible refine Below.drew ?_) | (with_reducible refine Below.setCell ?_ ?_ _) | (with_reducible refine Below.trans ?_ (Below.mono (by assumption) ?_)) | (with_reducible exact Nat.le_refl _) | omega | (simp only [World.size_alloc, World.size_setCell, World.size_drew]; omega) | (simp; omega) | (simp; done))); done)))
      case rest =>
        obtain ⟨rfl, R5, B5, s5, lc5, la5, lg5, c05, c15, c25, a05, a15, a25⟩ := hcut
        clear R4 B4 s4 lc4 la4 lg4 c04 c14 c24 a04 a14 a24 h0 h1 h2 hnh eC hn0 hn1 hn2 hn3
        clear hoff hro
        go_wp2_with fail
        refine (LL.ly _ (rowAt_of R5)).mono ?_
        rintro e w7 ⟨⟨gl, cl, rfl, hgl7, hcells⟩, hb⟩
        have HCL : Hid (∀ k, k < m.length → w7.cell? ⟨gl, k, Option.none⟩ = some (.int .i64 (m.getD k 0 : Nat))) := hcells
        have R7 : Hid (ShRow w7 g 0 l) := R5.below hb
        have B7 : Hid (Below w.heap.size w w7) := B5.trans (hb.mono s5)
        have c07 := cBelow hb c05
        have c17 := cBelow hb c15
        have c27 := cBelow hb c25
        have a07 := cBelow hb a05
        have a17 := cBelow hb a15
        have a27 := cBelow hb a25
        have s7 := B7.out.size
        have s7' := hb.size
        have HC7 : Hid (w7.cell? ⟨nc, 0, Option.none⟩ = some (.float .f32 (c.r)) ∧ w7.cell? ⟨nc, 1, Option.none⟩ = some (.float .f32 (c.g)) ∧ w7.cell? ⟨nc, 2, Option.none⟩ = some (.float .f32 (c.b))) := ⟨c07, c17, c27⟩
        have HA7 : Hid (w7.cell? ⟨na, 0, Option.none⟩ = some (.float .f32 (A.r)) ∧ w7.cell? ⟨na, 1, Option.none⟩ = some (.float .f32 (A.g)) ∧ w7.cell? ⟨na, 2, Option.none⟩ = some (.float .f32 (A.b))) := ⟨a07, a17, a27⟩
        have HI : Hid (∀ j, j < m.length → m.getD j 0 < l.length ∧ InIs (l.getD (m.getD j 0) default) x y true) := LL.ins
        have HSN : Hid (∀ j, j < m.length → shAt l (m.take (j + 1)) = shAt l (m.take j) ++ [l.getD (m.getD j 0) default]) := fun j hj => shAt_snoc l hj
        have hm6 := LL.few
        have lc7 : nc < w7.heap.size := by omega
        have la7 : na < w7.heap.size := by omega
        clear hb hcells R5 B5 c05 c15 c25 a05 a15 a25 c07 c17 c27 a07 a17 a27 lc5 la5
        obtain ⟨i0, hi, hz0, hz1, hz2⟩ := info_parts infoSh
        go_wp2_with fail
        have O0 : Hid ((w7.alloc (.cells #[] 37)).ownsRow w7.heap.size 37 7 (.slice (some ⟨w7.heap.size, 0, Option.none⟩) 0 0) 0 []) := World.ownsRow_lit _ #[] 0 (by simp) (by unfold maxLen; omega) rfl
        have hB0 : Below w7.heap.size w7 (w7.alloc (.cells #[] 37)) := by (repeat' (first | (with_reducible exact Below.refl _ _) | (with_reducible assumption) | (with_reducible refine Below.alloc ?_ ?_ _) | (with_reducible refine Below.drew ?_) | (with_reducible refine Below.setCell ?_ ?_ _) | (with_reducible refine Below.trans ?_ (Below.mono (by assumption) ?_)) | (with_reducible exact Nat.le_refl _) | omega | (simp only [World.size_alloc, World.size_setCell, World.size_drew]; omega) | (simp; omega) | (simp; done)))
        have HB0 : Hid (Below w7.heap.size w7 (w7.alloc (.cells #[] 37))) := hB0
        clear hB0
        go_loopw [10, 11] (fun v i wr => ∃ j : Nat, j ≤ m.length ∧ i = .int .i64 j ∧ wr.ownsRow w7.heap.size 37 7 v j (shCells (shAt l (m.take j))) ∧ v ≠ .slice Option.none 0 0 ∧ Below w7.heap.size w7 wr)
          (fun _ i _ => m.length - (intOf i).toNat)
        case atStart => exact ⟨0, by omega, rfl, O0.out, by simp, HB0.out⟩
        case round =>
          obtain ⟨j, hj, rfl, hown, hnn, hbel⟩ := hrel
          have HN : Hid (u10 ≠ .slice Option.none 0 0) := hnn
          have HB : Hid (Below w7.heap.size w7 wr) := hbel
          have HO : Hid (wr.ownsRow w7.heap.size 37 7 u10 j (shCells (shAt l (m.take j)))) := hown
          have hbs := hbel.size
          clear hnn hown
          by_cases hlt : j < m.length
          · obtain ⟨hk, I⟩ := HI.out j hlt
            have HY := HSN.out j hlt
            have hcl := cBelow hbel (HCL.out j hlt)
            generalize m.getD j 0 = kk at hk I HY hcl
            have hrow := (ShRow.below R7.out hbel) kk hk
            simp only [Nat.zero_add] at hrow
            generalize l.getD kk default = s at hrow I HY
            have HYH : Hid (shAt l (m.take (j + 1)) = shAt l (m.take j) ++ [s]) := HY
            have HRO : Hid (wr.cell? ⟨g, kk * 7, Option.none⟩ = some (.complex .f32 s.a1 s.a2) ∧ wr.cell? ⟨g, kk * 7 + 1, Option.none⟩ = some (.complex .f32 s.b1 s.b2) ∧ wr.cell? ⟨g, kk * 7 + 2, Option.none⟩ = some (.complex .f32 s.c1 s.c2) ∧ wr.cell? ⟨g, kk * 7 + 3, Option.none⟩ = some (.float .f32 s.r) ∧ wr.cell? ⟨g, kk * 7 + 4, Option.none⟩ = some (.float .f32 s.g) ∧ wr.cell? ⟨g, kk * 7 + 5, Option.none⟩ = some (.float .f32 s.b) ∧ wr.cell? ⟨g, kk * 7 + 6, Option.none⟩ = some (.float .f32 s.k)) := hrow
            have HCLJ : Hid (wr.cell? ⟨gl, j, Option.none⟩ = some (.int .i64 (kk : Nat))) := hcl
            obtain ⟨d0, d1, d2, d3, d4, d5, d6⟩ := hrow
            have hj0 : (0 : Int) ≤ (j : Int) := by omega
            have hj1 : (j : Int) < (m.length : Int) := by omega
            have hk0 : (0 : Int) ≤ (kk : Int) := by omega
            have hk1 : (kk : Int) < (l.length : Int) := by omega
            clear hbel HY
            go_wp2_with fail
            refine (I.call _).mono ?_
            rintro e w8 ⟨rfl, hb⟩
            have HB8 : Hid (Below w7.heap.size w7 w8) := HB.out.trans (hb.mono (by omega))
            have hown : w8.ownsRow w7.heap.size 37 7 u10 j (shCells (shAt l (m.take j))) := ownsBelow hb HO.out
            have hcl8 := cBelow hb HCLJ.out
            obtain ⟨d0', d1', d2', d3', d4', d5', d6'⟩ := HRO.out
            have e0 := cBelow hb d0'
            have e1 := cBelow hb d1'
            have e2 := cBelow hb d2'
            have e3 := cBelow hb d3'
            have e4 := cBelow hb d4'
            have e5 := cBelow hb d5'
            have e6 := cBelow hb d6'
            have sz8 := HB8.out.size
            clear hb d0 d1 d2 d3 d4 d5 d6 d0' d1' d2' d3' d4' d5' d6' hcl HRO HCLJ HO HB
            have hb8 := HB8.out
            go_wp2_with (at_builtin; go_loud (refine wpList_append_own _ rfl _ _ 24 rfl w7.heap.size 37 i0 (.agg #[.complex .f32 0 0, .complex .f32 0 0, .complex .f32 0 0, .float .f32 0, .float .f32 0, .float .f32 0, .float .f32 0]) 7 40 Try.underlying24 hi hz0 hz1 hz2 rfl (by decide) _ j (shCells (shAt l (m.take j))) rfl ?hown ⟨w8.heap.size, 0, Option.none⟩ 1 1 s.cells rfl rfl ?c1 ?c2 ?c3 ?c4 ?c5 ?_))
            case hown => (change World.ownsRow _ _ _ _ u10 _ _; (repeat (first | (with_reducible assumption) | (with_reducible refine World.ownsRow.alloc ?_ _) | (with_reducible refine World.ownsRow.drew ?_) | (with_reducible refine ownsBelow (by assumption) ?_))))
            case c1 =>
              intro j' u hj
              rcases j' with _ | _ | _ | _ | _ | _ | _ | j' <;> simp [Shd.cells] at hj <;> subst hj <;> simp [Addr.add]
            case c2 =>
              intro u hu
              simp [Shd.cells] at hu
              rcases hu with rfl | rfl | rfl | rfl | rfl | rfl | rfl <;> rfl
            case c3 => (unfold maxLen; omega)
            case c4 => omega
            case c5 => first | omega | (simp only [World.size_alloc, World.size_setCell, World.size_drew]; omega)
            intro v' w9 hown' hgrow hvn
            have HV : Hid (v' ≠ .slice Option.none 0 0) := hvn
            have HB9 : Hid (Below w7.heap.size w7 w9) := Below.grown (hb8.alloc (by omega) _) hgrow (by first | omega | (simp only [World.size_alloc, World.size_setCell, World.size_drew]; omega)) (fun q hq => (hown.lt q hq).1)
            have HOW : Hid (w9.ownsRow w7.heap.size 37 7 v' (j + 1) (shCells (shAt l (m.take j)) ++ s.cells)) := hown'
            clear hgrow hvn hown' hown hb8 e0 e1 e2 e3 e4 e5 e6 hcl8
            go_wp2
            go_roundw
            case rel => exact ⟨j + 1, by omega, by go_num, by rw [HYH.out, shCells_snoc]; simpa using HOW.out, HV.out, HB9.out⟩
            case measure => simp [intOf]; omega
          · have hjm : j = m.length := by omega
            subst hjm
            rcases ownsRow_forms HO.out with ⟨e, _⟩ | ⟨gf, cf, rfl⟩
            · exact absurd e HN.out
            have hlf := HO.out.lt _ rfl
            have RF : ShRow wr gf 0 (shAt l m) := by
              have h := HO.out
              rw [List.take_length] at h
              exact shRow_of h (shAt_len l m)
            obtain ⟨x0, x1, x2⟩ := HC7.out
            obtain ⟨y0, y1, y2⟩ := HA7.out
            have c0 := cBelow hbel x0
            have c1 := cBelow hbel x1
            have c2 := cBelow hbel x2
            have a0 := cBelow hbel y0
            have a1 := cBelow hbel y1
            have a2 := cBelow hbel y2
            have BF : Below w.heap.size w wr := B7.out.trans (hbel.mono s7)
            have sF := BF.size
            have hlf2 := hlf.2
            have lcF : nc < wr.heap.size := by omega
            have laF : na < wr.heap.size := by omega
            have S5 : ∀ cf, SeenIs (some ⟨gf, 0, Option.none⟩) m.length cf (shAt l m) x y c A := fun cf => (shAt_len l m) ▸ LL.s5 gf cf
            have IC := LL.ic
            clear hbel x0 x1 x2 y0 y1 y2 HO HB hlf HB0 O0 HCL HI HSN R7 B7 HN
            go_wp2_with fail
            go_region_held3 (fun wx => ShRow wx gf 0 (shAt l m) ∧ Below w.heap.size w wx ∧ w.heap.size ≤ wx.heap.size ∧ nc < wx.heap.size ∧ na < wx.heap.size ∧ gf < wx.heap.size ∧ wx.cell? ⟨nc, 0, Option.none⟩ = some (.float .f32 (c.r)) ∧ wx.cell? ⟨nc, 1, Option.none⟩ = some (.float .f32 (c.g)) ∧ wx.cell? ⟨nc, 2, Option.none⟩ = some (.float .f32 (c.b)) ∧ wx.cell? ⟨na, 0, Option.none⟩ = some (.float .f32 (A.r)) ∧ wx.cell? ⟨na, 1, Option.none⟩ = some (.float .f32 (A.g)) ∧ wx.cell? ⟨na, 2, Option.none⟩ = some (.float .f32 (A.b)))
              (((repeat' apply And.intro) <;> first | (with_reducible assumption) | ((repeat (first | (with_reducible assumption) | (with_reducible exact And.left (by assumption)) | (with_reducible refine row_drew ?_) | (with_reducible refine row_below hb ?_) | (with_reducible refine row_alloc ?_) | (with_reducible refine ShRow.set ?_ (by dsimp only; omega)))); done) | (((repeat (first | (with_reducible assumption) | (with_reducible exact cNewAt (by first | rfl | (simp only [World.size_alloc, World.size_setCell, World.size_drew]; done) | omega) rfl) | (with_reducible exact sNewAt (by first | rfl | (simp only [World.size_alloc, World.size_setCell, World.size_drew]; done) | omega) rfl) | (simp; done) | (with_reducible apply cAlloc) | (with_reducible apply cDrew) | (with_reducible refine cSet (by dsimp only; omega) ?_) | (with_reducible refine cSetOff (by dsimp only; omega) ?_) | (with_reducible apply cSame) | (with_reducible refine cBelow (by assumption) ?_) | (with_reducible apply sAlloc) | (with_reducible apply sDrew) | (with_reducible refine sBelow (by assumption) ?_) | (with_reducible refine sSet (by dsimp only; omega) ?_))); first | done | (simp [*]; done)); done) | (simp only [World.size_alloc, World.size_setCell, World.size_drew]; omega) | omega | (go_keep; done) | ((repeat' (first | (with_reducible exact Below.refl _ _) | (with_reducible assumption) | (with_reducible refine Below.alloc ?_ ?_ _) | (with_reducible refine Below.drew ?_) | (with_reducible refine Below.setCell ?_ ?_ _) | (with_reducible refine Below.trans ?_ (Below.mono (by assumption) ?_)) | (with_reducible exact Nat.le_refl _) | omega | (simp only [World.size_alloc, World.size_setCell, World.size_drew]; omega) | (simp; omega) | (simp; done))); done)))
              (first | (go_at_call 18; (with_reducible refine ((S5 _).call _ ?_).mono ?_); (next => exact rowAt_of (And.left (by assumption))); rintro e w10 ⟨rfl, hb⟩; have hbs := hb.size; try simp only [World.size_alloc, World.size_setCell, World.size_drew] at hbs) | (go_at_call 20; (with_reducible refine (IC.call _).mono ?_); rintro e w11 ⟨rfl, hb⟩; have hbs := hb.size; try simp only [World.size_alloc, World.size_setCell, World.size_drew] at hbs))
            all_goals
              have HZ : Hid (Below w.heap.size w w11) := And.left (And.right (by assumption))
              rename_i hHeld
              clear hHeld
              go_wp2
              go_ret
              exact ⟨rfl, HZ.out⟩
  · go_enter Try.func5, Try.ntmps5
    go_wp2_with fail
    refine (big_yes _ _ _ _ hl).mono ?_
    rintro e w0 ⟨rfl, rfl⟩
    go_wp2
    all_goals (go_returns; exact ⟨rfl, by (repeat' (first | (with_reducible exact Below.refl _ _) | (with_reducible assumption) | (with_reducible refine Below.alloc ?_ ?_ _) | (with_reducible refine Below.drew ?_) | (with_reducible refine Below.setCell ?_ ?_ _) | (with_reducible refine Below.trans ?_ (Below.mono (by assumption) ?_)) | (with_reducible exact Nat.le_refl _) | omega | (simp only [World.size_alloc, World.size_setCell, World.size_drew]; omega) | (simp; omega) | (simp; done)))⟩)
end Go.Proofs.Ytkcfekhpppihhaa.wFnLight
