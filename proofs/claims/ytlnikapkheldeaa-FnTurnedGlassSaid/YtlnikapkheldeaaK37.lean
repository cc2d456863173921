/-
  Texts of this proof, joined: Oj, Ok.
-/
import Derived.Test.YtlnikapkheldeaaK36
import Derived.Deep.RegionHeld3
/-
  The wedge of mirrors: each point has one image in it, the same for all images.
-/
namespace Go.Proofs.Ytlnikapkheldeaa
open Go.ChangeShapes Go.WideShapes Go.ChangeAt Go.RowKit Go.Joins
set_option linter.unusedSimpArgs false
set_option linter.unusedVariables false
set_option maxRecDepth 100000
attribute [local go_sem] store_f
open Ieee Go.Lib

/-- Does a pair of numbers lie in the wedge? -/
def wedI (kind : Int) (z : Int × Int) : Bool :=
  if kind = 0 then true else if kind = 1 then decide (0 ≤ z.2) else if kind = 2 then decide (0 ≤ z.1) && decide (0 ≤ z.2) else decide (0 ≤ z.2) && decide (z.2 ≤ z.1)
/-- Does a point lie in the wedge? -/
def wed (kind : Int) (p : PtW) : Bool := wedI kind (vP p)

theorem wed_some_I (kind X Y : Int) (h0 : 0 ≤ kind) (h3 : kind ≤ 3) : ∃ s ∈ symsTo kind 8, wedI kind (actI s (X, Y)) = true := by
  rcases (by omega : kind = 0 ∨ kind = 1 ∨ kind = 2 ∨ kind = 3) with rfl | rfl | rfl | rfl
  · rw [syms0]; simp [wedI]
  · rw [syms1]; simp [wedI, actI]; omega
  · rw [syms2]; simp [wedI, actI]; omega
  · rw [syms3]; simp [wedI, actI]; omega
theorem wed_one_I (kind X Y : Int) (h0 : 0 ≤ kind) (h3 : kind ≤ 3) : ∀ s ∈ symsTo kind 8, ∀ r ∈ symsTo kind 8, wedI kind (actI s (X, Y)) = true → wedI kind (actI r (X, Y)) = true → actI s (X, Y) = actI r (X, Y) := by
  intro s hs r hr h1 h2
  rcases (by omega : kind = 0 ∨ kind = 1 ∨ kind = 2 ∨ kind = 3) with rfl | rfl | rfl | rfl
  · rw [syms0] at hs hr
    simp at hs hr
    subst hs hr; rfl
  · rw [syms1] at hs hr
    simp at hs hr
    rcases hs with rfl | rfl <;> rcases hr with rfl | rfl <;> simp [wedI, actI] at h1 h2 ⊢ <;> omega
  · rw [syms2] at hs hr
    simp at hs hr
    rcases hs with rfl | rfl | rfl | rfl <;> rcases hr with rfl | rfl | rfl | rfl <;> simp [wedI, actI] at h1 h2 ⊢ <;> omega
  · rw [syms3] at hs hr
    simp at hs hr
    rcases hs with rfl | rfl | rfl | rfl | rfl | rfl | rfl | rfl <;> rcases hr with rfl | rfl | rfl | rfl | rfl | rfl | rfl | rfl <;> simp [wedI, actI] at h1 h2 ⊢ <;> omega

theorem wed_some {kind : Int} (h0 : 0 ≤ kind) (h3 : kind ≤ 3) (p : PtW) : ∃ s ∈ symsTo kind 8, wed kind (actP s p) = true := by
  obtain ⟨s, hs, h⟩ := wed_some_I kind (vX p) (vY p) h0 h3
  exact ⟨s, hs, by unfold wed; rw [vP_act]; exact h⟩
theorem wed_one {kind : Int} (h0 : 0 ≤ kind) (h3 : kind ≤ 3) (p : PtW) {s r : Int × Bool} (hs : s ∈ symsTo kind 8) (hr : r ∈ symsTo kind 8) (h1 : wed kind (actP s p) = true) (h2 : wed kind (actP r p) = true) : actP s p = actP r p := by
  apply vP_inj
  unfold wed at h1 h2
  rw [vP_act] at *
  rw [vP_act]
  exact wed_one_I kind _ _ h0 h3 s hs r hr h1 h2

/-- One symmetry behind another one is one of these mirrors. -/
theorem syms_then {kind : Int} (h0 : 0 ≤ kind) (h3 : kind ≤ 3) : ∀ s ∈ symsTo kind 8, ∀ r ∈ symsTo kind 8, (thenT s.1 r.1 r.2, thenF s.1 r.1 s.2 r.2) ∈ symsTo kind 8 := by
  rcases (by omega : kind = 0 ∨ kind = 1 ∨ kind = 2 ∨ kind = 3) with rfl | rfl | rfl | rfl <;> decide
theorem actP_then {s r : Int × Bool} (hs : isSymB s.1 = true) (hr : isSymB r.1 = true) (p : PtW) : actP r (actP s p) = actP (thenT s.1 r.1 r.2, thenF s.1 r.1 s.2 r.2) p := by
  obtain ⟨a1, a2⟩ := isSymB_iff.1 hs
  obtain ⟨b1, b2⟩ := isSymB_iff.1 hr
  apply Subtype.ext
  have h := act_then s.1.toNat r.1.toNat s.2 r.2 (by omega) (by omega) p.2.1.cl p.2.2.cl
  rw [Int.toNat_of_nonneg a1, Int.toNat_of_nonneg b1] at h
  exact h

/-- The image of an image in the wedge is the image in the wedge. -/
theorem fold_same {kind : Int} (h0 : 0 ≤ kind) (h3 : kind ≤ 3) (p q : PtW) (hq : q ∈ imgs (symsTo kind 8) p) {s r : Int × Bool} (hs : s ∈ symsTo kind 8) (hr : r ∈ symsTo kind 8) (h1 : wed kind (actP s p) = true) (h2 : wed kind (actP r q) = true) : actP r q = actP s p := by
  obtain ⟨t, ht, rfl⟩ := List.mem_map.1 hq
  have hrg := syms_range kind h0 h3
  rw [actP_then (hrg t ht) (hrg r hr)] at h2 ⊢
  exact wed_one h0 h3 p (syms_then h0 h3 t ht r hr) hs h2 h1
theorem wed_iff {kind : Int} (h0 : 0 ≤ kind) (h3 : kind ≤ 3) (p q : PtW) (hq : q ∈ imgs (symsTo kind 8) p) {s : Int × Bool} (hs : s ∈ symsTo kind 8) (h1 : wed kind (actP s p) = true) : wed kind q = decide (q = actP s p) := by
  obtain ⟨t, ht, rfl⟩ := List.mem_map.1 hq
  by_cases h : actP t p = actP s p
  · rw [h, h1]; simp
  · simp only [h, decide_false]
    cases hw : wed kind (actP t p)
    · rfl
    · exact absurd (wed_one h0 h3 p ht hs hw h1) h

theorem le_zero {y : Nat} (h : Fin32 y) : (FloatKind.f32.format.order y 0 == some .gt || FloatKind.f32.format.order y 0 == some .eq) = decide (0 ≤ valOf F32 y) := by
  show (F32.order y 0 == some .gt || F32.order y 0 == some .eq) = _
  rw [order_zero h, cmp_eq, cmp_gt, ← Bool.decide_or]
  apply decide_eq_decide.2
  omega
theorem zero_le {y : Nat} (h : Fin32 y) : (FloatKind.f32.format.order 0 y == some .lt || FloatKind.f32.format.order 0 y == some .eq) = decide (0 ≤ valOf F32 y) := by
  show (F32.order 0 y == some .lt || F32.order 0 y == some .eq) = _
  rw [order_fin F32 (fin_of_lt (by omega)) h, val_zero, cmp_eq, cmp_lt, ← Bool.decide_or]
  apply decide_eq_decide.2
  omega
theorem le_le {x y : Nat} (hx : Fin32 x) (hy : Fin32 y) : (FloatKind.f32.format.order y x == some .lt || FloatKind.f32.format.order y x == some .eq) = decide (valOf F32 y ≤ valOf F32 x) := by
  show (F32.order y x == some .lt || F32.order y x == some .eq) = _
  rw [order_fin F32 hy hx, cmp_eq, cmp_lt, ← Bool.decide_or]
  apply decide_eq_decide.2
  omega

structure WedM (kind : Int) (x y : Nat) (b : Bool) : Prop where
  call : ∀ w : World, Calls Try.prog 181 #[.int .i64 kind, .complex .f32 x y] w fun e w' => e = .returned (.bool b) ∧ w' = w

set_option maxHeartbeats 2000000 in
theorem inWedge_of {kind : Int} {x y : Nat} (h0 : 0 ≤ kind) (h3 : kind ≤ 3) (PY : PtYes x y) {b1 b2 b4 : Bool}
    (e1 : (FloatKind.f32.format.order x 0 == some .gt || FloatKind.f32.format.order x 0 == some .eq) = b1)
    (e2 : (FloatKind.f32.format.order y 0 == some .gt || FloatKind.f32.format.order y 0 == some .eq) = b2)
    (e3 : (FloatKind.f32.format.order 0 y == some .lt || FloatKind.f32.format.order 0 y == some .eq) = b2)
    (e4 : (FloatKind.f32.format.order y x == some .lt || FloatKind.f32.format.order y x == some .eq) = b4) :
    WedM kind x y (if kind = 0 then true else if kind = 1 then b2 else if kind = 2 then b1 && b2 else b2 && b4) := by
  refine ⟨fun w => ?_⟩
  rcases (by omega : kind = 0 ∨ kind = 1 ∨ kind = 2 ∨ kind = 3) with rfl | rfl | rfl | rfl <;> cases b1 <;> cases b2 <;> cases b4
  all_goals
    go_enter Try.func181, Try.ntmps181
    go_wp2_with fail
    refine (PY.call _).mono ?_
    rintro e w1 ⟨rfl, rfl⟩
    go_wp2
    all_goals (go_ret; exact ⟨by simp_all, rfl⟩)

theorem inWedge_p {kind : Int} (h0 : 0 ≤ kind) (h3 : kind ≤ 3) (p : PtW) : WedM kind p.1.1 p.1.2 (wed kind p) := by
  have h := inWedge_of h0 h3 (x := p.1.1) (y := p.1.2) ⟨fun w => isPoint_yes _ _ w (ok_in p.2.1.ok) (ok_in p.2.2.ok)⟩ (le_zero p.2.1.cl.fin) (le_zero p.2.2.cl.fin) (zero_le p.2.2.cl.fin) (le_le p.2.1.cl.fin p.2.2.cl.fin)
  exact h
end Go.Proofs.Ytlnikapkheldeaa

/-
  FoldPoint: the first image in the wedge.
-/
namespace Go.Proofs.Ytlnikapkheldeaa
open Go.ChangeShapes Go.WideShapes Go.ChangeAt Go.RowKit Go.Joins
set_option linter.unusedSimpArgs false
set_option linter.unusedVariables false
set_option maxRecDepth 100000
attribute [local go_sem] store_f
open Ieee Go.Lib

structure FoldM (kind : Int) (x y a b : Nat) (t : Int) (f : Bool) : Prop where
  call : ∀ w : World, Calls Try.prog 143 #[.int .i64 kind, .complex .f32 x y] w fun e w' => e = .returned (.tuple #[.complex .f32 a b, .agg #[.int .i64 t, .bool f], .bool true]) ∧ Below w.heap.size w w'

/-- The n-th of the symmetries is the first one that takes a point into the wedge. -/
structure First (kind : Int) (l : List (Int × Bool)) (p : PtW) (n : Nat) : Prop where
  lt : n < l.length
  yes : wed kind (actP (l.getD n (0, false)) p) = true
  no : ∀ j, j < n → wed kind (actP (l.getD j (0, false)) p) = false
structure Weds (kind : Int) (l : List (Int × Bool)) (p : PtW) : Prop where
  call : ∀ k, k < l.length → WedM kind (actP (l.getD k (0, false)) p).1.1 (actP (l.getD k (0, false)) p).1.2 (wed kind (actP (l.getD k (0, false)) p))

set_option maxHeartbeats 4000000 in
set_option maxRecDepth 1000000 in
theorem foldPoint_i {kind : Int} {l : List (Int × Bool)} {x y : Nat} {p : PtW} {n : Nat} (SM : SymsM kind l) (hlen : l.length ≤ 8) (PY : PtYes x y) (A : Acts l x y p) (W : Weds kind l p) (F : First kind l p n) :
    FoldM kind x y (actP (l.getD n (0, false)) p).1.1 (actP (l.getD n (0, false)) p).1.2 (l.getD n (0, false)).1 (l.getD n (0, false)).2 := by
  refine ⟨fun w => ?_⟩
  have hnl := F.lt
  go_enter Try.func143, Try.ntmps143
  go_wp2_with fail
  refine (PY.call _).mono ?_
  rintro e w0 ⟨rfl, rfl⟩
  go_wp2_with fail
  refine (SM.call _).mono ?_
  rintro e w1 ⟨gs, cs, rfl, own, hb1⟩
  have HS : Hid (SymRow w1 gs l) := symRow_of own rfl
  have HB : Hid (Below w.heap.size w w1) := by show Below _ _ _; (repeat' (first | (with_reducible exact Below.refl _ _) | (with_reducible assumption) | (with_reducible refine Below.alloc ?_ ?_ _) | (with_reducible refine Below.drew ?_) | (with_reducible refine Below.setCell ?_ ?_ _) | (with_reducible refine Below.trans ?_ (Below.mono (by assumption) ?_)) | (with_reducible exact Nat.le_refl _) | omega | (simp only [World.size_alloc, World.size_setCell, World.size_drew]; omega) | (simp; omega) | (simp; done)))
  have HK : Hid (Blk w1 w.heap.size #[.int .i64 0, .bool false] 25) := Blk.belowAt hb1 (Blk.new _ _ _)
  clear own hb1
  go_wp2_with fail
  go_loopw [17] (fun i wr => ∃ k : Nat, k ≤ n ∧ i = .int .i64 k ∧ SymRow wr gs l ∧ Blk wr w.heap.size #[.int .i64 0, .bool false] 25 ∧ Below w.heap.size w wr)
    (fun i _ => l.length - (intOf i).toNat)
  case atStart => exact ⟨0, by omega, rfl, HS.out, HK.out, HB.out⟩
  case round =>
    obtain ⟨k, hk, rfl, hS, hK, hbel⟩ := hrel
    have HR : Hid (SymRow wr gs l) := hS
    have HKR : Hid (Blk wr w.heap.size #[.int .i64 0, .bool false] 25) := hK
    have HBR : Hid (Below w.heap.size w wr) := hbel
    have hbs := hbel.size
    have hkl := hK.lt
    have hlt : k < l.length := by omega
    have HA := A.call k hlt
    have HW := W.call k hlt
    have HNO : Hid (k < n → wed kind (actP (l.getD k (0, false)) p) = false) := F.no k
    have HYES : Hid (k = n → wed kind (actP (l.getD k (0, false)) p) = true) := fun e => by rw [e]; exact F.yes
    obtain ⟨c0, c1⟩ := hS k hlt
    have HE : Hid (k = n → l.getD n (0, false) = l.getD k (0, false)) := fun e => by rw [e]
    clear hS hK hbel
    generalize wed kind (actP (l.getD k (0, false)) p) = b at HW HNO HYES
    have HP : Hid (k = n → (actP (l.getD n (0, false)) p).1.1 = (actP (l.getD k (0, false)) p).1.1 ∧ (actP (l.getD n (0, false)) p).1.2 = (actP (l.getD k (0, false)) p).1.2) := fun e => by rw [e]; exact ⟨rfl, rfl⟩
    generalize (actP (l.getD k (0, false)) p).1.1 = a1 at HA HW HP
    generalize (actP (l.getD k (0, false)) p).1.2 = a2 at HA HW HP
    generalize l.getD k (0, false) = s at HA c0 c1 HE
    obtain ⟨t, f⟩ := s
    simp only [] at c0 c1
    go_wp2_with fail
    refine (HA.call _).mono ?_
    rintro e w2 ⟨rfl, hb2⟩
    have hs2 := hb2.size
    simp only [World.size_alloc] at hs2
    have HB2 : Hid (Below w.heap.size w w2) := (HBR.out.alloc (by omega) _).trans (hb2.mono (by simp; omega))
    have HR2 : Hid (SymRow w2 gs l) := HR.out.alloc.below hb2
    have HK2 : Hid (Blk w2 w.heap.size #[.int .i64 0, .bool false] 25) := HKR.out.alloc.below hb2
    have hc : Blk w2 wr.heap.size #[.int .i64 t, .bool f] 25 := Blk.belowAt hb2 (Blk.new _ _ _)
    have d0 := Blk.cellAt (i := 0) hc rfl
    have d1 := Blk.cellAt (i := 1) hc rfl
    simp only [List.getElem_toArray, List.getElem_cons_zero, List.getElem_cons_succ] at d0 d1
    clear c0 c1 hb2 HR HKR HBR hc
    go_wp2_with fail
    refine (HW.call _).mono ?_
    rintro e w3 ⟨rfl, rfl⟩
    by_cases hkn : k = n
    · have hb : b = true := HYES.out hkn
      subst hb
      have z0 : w3.cell? ⟨w.heap.size, 0, Option.none⟩ = some (.int .i64 0) := HK2.out.cell 0
      have z1 : w3.cell? ⟨w.heap.size, 1, Option.none⟩ = some (.bool false) := HK2.out.cell 1
      have y0 : w3.frozen? ⟨w.heap.size, 0, Option.none⟩ = false := HK2.out.free 0
      have y1 : w3.frozen? ⟨w.heap.size, 1, Option.none⟩ = false := HK2.out.free 1
      have HEE : Hid (l.getD n (0, false) = (t, f)) := HE.out hkn
      have HPP : Hid ((actP (l.getD n (0, false)) p).1.1 = a1 ∧ (actP (l.getD n (0, false)) p).1.2 = a2) := HP.out hkn
      clear hkn HE HP HYES HNO
      go_wp2_with fail
      go_region_held3 (fun wx => wx.cell? ⟨wr.heap.size, 0, Option.none⟩ = some (.int .i64 t) ∧ wx.cell? ⟨wr.heap.size, 1, Option.none⟩ = some (.bool f))
        (((repeat' apply And.intro) <;> first | (with_reducible assumption) | (((repeat (first | (with_reducible assumption) | (with_reducible exact cNewAt (by first | rfl | (simp only [World.size_alloc, World.size_setCell, World.size_drew]; done) | omega) rfl) | (with_reducible exact sNewAt (by first | rfl | (simp only [World.size_alloc, World.size_setCell, World.size_drew]; done) | omega) rfl) | (simp; done) | (with_reducible apply cAlloc) | (with_reducible apply cDrew) | (with_reducible refine cSet (by dsimp only; omega) ?_) | (with_reducible refine cSetOff (by dsimp only; omega) ?_) | (with_reducible apply cSame) | (with_reducible refine cBelow (by assumption) ?_) | (with_reducible apply sAlloc) | (with_reducible apply sDrew) | (with_reducible refine sBelow (by assumption) ?_) | (with_reducible refine sSet (by dsimp only; omega) ?_))); first | done | (simp [*]; done)); done) | (simp only [World.size_alloc, World.size_setCell, World.size_drew]; omega) | omega | (go_keep; done) | ((repeat' (first | (with_reducible exact Below.refl _ _) | (with_reducible assumption) | (with_reducible refine Below.alloc ?_ ?_ _) | (with_reducible refine Below.drew ?_) | (with_reducible refine Below.setCell ?_ ?_ _) | (with_reducible refine Below.trans ?_ (Below.mono (by assumption) ?_)) | (with_reducible exact Nat.le_refl _) | omega | (simp only [World.size_alloc, World.size_setCell, World.size_drew]; omega) | (simp; omega) | (simp; done))); done)))
        (first | fail)
      all_goals
        rename_i hHeld
        clear hHeld d0 d1 z0 z1 y0 y1
        generalize hX : ((w3.setCell ⟨w.heap.size, 0, Option.none⟩ (.int .i64 t)).setCell ⟨w.heap.size, 1, Option.none⟩ (.bool f)).drew = X
        have D : Blk X w.heap.size #[.int .i64 t, .bool f] 25 := by
          rw [← hX]
          exact (Blk.setAt (b := w.heap.size) rfl (Blk.setAt (b := w.heap.size) rfl HK2.out rfl) rfl).drew
        have HX : Hid (Below w.heap.size w X) := by
          rw [← hX]
          exact ((HB2.out.setCell (Nat.le_refl _) _).setCell (Nat.le_refl _) _).drew
        clear hX
        have e0 := Blk.cellAt (i := 0) D rfl
        have e1 := Blk.cellAt (i := 1) D rfl
        simp only [List.getElem_toArray, List.getElem_cons_zero, List.getElem_cons_succ] at e0 e1
        clear D
        go_wp2
        exact bodyPost_ret (v := .tuple #[.complex .f32 a1 a2, .agg #[.int .i64 t, .bool f], .bool true]) (by simp [results, Try.results143, go_sem, e0, e1]) rfl ⟨by rw [HPP.out.1, HPP.out.2, HEE.out], HX.out⟩
    · have hb : b = false := HNO.out (by omega)
      subst hb
      go_wp2
      go_roundw
      case rel => exact ⟨k + 1, by omega, by go_num, HR2.out, HK2.out, HB2.out⟩
      case measure => simp [intOf]; omega
end Go.Proofs.Ytlnikapkheldeaa
