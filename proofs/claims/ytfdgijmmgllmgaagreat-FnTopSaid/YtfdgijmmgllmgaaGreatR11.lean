/-
  Texts To Dgen Cop Cdr Tp Gl, joined.
-/
import Derived.Test.YtfdgijmmgllmgaaGreatR10
import Derived.Test.YtfdgijmmgllmgaaGreatR05
import Derived.Deep.RegionHeld3
import Derived.Test.YtfdgijmmgllmgaaGreatR01
import Derived.Test.YtfdgijmmgllmgaaGreatR06
import Derived.Deep.RegionLaw
import Derived.Deep.AppendLies
import Derived.Deep.DeepCutAuto
namespace Go.Proofs.YtfdgijmmgllmgaaGreat
open Go.ChangeShapes Go.WideShapes Go.ChangeAt Go.RowKit Go.Joins
set_option linter.unusedSimpArgs false
set_option linter.unusedVariables false
set_option maxRecDepth 100000
attribute [local go_sem] store_f
open Ieee Go.Lib
structure OpS (F : FuncId) (a b r : Nat) : Prop where
  call : ∀ w : World, Calls Tryz.prog F #[.float .f32 a, .float .f32 b] w fun e w' => e = .returned (.float .f32 r) ∧ w' = w
theorem fin_of_round {z : Bool} {T : Int} {R : Nat} (hR : R < 2139095040) (h : T.natAbs ≤ magOf F32 R) : Fin32 (roundTo F32 z T) := by
  obtain ⟨e, h2⟩ := roundTo_eq z T hR h
  rw [e]; exact fin_word _ (by omega)
theorem plusS {a b R : Nat} (ha : Fin32 a) (hb : Fin32 b) (hR : R < 2139095040) (h : (valOf F32 a + valOf F32 b).natAbs ≤ magOf F32 R) : OpS 134 a b (clT (valOf F32 a + valOf F32 b)) := ⟨fun w => by
  obtain ⟨r, e, h1⟩ := add_cl ha hb
  have e2 := add_fin F32 ha hb
  rw [e] at e2
  have hf : Fin32 r := by cases e2; exact fin_of_round hR h
  rw [← h1, set_clean hf]
  exact l1Plus_s a b r w e (sub_self hf)⟩
theorem minusS {a b R : Nat} (ha : Fin32 a) (hb : Fin32 b) (hR : R < 2139095040) (h : (valOf F32 a - valOf F32 b).natAbs ≤ magOf F32 R) : OpS 162 a b (clT (valOf F32 a - valOf F32 b)) := ⟨fun w => by
  obtain ⟨r, e, h1⟩ := sub_cl ha hb
  have e2 := sub_fin F32 ha hb
  rw [e] at e2
  have hf : Fin32 r := by cases e2; exact fin_of_round hR h
  rw [← h1, set_clean hf]
  exact l1Minus_s a b r w e (sub_self hf)⟩
theorem timesS {a b R : Nat} (ha : Fin32 a) (hb : Fin32 b) (hR : R < 2139095040) (h : magOf F32 (rungOf F32 a) * magOf F32 (rungOf F32 b) ≤ magOf F32 R * 2 ^ 149) : OpS 166 a b (clM (valOf F32 a * valOf F32 b)) := ⟨fun w => by
  obtain ⟨r, e, h1⟩ := mul_cl ha hb
  have e2 := mul_fin F32 (q := 149) F32_lp ha hb
  rw [e] at e2
  have hf : Fin32 r := by
    cases e2
    obtain ⟨e3, h3⟩ := roundMul_eq 149 (negOf F32 a ^^ negOf F32 b) _ hR h
    rw [e3]; exact fin_word _ (by omega)
  rw [← h1, set_clean hf]
  exact l1Times_s a b r w e (sub_self hf)⟩
theorem plus_none {x : Nat} (hx : okB x = true) : OpS 134 x 0 (cleanB x) := by
  have h := plusS (b := 0) (R := rungOf F32 x) (ok_fin hx) (fin_of_lt (by omega)) (by have := ok_rung hx; omega) (by rw [val_zero, Int.add_zero, abs_val]; exact Nat.le_refl _)
  have e : clT (valOf F32 x + valOf F32 0) = cleanB x := by
    refine cl_inj (clT_cl _) (cl_clean (ok_fin hx) (ok_lt hx)) ?_
    rw [val_zero, Int.add_zero, val_cleanM (ok_fin hx)]
    exact tv_val (ok_fin hx)
  rwa [e] at h
theorem minus_none {x : Nat} (hx : Pt x) : OpS 162 0 x (ngB x) := by
  have h := minusS (a := 0) (R := rungOf F32 x) (fin_of_lt (by omega)) hx.cl.fin (by have := ok_rung hx.ok; omega) (by rw [val_zero, Int.zero_sub, Int.natAbs_neg, abs_val]; exact Nat.le_refl _)
  have e : clT (valOf F32 0 - valOf F32 x) = ngB x := by
    refine cl_inj (clT_cl _) (cl_ng hx.cl.fin) ?_
    rw [val_zero, Int.zero_sub, val_ng hx.cl.fin]
    show tv (- valOf F32 x) = _
    rw [tv_neg, tv_val hx.cl.fin]
  rwa [e] at h
def rotW : Nat → Nat × Nat → Nat × Nat
  | 0, p => p
  | n + 1, p => (ngB (rotW n p).2, (rotW n p).1)
theorem rotW_pt (n : Nat) {p : Nat × Nat} (hx : Pt p.1) (hy : Pt p.2) : Pt (rotW n p).1 ∧ Pt (rotW n p).2 := by
  induction n with
  | zero => exact ⟨hx, hy⟩
  | succ n ih => exact ⟨pt_ng ih.2.ok, ih.1⟩
theorem rotW_act (t : Nat) (f : Bool) (ht : t < 4) {x y : Nat} (hx : Cl x) (hy : Cl y) : rotW t (x, if f then ngB y else y) = actV t f x (ngB x) y (ngB y) := by
  have e1 := ng_ng hx
  have e2 := ng_ng hy
  rcases (by omega : t = 0 ∨ t = 1 ∨ t = 2 ∨ t = 3) with rfl | rfl | rfl | rfl <;> cases f <;> simp [rotW, actV, e1, e2]
structure ActS' (t : Int) (f : Bool) (x y p q : Nat) : Prop where
  call : ∀ w : World, Calls Tryz.prog 138 #[.agg #[.int .i64 t, .bool f], .complex .f32 x y] w fun e w' => e = .returned (.complex .f32 p q) ∧ Below w.heap.size w w'
structure Rots (t : Nat) (f : Bool) (x y cx cy : Nat) (R : Nat → Nat × Nat) : Prop where
  px : OpS 134 x 0 cx
  py : OpS 134 y 0 cy
  r1 : (R 0).1 = cx
  r2 : f = false → (R 0).2 = cy
  r3 : f = true → OpS 162 0 cy (R 0).2
  m : ∀ j, j < t → OpS 162 0 (R j).2 (R (j + 1)).1
  s : ∀ j, j < t → (R (j + 1)).2 = (R j).1
set_option maxHeartbeats 4000000 in
theorem act_rots {t : Nat} {f : Bool} {x y cx cy : Nat} {R : Nat → Nat × Nat} (ht : t < 4) (K : Rots t f x y cx cy R) : ActS' t f x y (R t).1 (R t).2 := ⟨fun w => by
  have PX := K.px
  have PY := K.py
  have H1 := Lib.hid K.r1
  have H2 := Lib.hid K.r2
  have H3 := Lib.hid K.r3
  have HM := Lib.hid K.m
  have HS := Lib.hid K.s
  clear K
  cases f
  · have h2 := Lib.hid (H2.out rfl)
    clear H2 H3
    go_enter Tryz.func138, Tryz.ntmps138
    go_wp2_with (go_at_call 134; (first | (with_reducible refine (PX.call _).mono ?_) | (with_reducible refine (PY.call _).mono ?_)); rintro e w1 ⟨rfl, rfl⟩)
    go_loop [5, 6, 7] (fun u v i => ∃ j : Nat, j ≤ t ∧ i = .int .i64 j ∧ u = .float .f32 (R j).1 ∧ v = .float .f32 (R j).2) (fun _ _ i => t - (intOf i).toNat)
    case atStart => exact ⟨0, by omega, rfl, by rw [H1.out], by rw [h2.out]⟩
    case round =>
      obtain ⟨j, hj, rfl, rfl, rfl⟩ := hrel
      by_cases hlt : j < t
      · have M := HM.out j hlt
        have S := Lib.hid (HS.out j hlt)
        go_wp2_with (go_at_call 162; (with_reducible refine (M.call _).mono ?_); rintro e w1 ⟨rfl, rfl⟩)
        go_round
        case rel => exact ⟨j + 1, by omega, by go_num, rfl, by rw [S.out]⟩
        case measure => simp [intOf]; omega
      · obtain rfl : j = t := by omega
        go_wp2
        go_ret
        exact ⟨rfl, by (repeat' (first | (with_reducible exact Below.refl _ _) | (with_reducible assumption) | (with_reducible refine Below.alloc ?_ ?_ _) | (with_reducible refine Below.drew ?_) | (with_reducible refine Below.setCell ?_ ?_ _) | (with_reducible refine Below.trans ?_ (Below.mono (by assumption) ?_)) | (with_reducible exact Nat.le_refl _) | omega | (simp only [World.size_alloc, World.size_setCell, World.size_drew]; omega) | (simp; omega) | (simp; done)))⟩
  · have MY := H3.out rfl
    clear H2 H3
    go_enter Tryz.func138, Tryz.ntmps138
    go_wp2_with (first | (go_at_call 134; (first | (with_reducible refine (PX.call _).mono ?_) | (with_reducible refine (PY.call _).mono ?_)); rintro e w1 ⟨rfl, rfl⟩) | (go_at_call 162; (with_reducible refine (MY.call _).mono ?_); rintro e w1 ⟨rfl, rfl⟩))
    go_loop [5, 6, 7] (fun u v i => ∃ j : Nat, j ≤ t ∧ i = .int .i64 j ∧ u = .float .f32 (R j).1 ∧ v = .float .f32 (R j).2) (fun _ _ i => t - (intOf i).toNat)
    case atStart => exact ⟨0, by omega, rfl, by rw [H1.out], rfl⟩
    case round =>
      obtain ⟨j, hj, rfl, rfl, rfl⟩ := hrel
      by_cases hlt : j < t
      · have M := HM.out j hlt
        have S := Lib.hid (HS.out j hlt)
        go_wp2_with (go_at_call 162; (with_reducible refine (M.call _).mono ?_); rintro e w1 ⟨rfl, rfl⟩)
        go_round
        case rel => exact ⟨j + 1, by omega, by go_num, rfl, by rw [S.out]⟩
        case measure => simp [intOf]; omega
      · obtain rfl : j = t := by omega
        go_wp2
        go_ret
        exact ⟨rfl, by (repeat' (first | (with_reducible exact Below.refl _ _) | (with_reducible assumption) | (with_reducible refine Below.alloc ?_ ?_ _) | (with_reducible refine Below.drew ?_) | (with_reducible refine Below.setCell ?_ ?_ _) | (with_reducible refine Below.trans ?_ (Below.mono (by assumption) ?_)) | (with_reducible exact Nat.le_refl _) | omega | (simp only [World.size_alloc, World.size_setCell, World.size_drew]; omega) | (simp; omega) | (simp; done)))⟩⟩
theorem actS_of {t : Nat} (f : Bool) {x y : Nat} (ht : t < 4) (hx : okB x = true) (hy : okB y = true) : ActS' t f x y (actP ((t : Int), f) (ptOf hx hy)).1.1 (actP ((t : Int), f) (ptOf hx hy)).1.2 := by
  have px := pt_clean hx
  have py := pt_clean hy
  have p2 : Pt (if f then ngB (cleanB y) else cleanB y) := by
    cases f
    · exact py
    · exact pt_ng py.ok
  have K : Rots t f x y (cleanB x) (cleanB y) (fun j => rotW j (cleanB x, if f then ngB (cleanB y) else cleanB y)) := ⟨plus_none hx, plus_none hy, rfl, fun h => by rw [h]; rfl, fun h => by rw [h]; exact minus_none py, fun j _ => minus_none (rotW_pt j px p2).2, fun j _ => rfl⟩
  have h := act_rots ht K
  have e := rotW_act t f ht px.cl py.cl
  have e3 : (actP ((t : Int), f) (ptOf hx hy)).1 = actV t f (cleanB x) (ngB (cleanB x)) (cleanB y) (ngB (cleanB y)) := rfl
  rw [e3, ← e]
  exact h
structure PtS (x y : Nat) : Prop where
  call : ∀ w : World, Calls Tryz.prog 107 #[.complex .f32 x y] w fun e w' => e = .returned (.bool true) ∧ Below w.heap.size w w'
set_option maxHeartbeats 4000000 in
theorem ptS {x y : Nat} (hx : okB x = true) (hy : okB y = true) : PtS x y := ⟨fun w => by
  have S1 := fun w => l1Single_yes x w (sub_self (ok_fin hx))
  have S2 := fun w => l1Single_yes y w (sub_self (ok_fin hy))
  have i1 := ok_in hx
  have i2 := ok_in hy
  have H1 := Lib.hid S1
  have H2 := Lib.hid S2
  clear S1 S2 hx hy
  go_enter Tryz.func107, Tryz.ntmps107
  go_wp2_with fail
  refine (H1.out _).mono ?_
  rintro e w1 ⟨rfl, hb1⟩
  have HB1 : Hid (Below w.heap.size w w1) := hb1
  have hs1 := hb1.size
  clear hb1
  go_wp2_with fail
  refine (H2.out _).mono ?_
  rintro e w2 ⟨rfl, hb2⟩
  have HB2 : Hid (Below w.heap.size w w2) := HB1.out.trans (hb2.mono hs1)
  clear hb2
  unfold inB at i1 i2
  go_wp2
  all_goals (go_ret; exact ⟨by simp_all, HB2.out⟩)⟩
structure WedS (kind : Int) (x y : Nat) (b : Bool) : Prop where
  call : ∀ w : World, Calls Tryz.prog 139 #[.int .i64 kind, .complex .f32 x y] w fun e w' => e = .returned (.bool b) ∧ w' = w
set_option maxHeartbeats 2000000 in
theorem wedS_of {kind : Int} {x y : Nat} (h0 : 0 ≤ kind) (h3 : kind ≤ 3) {b1 b2 b4 : Bool}
    (e1 : (FloatKind.f32.format.order x 0 == some .gt || FloatKind.f32.format.order x 0 == some .eq) = b1)
    (e2 : (FloatKind.f32.format.order y 0 == some .gt || FloatKind.f32.format.order y 0 == some .eq) = b2)
    (e4 : (FloatKind.f32.format.order y x == some .lt || FloatKind.f32.format.order y x == some .eq) = b4) :
    WedS kind x y (if kind = 0 then true else if kind = 1 then b2 else if kind = 2 then b1 && b2 else b2 && b4) := by
  refine ⟨fun w => ?_⟩
  rcases (by omega : kind = 0 ∨ kind = 1 ∨ kind = 2 ∨ kind = 3) with rfl | rfl | rfl | rfl <;> cases b1 <;> cases b2 <;> cases b4
  all_goals
    go_enter Tryz.func139, Tryz.ntmps139
    go_wp2
    all_goals (go_ret; exact ⟨by simp_all, rfl⟩)
theorem wedS {kind : Int} (h0 : 0 ≤ kind) (h3 : kind ≤ 3) (p : PtW) : WedS kind p.1.1 p.1.2 (wed kind p) := by
  have h := wedS_of h0 h3 (x := p.1.1) (y := p.1.2) (le_zero p.2.1.cl.fin) (le_zero p.2.2.cl.fin) (le_le p.2.1.cl.fin p.2.2.cl.fin)
  exact h
structure FoldMS (kind : Int) (x y a b : Nat) (t : Int) (f : Bool) : Prop where
  call : ∀ w : World, Calls Tryz.prog 109 #[.int .i64 kind, .complex .f32 x y] w fun e w' => e = .returned (.tuple #[.complex .f32 a b, .agg #[.int .i64 t, .bool f], .bool true]) ∧ Below w.heap.size w w'
structure ActsS (l : List (Int × Bool)) (x y : Nat) (p : PtW) : Prop where
  call : ∀ k, k < l.length → ActS' (l.getD k (0, false)).1 (l.getD k (0, false)).2 x y (actP (l.getD k (0, false)) p).1.1 (actP (l.getD k (0, false)) p).1.2
structure WedsS (kind : Int) (l : List (Int × Bool)) (p : PtW) : Prop where
  call : ∀ k, k < l.length → WedS kind (actP (l.getD k (0, false)) p).1.1 (actP (l.getD k (0, false)) p).1.2 (wed kind (actP (l.getD k (0, false)) p))
structure SymsMS (kind : Int) (l : List (Int × Bool)) : Prop where
  call : ∀ w : World, Calls Tryz.prog 137 #[.int .i64 kind] w fun e w' => ∃ g cap, e = .returned (.slice (some ⟨g, 0, Option.none⟩) l.length cap) ∧ w'.ownsRow w.heap.size 63 2 (.slice (some ⟨g, 0, Option.none⟩) l.length cap) l.length (symCells l) ∧ Below w.heap.size w w'
set_option maxHeartbeats 4000000 in
set_option maxRecDepth 1000000 in
theorem foldPoint_s {kind : Int} {l : List (Int × Bool)} {x y : Nat} {p : PtW} {n : Nat} (SM : SymsMS kind l) (hlen : l.length ≤ 8) (PY : PtS x y) (A : ActsS l x y p) (W : WedsS kind l p) (F : First kind l p n) :
    FoldMS kind x y (actP (l.getD n (0, false)) p).1.1 (actP (l.getD n (0, false)) p).1.2 (l.getD n (0, false)).1 (l.getD n (0, false)).2 := by
  refine ⟨fun w => ?_⟩
  have hnl := F.lt
  go_enter Tryz.func109, Tryz.ntmps109
  go_wp2_with fail
  have HK0 : Hid (Blk (w.alloc (.cells #[.int .i64 0, .bool false] 63)) w.heap.size #[.int .i64 0, .bool false] 63) := Blk.new _ _ _
  have HB0 : Hid (Below w.heap.size w (w.alloc (.cells #[.int .i64 0, .bool false] 63))) := by show Below _ _ _; (repeat' (first | (with_reducible exact Below.refl _ _) | (with_reducible assumption) | (with_reducible refine Below.alloc ?_ ?_ _) | (with_reducible refine Below.drew ?_) | (with_reducible refine Below.setCell ?_ ?_ _) | (with_reducible refine Below.trans ?_ (Below.mono (by assumption) ?_)) | (with_reducible exact Nat.le_refl _) | omega | (simp only [World.size_alloc, World.size_setCell, World.size_drew]; omega) | (simp; omega) | (simp; done)))
  have hs0 : w.heap.size < (w.alloc (.cells #[.int .i64 0, .bool false] 63)).heap.size := by simp
  generalize w.alloc (.cells #[.int .i64 0, .bool false] 63) = X at *
  refine (PY.call _).mono ?_
  rintro e w0 ⟨rfl, hb0⟩
  have HK1 : Hid (Blk w0 w.heap.size #[.int .i64 0, .bool false] 63) := HK0.out.below hb0
  have HB1 : Hid (Below w.heap.size w w0) := HB0.out.trans (hb0.mono (by omega))
  have hs1 := hb0.size
  clear hb0 HK0 HB0
  go_wp2_with fail
  refine (SM.call _).mono ?_
  rintro e w1 ⟨gs, cs, rfl, own, hb1⟩
  have HS : Hid (SymRow w1 gs l) := symRow_of own rfl
  have HB : Hid (Below w.heap.size w w1) := HB1.out.trans (hb1.mono (by omega))
  have HK : Hid (Blk w1 w.heap.size #[.int .i64 0, .bool false] 63) := HK1.out.below hb1
  clear own hb1 HK1 HB1
  go_wp2_with fail
  go_loopw [17] (fun i wr => ∃ k : Nat, k ≤ n ∧ i = .int .i64 k ∧ SymRow wr gs l ∧ Blk wr w.heap.size #[.int .i64 0, .bool false] 63 ∧ Below w.heap.size w wr)
    (fun i _ => l.length - (intOf i).toNat)
  case atStart => exact ⟨0, by omega, rfl, HS.out, HK.out, HB.out⟩
  case round =>
    obtain ⟨k, hk, rfl, hS, hK, hbel⟩ := hrel
    have HR : Hid (SymRow wr gs l) := hS
    have HKR : Hid (Blk wr w.heap.size #[.int .i64 0, .bool false] 63) := hK
    have HBR : Hid (Below w.heap.size w wr) := hbel
    have hbs := hbel.size
    have hkl := hK.lt
    have hlt : k < l.length := by omega
    have HA := A.call k hlt
    have HW := W.call k hlt
    have HNO : Hid (k < n → wed kind (actP (l.getD k (0, false)) p) = false) := F.no k
    have HYES : Hid (k = n → wed kind (actP (l.getD k (0, false)) p) = true) := fun e => by rw [e]; exact F.yes
    obtain ⟨c0, c1⟩ := hS k hlt
    have HE : Hid (k = n → l.getD n (0, false) = l.getD k (0, false)) := fun e => by rw [e]
    clear hS hK hbel
    generalize wed kind (actP (l.getD k (0, false)) p) = b at HW HNO HYES
    have HP : Hid (k = n → (actP (l.getD n (0, false)) p).1.1 = (actP (l.getD k (0, false)) p).1.1 ∧ (actP (l.getD n (0, false)) p).1.2 = (actP (l.getD k (0, false)) p).1.2) := fun e => by rw [e]; exact ⟨rfl, rfl⟩
    generalize (actP (l.getD k (0, false)) p).1.1 = a1 at HA HW HP
    generalize (actP (l.getD k (0, false)) p).1.2 = a2 at HA HW HP
    generalize l.getD k (0, false) = s at HA c0 c1 HE
    obtain ⟨t, f⟩ := s
    simp only [] at c0 c1
    go_wp2_with fail
    refine (HA.call _).mono ?_
    rintro e w2 ⟨rfl, hb2⟩
    have hs2 := hb2.size
    simp only [World.size_alloc] at hs2
    have HB2 : Hid (Below w.heap.size w w2) := (HBR.out.alloc (by omega) _).trans (hb2.mono (by simp; omega))
    have HR2 : Hid (SymRow w2 gs l) := HR.out.alloc.below hb2
    have HK2 : Hid (Blk w2 w.heap.size #[.int .i64 0, .bool false] 63) := HKR.out.alloc.below hb2
    have hc : Blk w2 wr.heap.size #[.int .i64 t, .bool f] 63 := Blk.belowAt hb2 (Blk.new _ _ _)
    have d0 := Blk.cellAt (i := 0) hc rfl
    have d1 := Blk.cellAt (i := 1) hc rfl
    simp only [List.getElem_toArray, List.getElem_cons_zero, List.getElem_cons_succ] at d0 d1
    have ld := hc.lt
    clear c0 c1 hb2 HR HKR HBR hc
    go_wp2_with fail
    refine (HW.call _).mono ?_
    rintro e w3 ⟨rfl, rfl⟩
    by_cases hkn : k = n
    · have hb : b = true := HYES.out hkn
      subst hb
      have z0 : w3.cell? ⟨w.heap.size, 0, Option.none⟩ = some (.int .i64 0) := HK2.out.cell 0
      have z1 : w3.cell? ⟨w.heap.size, 1, Option.none⟩ = some (.bool false) := HK2.out.cell 1
      have y0 : w3.frozen? ⟨w.heap.size, 0, Option.none⟩ = false := HK2.out.free 0
      have y1 : w3.frozen? ⟨w.heap.size, 1, Option.none⟩ = false := HK2.out.free 1
      have HEE : Hid (l.getD n (0, false) = (t, f)) := HE.out hkn
      have HPP : Hid ((actP (l.getD n (0, false)) p).1.1 = a1 ∧ (actP (l.getD n (0, false)) p).1.2 = a2) := HP.out hkn
      clear hkn HE HP HYES HNO
      go_wp2_with fail
      go_region_held3 (fun wx => wx.cell? ⟨wr.heap.size, 0, Option.none⟩ = some (.int .i64 t) ∧ wx.cell? ⟨wr.heap.size, 1, Option.none⟩ = some (.bool f))
        (((repeat' apply And.intro) <;> first | (with_reducible assumption) | (((repeat (first | (with_reducible assumption) | (with_reducible exact cNewAt (by first | rfl | (simp only [World.size_alloc, World.size_setCell, World.size_drew]; done) | omega) rfl) | (with_reducible exact sNewAt (by first | rfl | (simp only [World.size_alloc, World.size_setCell, World.size_drew]; done) | omega) rfl) | (simp; done) | (with_reducible apply cAlloc) | (with_reducible apply cDrew) | (with_reducible refine cSet (by dsimp only; omega) ?_) | (with_reducible refine cSetOff (by dsimp only; omega) ?_) | (with_reducible apply cSame) | (with_reducible refine cBelow (by assumption) ?_) | (with_reducible apply sAlloc) | (with_reducible apply sDrew) | (with_reducible refine sBelow (by assumption) ?_) | (with_reducible refine sSet (by dsimp only; omega) ?_))); first | done | (simp [*]; done)); done) | (simp only [World.size_alloc, World.size_setCell, World.size_drew]; omega) | omega | (go_keep; done) | ((repeat' (first | (with_reducible exact Below.refl _ _) | (with_reducible assumption) | (with_reducible refine Below.alloc ?_ ?_ _) | (with_reducible refine Below.drew ?_) | (with_reducible refine Below.setCell ?_ ?_ _) | (with_reducible refine Below.trans ?_ (Below.mono (by assumption) ?_)) | (with_reducible exact Nat.le_refl _) | omega | (simp only [World.size_alloc, World.size_setCell, World.size_drew]; omega) | (simp; omega) | (simp; done))); done)))
        (first | fail)
      all_goals
        rename_i hHeld
        clear hHeld d0 d1 z0 z1 y0 y1
        generalize hX : ((w3.setCell ⟨w.heap.size, 0, Option.none⟩ (.int .i64 t)).setCell ⟨w.heap.size, 1, Option.none⟩ (.bool f)).drew = X
        have D : Blk X w.heap.size #[.int .i64 t, .bool f] 63 := by
          rw [← hX]
          exact (Blk.setAt (b := w.heap.size) rfl (Blk.setAt (b := w.heap.size) rfl HK2.out rfl) rfl).drew
        have HX : Hid (Below w.heap.size w X) := by
          rw [← hX]
          exact ((HB2.out.setCell (Nat.le_refl _) _).setCell (Nat.le_refl _) _).drew
        clear hX
        have e0 := Blk.cellAt (i := 0) D rfl
        have e1 := Blk.cellAt (i := 1) D rfl
        simp only [List.getElem_toArray, List.getElem_cons_zero, List.getElem_cons_succ] at e0 e1
        clear D
        go_wp2
        exact bodyPost_ret (v := .tuple #[.complex .f32 a1 a2, .agg #[.int .i64 t, .bool f], .bool true]) (by simp [results, Tryz.results109, go_sem, e0, e1]) rfl ⟨by rw [HPP.out.1, HPP.out.2, HEE.out], HX.out⟩
    · have hb : b = false := HNO.out (by omega)
      subst hb
      go_wp2
      go_roundw
      case rel => exact ⟨k + 1, by omega, by go_num, HR2.out, HK2.out, HB2.out⟩
      case measure => simp [intOf]; omega
theorem actsS_of {l : List (Int × Bool)} (hl : ∀ s ∈ l, isSymB s.1 = true) {x y : Nat} (hx : okB x = true) (hy : okB y = true) : ActsS l x y (ptOf hx hy) := ⟨fun k hk => by
  have hs := hl _ (getD_memS hk)
  obtain ⟨h1, h2⟩ := isSymB_iff.1 hs
  have h := actS_of (t := (l.getD k (0, false)).1.toNat) (l.getD k (0, false)).2 (by omega) hx hy
  rwa [Int.toNat_of_nonneg h1] at h⟩
theorem foldS_raw {kind : Int} {x y : Nat} (h0 : 0 ≤ kind) (h3 : kind ≤ 3) (hx : okB x = true) (hy : okB y = true) : FoldMS kind x y (actP (foldS kind (ptOf hx hy)) (ptOf hx hy)).1.1 (actP (foldS kind (ptOf hx hy)) (ptOf hx hy)).1.2 (foldS kind (ptOf hx hy)).1 (foldS kind (ptOf hx hy)).2 := by
  obtain ⟨n, F⟩ := first_of h0 h3 (ptOf hx hy)
  have hrg := syms_range kind h0 h3
  have SM : SymsMS kind (symsTo kind 8) := ⟨fun w => symsOf_s kind w⟩
  have FM := foldPoint_s SM (symsTo_le kind 8) (ptS hx hy) (actsS_of hrg hx hy) ⟨fun k hk => wedS h0 h3 _⟩ F
  rw [fold_first F] at FM
  exact FM
end Go.Proofs.YtfdgijmmgllmgaaGreat
namespace Go.Proofs.YtfdgijmmgllmgaaGreat
open Go.ChangeShapes Go.WideShapes Go.ChangeAt Go.RowKit Go.Joins 
set_option linter.unusedSimpArgs false
set_option linter.unusedVariables false
set_option maxRecDepth 100000
structure OnceDrawn (B q : Nat) (w : World) (e : Ending) (w' : World) (t : Bool) : Prop where
  ret : e = .returned (.bool t)
  cur : Cur B w' q
  grown : w.grownBy w' (some q)
theorem l1Once_s (B q : Nat) (n : Int) (w : World) (hcur : Cur B w q) (h1 : 1 ≤ n) (h2 : n ≤ 256) :
    Calls Tryz.prog 98 #[.pointer (some ⟨q, 0, Option.none⟩), .int .i64 n] w fun e w' => ∃ t : Bool, OnceDrawn B q w e w' t := by
  have HC : Hid (Cur B w q) := hcur
  clear hcur
  go_enter Tryz.func98, Tryz.ntmps98
  go_wp2_with fail
  refine (l1Below_s B q n _ HC.out h1 h2).mono ?_
  rintro e w1 ⟨x, rfl, hx0, hx1, hc1, hg1⟩
  have HC1 : Hid (Cur B w1 q) := hc1
  have HG1 : Hid (w.grownBy w1 (some q)) := hg1
  clear hc1 hg1
  go_wp2
  go_ret
  exact ⟨_, rfl, HC1.out, HG1.out⟩
end Go.Proofs.YtfdgijmmgllmgaaGreat
namespace Go.Proofs.YtfdgijmmgllmgaaGreat
open Ieee
def pm (x : Nat) : Nat := magOf F32 (rungOf F32 x)
theorem mag_one : magOf F32 1065353216 = 2 ^ 149 := by decide +kernel
theorem Part.rung {x : Nat} (h : Part x) : rungOf F32 x ≤ 1065353216 := by
  rcases h with h | h
  · rw [rung_of_lt (by omega)]; exact h
  · subst h; unfold rungOf; rw [F32_sw]; decide
theorem Part.pm_le {x : Nat} (h : Part x) : pm x ≤ 2 ^ 149 := by
  rw [← mag_one]; exact magOf_le F32 h.rung
theorem Part.neg {x : Nat} (h : Part x) : negOf F32 x = true → rungOf F32 x = 0 := by
  intro hn
  rcases h with h | h
  · rw [neg_of_lt (by omega)] at hn; cases hn
  · subst h; unfold rungOf; rw [F32_sw]
theorem Part.val {x : Nat} (h : Part x) : valOf F32 x = (pm x : Int) := by
  unfold valOf pm
  cases hn : negOf F32 x
  · rfl
  · rw [h.neg hn, magOf_zero]; rfl
theorem Part.order {a b : Nat} (ha : Part a) (hb : Part b) : F32.order a b = some (compare (pm a : Int) (pm b : Int)) := by
  rw [order_fin F32 ha.fin hb.fin, ha.val, hb.val]
theorem pm_word {r : Nat} (h : r < 2147483648) : pm r = magOf F32 r := by unfold pm; rw [rung_of_lt h]
theorem part_of_le {x : Nat} (h : x ≤ 1065353216) : Part x := Or.inl h
theorem part_one : Part 1065353216 := Or.inl (Nat.le_refl _)
theorem pm_one : pm 1065353216 = 2 ^ 149 := by rw [pm_word (by omega), mag_one]
def opB (o : Option Nat) : Nat := match o with | some r => cleanB r | none => 0
def mulB (a b : Nat) : Nat := opB (F32.mul a b)
def subB (a b : Nat) : Nat := opB (F32.sub a b)
def addB (a b : Nat) : Nat := opB (F32.add a b)
theorem clean_word (s : Bool) {r : Nat} (h : r < 2139095040) : cleanB (F32.word s r) = if r = 0 then 0 else F32.word s r := by
  rw [clean_eq (fin_word s h), rungOf_word F32 s (by rw [F32_sw]; omega)]
theorem mul_part {a b : Nat} (ha : Part a) (hb : Part b) :
    ∃ r, F32.mul a b = some r ∧ Fin32 r ∧ cleanB r = rn F32 (pm a * pm b) 149 ∧ rn F32 (pm a * pm b) 149 ≤ rungOf F32 a ∧ rn F32 (pm a * pm b) 149 ≤ rungOf F32 b := by
  have e := mul_fin F32 (q := 149) F32_lp ha.fin hb.fin
  have hN : pm a * pm b ≤ magOf F32 (rungOf F32 a) * 2 ^ 149 := Nat.mul_le_mul_left _ hb.pm_le
  have hN2 : pm a * pm b ≤ magOf F32 (rungOf F32 b) * 2 ^ 149 := by rw [Nat.mul_comm]; exact Nat.mul_le_mul_left _ ha.pm_le
  have hra := ha.rung
  obtain ⟨e1, l1⟩ := roundMul_eq 149 (negOf F32 a ^^ negOf F32 b) (pm a * pm b) (R := rungOf F32 a) (by omega) hN
  have l2 : rn F32 (pm a * pm b) 149 ≤ rungOf F32 b := rn_le F32 hN2
  refine ⟨_, e, ?_, ?_, l1, l2⟩
  · show Fin32 (roundMul F32 149 (negOf F32 a ^^ negOf F32 b) (pm a * pm b))
    rw [e1]; exact fin_word _ (by omega)
  · show cleanB (roundMul F32 149 (negOf F32 a ^^ negOf F32 b) (pm a * pm b)) = _
    rw [e1, clean_word _ (by omega)]
    by_cases h0 : rn F32 (pm a * pm b) 149 = 0
    · rw [if_pos h0, h0]
    · rw [if_neg h0]
      cases hs : (negOf F32 a ^^ negOf F32 b)
      · rfl
      · exfalso; apply h0
        have : pm a * pm b = 0 := by
          unfold pm
          cases na : negOf F32 a
          · cases nb : negOf F32 b
            · rw [na, nb] at hs; cases hs
            · rw [hb.neg nb, magOf_zero, Nat.mul_zero]
          · rw [ha.neg na, magOf_zero, Nat.zero_mul]
        rw [this, rn_zero]
theorem mulB_part {a b : Nat} (ha : Part a) (hb : Part b) : mulB a b = rn F32 (pm a * pm b) 149 ∧ mulB a b ≤ rungOf F32 a ∧ mulB a b ≤ rungOf F32 b := by
  obtain ⟨r, e, _, e1, l1, l2⟩ := mul_part ha hb
  unfold mulB; rw [e]
  show cleanB r = _ ∧ cleanB r ≤ _ ∧ cleanB r ≤ _
  rw [e1]; exact ⟨rfl, l1, l2⟩
theorem Part.mul {a b : Nat} (ha : Part a) (hb : Part b) : Part (mulB a b) := part_of_le (by have := (mulB_part ha hb).2.1; have := ha.rung; omega)
theorem sub_part {a b : Nat} (ha : Part a) (hb : Part b) : ∃ r, F32.sub a b = some r ∧ Fin32 r ∧
    (pm b ≤ pm a → cleanB r = rn F32 (pm a - pm b) 0 ∧ rn F32 (pm a - pm b) 0 ≤ rungOf F32 a) := by
  have e := sub_fin F32 ha.fin hb.fin
  rw [ha.val, hb.val] at e
  have h1 := ha.pm_le
  have h2 := hb.pm_le
  have hra := ha.rung
  obtain ⟨e1, l1⟩ := roundTo_eq (negOf F32 a && !negOf F32 b) ((pm a : Int) - (pm b : Int)) (R := 1065353216) (by omega) (by rw [mag_one]; omega)
  rw [e1] at e
  refine ⟨_, e, fin_word _ (by omega), fun hle => ?_⟩
  have hn : ((pm a : Int) - (pm b : Int)).natAbs = pm a - pm b := by omega
  rw [hn]
  have l2 : rn F32 (pm a - pm b) 0 ≤ rungOf F32 a := rn_le F32 (by rw [Nat.pow_zero, Nat.mul_one]; exact Nat.sub_le _ _)
  refine ⟨?_, l2⟩
  rw [clean_word _ (by omega)]
  by_cases h0 : rn F32 (pm a - pm b) 0 = 0
  · rw [if_pos h0, h0]
  · rw [if_neg h0]
    have hT : ¬ ((pm a : Int) - (pm b : Int)) = 0 := by
      intro h; apply h0
      have : pm a - pm b = 0 := by omega
      rw [this, rn_zero]
    have hT2 : ¬ ((pm a : Int) - (pm b : Int)) < 0 := by omega
    rw [if_neg hT, decide_eq_false hT2]; rfl
theorem subB_part {a b : Nat} (ha : Part a) (hb : Part b) (h : pm b ≤ pm a) : subB a b = rn F32 (pm a - pm b) 0 ∧ subB a b ≤ rungOf F32 a := by
  obtain ⟨r, e, _, e1⟩ := sub_part ha hb
  unfold subB; rw [e]
  show cleanB r = _ ∧ cleanB r ≤ _
  rw [(e1 h).1]; exact ⟨rfl, (e1 h).2⟩
theorem Part.sub {a b : Nat} (ha : Part a) (hb : Part b) (h : pm b ≤ pm a) : Part (subB a b) := part_of_le (by have := (subB_part ha hb h).2; have := ha.rung; omega)
theorem mag_two : magOf F32 1073741824 = 2 ^ 150 := by decide +kernel
theorem add_part {a b : Nat} (ha : Part a) (hb : Part b) : ∃ r, F32.add a b = some r ∧ Fin32 r ∧ cleanB r = rn F32 (pm a + pm b) 0 ∧ rn F32 (pm a + pm b) 0 ≤ 1073741824 := by
  have e := add_fin F32 ha.fin hb.fin
  rw [ha.val, hb.val] at e
  have h1 := ha.pm_le
  have h2 := hb.pm_le
  have hn : ((pm a : Int) + (pm b : Int)).natAbs = pm a + pm b := by omega
  obtain ⟨e1, l1⟩ := roundTo_eq (negOf F32 a && negOf F32 b) ((pm a : Int) + (pm b : Int)) (R := 1073741824) (by omega) (by rw [mag_two, hn]; omega)
  rw [e1] at e
  rw [hn] at e l1
  refine ⟨_, e, fin_word _ (by omega), ?_, l1⟩
  rw [clean_word _ (by omega)]
  by_cases h0 : rn F32 (pm a + pm b) 0 = 0
  · rw [if_pos h0, h0]
  · rw [if_neg h0]
    have hT : ¬ ((pm a : Int) + (pm b : Int)) = 0 := by
      intro h; apply h0
      have : pm a + pm b = 0 := by omega
      rw [this, rn_zero]
    have hT2 : ¬ ((pm a : Int) + (pm b : Int)) < 0 := by omega
    rw [if_neg hT, decide_eq_false hT2]; rfl
theorem addB_part {a b : Nat} (ha : Part a) (hb : Part b) : addB a b = rn F32 (pm a + pm b) 0 ∧ addB a b ≤ 1073741824 := by
  obtain ⟨r, e, _, e1, l1⟩ := add_part ha hb
  unfold addB; rw [e]
  show cleanB r = _ ∧ cleanB r ≤ _
  rw [e1]; exact ⟨rfl, l1⟩
end Go.Proofs.YtfdgijmmgllmgaaGreat
namespace Go.Proofs.YtfdgijmmgllmgaaGreat
open Go.ChangeShapes Go.WideShapes Go.ChangeAt Go.RowKit Go.Joins
set_option linter.unusedSimpArgs false
set_option linter.unusedVariables false
set_option maxRecDepth 100000
attribute [local go_sem] store_f
open Ieee
structure PartDrawn (B q : Nat) (w : World) (e : Ending) (w' : World) (x : Nat) : Prop where
  ret : e = .returned (.float .f32 x)
  le : x ≤ 1065353216
  cur : Cur B w' q
  grown : w.grownBy w' (some q)
def centB (n : Nat) : Nat := match FloatKind.f32.format.div (floatOfInt .f32 n) 1120403456 with | some r => r | none => 0
theorem cents : ∀ n : Nat, n < 101 → FloatKind.f32.format.div (floatOfInt .f32 n) 1120403456 = some (centB n) ∧ centB n ≤ 1065353216 := by decide +kernel
set_option maxHeartbeats 1000000 in
theorem l2One_s (B q : Nat) (w : World) (hcur : Cur B w q) :
    Calls Tryz.prog 96 #[.pointer (some ⟨q, 0, Option.none⟩)] w fun e w' => ∃ x : Nat, PartDrawn B q w e w' x := by
  have HC : Hid (Cur B w q) := hcur
  clear hcur
  go_enter Tryz.func96, Tryz.ntmps96
  go_wp2_with fail
  refine (l1Once_s B q 3 _ HC.out (by omega) (by omega)).mono ?_
  rintro e w1 ⟨t, ⟨rfl, hc1, hg1⟩⟩
  have HC1 : Hid (Cur B w1 q) := hc1
  have HG1 : Hid (w.grownBy w1 (some q)) := hg1
  have s1 := hg1.size
  clear hc1 hg1
  cases t
  · go_wp2_with fail
    refine (l1Below_s B q 101 _ HC1.out (by omega) (by omega)).mono ?_
    rintro e w2 ⟨x, rfl, hx0, hx1, hc2, hg2⟩
    have HC2 : Hid (Cur B w2 q) := hc2
    have HG2 : Hid (w1.grownBy w2 (some q)) := hg2
    clear hc2 hg2
    obtain ⟨n, rfl⟩ : ∃ n : Nat, x = n := ⟨x.toNat, by omega⟩
    have hn : n < 101 := by omega
    have hop := fun t W => run_float_arith (P := Tryz.prog) W .quo t .f32 (floatOfInt .f32 n) 1120403456 _ (cents n hn).1
    have hle : Hid (centB n ≤ 1065353216) := (cents n hn).2
    generalize centB n = y at hop hle
    clear hx0 hx1
    go_wp2_with (simp only [hop])
    go_ret
    exact ⟨y, rfl, hle.out, HC2.out, grownBy_trans HG1.out HG2.out⟩
  · have hqlt := HC1.out.lt
    go_wp2_with fail
    have HA : Hid (Cur B (w1.alloc (.cells #[.float .f32 0, .float .f32 1065353216, .float .f32 1056964608, .float .f32 1048576000] 24)) q) := HC1.out.alloc
    have HK : Hid (Blk (w1.alloc (.cells #[.float .f32 0, .float .f32 1065353216, .float .f32 1056964608, .float .f32 1048576000] 24)) w1.heap.size #[.float .f32 0, .float .f32 1065353216, .float .f32 1056964608, .float .f32 1048576000] 24) := Blk.new _ _ _
    refine (l1Below_s B q 4 _ HA.out (by omega) (by omega)).mono ?_
    rintro e w2 ⟨x, rfl, hx0, hx1, hc2, hg2⟩
    have HB2 := HK.out.grown hg2 (by omega)
    have HC2 : Hid (Cur B w2 q) := hc2
    have HG2 : Hid (w.grownBy w2 (some q)) := grownBy_trans (grown_alloc HG1.out _) hg2
    have l2 := HB2.lt
    have d0 := Blk.cellAt (i := 0) HB2 rfl
    have d1 := Blk.cellAt (i := 1) HB2 rfl
    have d2 := Blk.cellAt (i := 2) HB2 rfl
    have d3 := Blk.cellAt (i := 3) HB2 rfl
    simp at d0 d1 d2 d3
    clear hc2 hg2 HB2
    rcases (by omega : x = 0 ∨ x = 1 ∨ x = 2 ∨ x = 3) with rfl | rfl | rfl | rfl
    all_goals
      go_wp2
      go_ret
      exact ⟨_, rfl, by omega, HC2.out, HG2.out⟩
structure ColDrawn (B q : Nat) (w : World) (e : Ending) (w' : World) (r g b : Nat) : Prop where
  ret : e = .returned (.agg #[.float .f32 r, .float .f32 g, .float .f32 b])
  lr : r ≤ 1065353216
  lg : g ≤ 1065353216
  lb : b ≤ 1065353216
  cur : Cur B w' q
  grown : w.grownBy w' (some q)
set_option maxHeartbeats 1000000 in
theorem l2Draw_s (B q : Nat) (w : World) (hcur : Cur B w q) :
    Calls Tryz.prog 59 #[.pointer (some ⟨q, 0, Option.none⟩)] w fun e w' => ∃ r g b : Nat, ColDrawn B q w e w' r g b := by
  have HC : Hid (Cur B w q) := hcur
  have hq := hcur.lt
  clear hcur
  go_enter Tryz.func59, Tryz.ntmps59
  go_wp2_with fail
  have HA : Hid (Cur B (w.alloc (.cells #[.float .f32 0, .float .f32 0, .float .f32 0] 26)) q) := HC.out.alloc
  have HK : Hid (Blk (w.alloc (.cells #[.float .f32 0, .float .f32 0, .float .f32 0] 26)) w.heap.size #[.float .f32 0, .float .f32 0, .float .f32 0] 26) := Blk.new _ _ _
  refine (l2One_s B q _ HA.out).mono ?_
  rintro e w1 ⟨r, ⟨rfl, lr, hc1, hg1⟩⟩
  have K1 : Hid (Blk w1 w.heap.size #[.float .f32 0, .float .f32 0, .float .f32 0] 26) := HK.out.grown hg1 (by omega)
  have C1 : Hid (Cur B w1 q) := hc1
  have G1 : Hid (w.grownBy w1 (some q)) := grownBy_trans (grown_alloc (grownBy_refl _ _) _) hg1
  clear hc1 hg1
  go_wp2_with fail
  refine (l2One_s B q _ C1.out).mono ?_
  rintro e w2 ⟨g, ⟨rfl, lg, hc2, hg2⟩⟩
  have K2 : Hid (Blk w2 w.heap.size #[.float .f32 0, .float .f32 0, .float .f32 0] 26) := K1.out.grown hg2 (by omega)
  have C2 : Hid (Cur B w2 q) := hc2
  have G2 : Hid (w.grownBy w2 (some q)) := grownBy_trans G1.out hg2
  clear hc2 hg2
  go_wp2_with fail
  refine (l2One_s B q _ C2.out).mono ?_
  rintro e w3 ⟨b, ⟨rfl, lb, hc3, hg3⟩⟩
  have HB3 := K2.out.grown hg3 (by omega)
  have C3 : Hid (Cur B w3 q) := hc3
  have G3 : Hid (w.grownBy w3 (some q)) := grownBy_trans G2.out hg3
  clear hc3 hg3
  have l3 := HB3.lt
  have d0 := Blk.cellAt (i := 0) HB3 rfl
  have d1 := Blk.cellAt (i := 1) HB3 rfl
  have d2 := Blk.cellAt (i := 2) HB3 rfl
  have f0 := Blk.freeAt (i := 0) HB3
  have f1 := Blk.freeAt (i := 1) HB3
  have f2 := Blk.freeAt (i := 2) HB3
  simp at d0 d1 d2
  have K3 : Hid (Blk w3 w.heap.size #[.float .f32 0, .float .f32 0, .float .f32 0] 26) := HB3
  clear HB3
  have LR : Hid (r ≤ 1065353216) := lr
  have LG : Hid (g ≤ 1065353216) := lg
  have LB : Hid (b ≤ 1065353216) := lb
  clear lr lg lb
  go_wp2
  have e0 := (K3.out.set (i := 0) (v := .float .f32 r)).cell 0
  have e1 := ((K3.out.set (i := 0) (v := .float .f32 r)).set (i := 1) (v := .float .f32 g)).cell 1
  have e2 := (((K3.out.set (i := 0) (v := .float .f32 r)).set (i := 1) (v := .float .f32 g)).set (i := 2) (v := .float .f32 b)).cell 2
  simp only [List.setIfInBounds_toArray, List.set_cons_zero, List.set_cons_succ, List.getElem?_toArray, List.getElem?_cons_zero, List.getElem?_cons_succ] at e0 e1 e2
  have CF : Cur B (((w3.setCell ⟨w.heap.size, 0, Option.none⟩ (.float .f32 r)).setCell ⟨w.heap.size, 1, Option.none⟩ (.float .f32 g)).setCell ⟨w.heap.size, 2, Option.none⟩ (.float .f32 b)) q := by
    have h := C3.out
    have hB := h.ge
    obtain ⟨a, len, cap, bs, i, hh, h1, h2, h3, h4, h5⟩ := h
    exact ⟨a, len, cap, bs, i, hh, ((h1.other (by dsimp only; omega)).other (by dsimp only; omega)).other (by dsimp only; omega), h2, h3, h4.of (by
      have h6 : Below B w3 w3 := Below.refl _ _
      exact Below.setCell (Below.setCell (Below.setCell h6 (by dsimp only; omega) _) (by dsimp only; omega) _) (by dsimp only; omega) _), h5⟩
  have GF : w.grownBy (((w3.setCell ⟨w.heap.size, 0, Option.none⟩ (.float .f32 r)).setCell ⟨w.heap.size, 1, Option.none⟩ (.float .f32 g)).setCell ⟨w.heap.size, 2, Option.none⟩ (.float .f32 b)) (some q) :=
    grown_setNew (grown_setNew (grown_setNew G3.out (Nat.le_refl _) _) (Nat.le_refl _) _) (Nat.le_refl _) _
  exact bodyPost_ret (v := .agg #[.float .f32 r, .float .f32 g, .float .f32 b]) (by simp [results, Tryz.results59, go_sem, e0, e1, e2]) rfl ⟨r, g, b, rfl, LR.out, LG.out, LB.out, CF, GF⟩
end Go.Proofs.YtfdgijmmgllmgaaGreat
namespace Go.Proofs.YtfdgijmmgllmgaaGreat
open Go.ChangeShapes Go.WideShapes Go.ChangeAt Go.RowKit Go.Joins
set_option linter.unusedSimpArgs false
set_option linter.unusedVariables false
set_option maxRecDepth 100000
attribute [local go_sem] store_f
open Ieee Go.Lib
attribute [local go_sem] store_c
theorem grown_st' {w w1 w2 : World} {q : Nat} {r : Option Nat} (h : w.grownBy w1 (some q)) (k : w1.grownBy w2 r) (hr : ∀ x, r = some x → w.heap.size ≤ x) : w.grownBy w2 (some q) :=
  ⟨k.os.trans h.os, k.tape.trans h.tape, k.output.trans h.output, Nat.le_trans h.size k.size, fun i hi hne => (k.block i (Nat.lt_of_lt_of_le hi h.size) (fun e => by have := hr i e.symm; omega)).trans (h.block i hi hne)⟩
structure KindDrawn (B q : Nat) (w : World) (e : Ending) (w' : World) (k : Nat) : Prop where
  ret : e = .returned (.int .i64 k)
  lt : k < 4
  cur : Cur B w' q
  grown : w.grownBy w' (some q)
set_option maxHeartbeats 2000000 in
theorem l1Int_5 (B q g : Nat) (t : TypeId) (w : World) (hcur : Cur B w q) (hne : g ≠ q) (hrow : Blk w g #[.int .i64 0, .int .i64 1, .int .i64 2, .int .i64 3, .int .i64 3] t) :
    Calls Tryz.prog 60 #[.pointer (some ⟨q, 0, Option.none⟩), .slice (some ⟨g, 0, Option.none⟩) 5 5] w fun e w' => ∃ x, KindDrawn B q w e w' x := by
  have HC : Hid (Cur B w q) := hcur
  have HB : Hid (∀ k : Nat, k < 5 → ∃ x : Nat, x < 4 ∧ w.cell? ⟨g, k, Option.none⟩ = some (.int .i64 (x : Nat))) := fun k hk => by
    rcases (by omega : k = 0 ∨ k = 1 ∨ k = 2 ∨ k = 3 ∨ k = 4) with rfl | rfl | rfl | rfl | rfl
    · exact ⟨0, by omega, (hrow.cell _).trans rfl⟩
    · exact ⟨1, by omega, (hrow.cell _).trans rfl⟩
    · exact ⟨2, by omega, (hrow.cell _).trans rfl⟩
    · exact ⟨3, by omega, (hrow.cell _).trans rfl⟩
    · exact ⟨3, by omega, (hrow.cell _).trans rfl⟩
  have hlt : Hid (g < w.heap.size) := hrow.lt
  clear hcur hrow
  go_enter Tryz.func60, Tryz.ntmps60
  go_wp2_with fail
  refine (l1Below_s B q 5 _ HC.out (by omega) (by omega)).mono ?_
  rintro e w1 ⟨x, rfl, hx0, hx1, hc1, hg1⟩
  obtain ⟨n, rfl⟩ : ∃ n : Nat, x = n := ⟨x.toNat, by omega⟩
  have hn : n < 5 := by omega
  obtain ⟨y, hy4, hy⟩ := HB.out n hn
  have hy1 : w1.cell? ⟨g, n, Option.none⟩ = some (.int .i64 (y : Nat)) := (World.cell?_of_block (hg1.block g hlt.out (fun e => hne (Option.some.inj e)))).trans hy
  have HC1 : Hid (Cur B w1 q) := hc1
  have HG1 : Hid (w.grownBy w1 (some q)) := hg1
  clear hc1 hg1 hy hx0 hx1
  go_wp2
  go_ret
  exact ⟨y, rfl, hy4, HC1.out, HG1.out⟩
end Go.Proofs.YtfdgijmmgllmgaaGreat
namespace Go.Proofs.YtfdgijmmgllmgaaGreat
open Go.ChangeShapes Go.WideShapes Go.ChangeAt Go.RowKit Go.Joins
set_option linter.unusedSimpArgs false
set_option linter.unusedVariables false
set_option maxRecDepth 100000
attribute [local go_sem] store_f
open Ieee
theorem abs_add (x y : Int) : (x + y).natAbs ≤ x.natAbs + y.natAbs := by omega
theorem add_bd {x y R1 R2 R : Nat} (hx : rungOf F32 x ≤ R1) (hy : rungOf F32 y ≤ R2) (h1 : R1 < 2139095040) (h2 : R2 < 2139095040) (hR : R < 2139095040) (h : magOf F32 R1 + magOf F32 R2 ≤ magOf F32 R) :
    ∃ r, F32.add x y = some r ∧ rungOf F32 r ≤ R ∧ r < 4294967296 := by
  have fx : Fin32 x := by unfold Fin32; rw [F32_inf]; omega
  have fy : Fin32 y := by unfold Fin32; rw [F32_inf]; omega
  have m1 := magOf_le F32 hx
  have m2 := magOf_le F32 hy
  have e := add_fin F32 fx fy
  have hT : (valOf F32 x + valOf F32 y).natAbs ≤ magOf F32 R := by
    have := abs_add (valOf F32 x) (valOf F32 y)
    rw [abs_val, abs_val] at this
    omega
  obtain ⟨e1, e2⟩ := roundTo_eq (negOf F32 x && negOf F32 y) _ hR hT
  rw [e1] at e
  exact ⟨_, e, by rw [rungOf_word F32 _ (by rw [F32_sw]; omega)]; exact e2, word_lt _ (by omega)⟩
def quB (o : Int) (m : Nat) : Nat := match F32.div (floatOfInt .f32 ((m : Int) - o)) 1082130432 with | some r => r | none => 0
theorem qu_32 : ∀ m : Nat, m < 65 → F32.div (floatOfInt .f32 ((m : Int) - 32)) 1082130432 = some (quB 32 m) ∧ quB 32 m < 4294967296 ∧ quB 32 m % 2147483648 ≤ 1090519040 := by decide +kernel
theorem qu_24 : ∀ m : Nat, m < 49 → F32.div (floatOfInt .f32 ((m : Int) - 24)) 1082130432 = some (quB 24 m) ∧ quB 24 m < 4294967296 ∧ quB 24 m % 2147483648 ≤ 1090519040 := by decide +kernel
structure Qu (x : Nat) : Prop where
  lt : x < 4294967296
  le : rungOf F32 x ≤ 1090519040
theorem Qu.ok {x : Nat} (h : Qu x) : okB x = true := by
  have := h.le
  unfold rungOf at this
  rw [F32_sw] at this
  simp [okB, h.lt]; omega
theorem m_16 : magOf F32 1090519040 + magOf F32 1090519040 ≤ magOf F32 1166016512 := by decide +kernel
theorem qu_add {x y : Nat} (hx : Qu x) (hy : Qu y) : (valOf F32 x + valOf F32 y).natAbs ≤ magOf F32 1166016512 := by
  have m1 := magOf_le F32 hx.le
  have m2 := magOf_le F32 hy.le
  have := abs_add (valOf F32 x) (valOf F32 y)
  rw [abs_val, abs_val] at this
  have := m_16
  omega
structure SmallDrawn (B q : Nat) (w : World) (e : Ending) (w' : World) (n : Nat) (o : Int) (m : Nat) : Prop where
  ret : e = .returned (.int .i64 ((m : Int) - o))
  lt : m < n
  cur : Cur B w' q
  grown : w.grownBy w' (some q)
set_option maxHeartbeats 1000000 in
theorem some_32 (B q : Nat) (w : World) (hcur : Cur B w q) :
    Calls Tryz.prog 58 #[.pointer (some ⟨q, 0, Option.none⟩), .int .i64 (-32), .int .i64 32] w fun e w' => ∃ m, SmallDrawn B q w e w' 65 32 m := by
  have HC : Hid (Cur B w q) := hcur
  clear hcur
  go_enter Tryz.func58, Tryz.ntmps58
  go_wp2_with fail
  refine (l1Below_s B q 65 _ HC.out (by omega) (by omega)).mono ?_
  rintro e w1 ⟨x, rfl, hx0, hx1, hc1, hg1⟩
  obtain ⟨n, rfl⟩ : ∃ n : Nat, x = n := ⟨x.toNat, by omega⟩
  have HC1 : Hid (Cur B w1 q) := hc1
  have HG1 : Hid (w.grownBy w1 (some q)) := hg1
  have hn : n < 65 := by omega
  clear hc1 hg1
  go_wp2
  go_ret
  exact ⟨n, by first | rfl | (simp; omega), hn, HC1.out, HG1.out⟩
set_option maxHeartbeats 1000000 in
theorem some_24 (B q : Nat) (w : World) (hcur : Cur B w q) :
    Calls Tryz.prog 58 #[.pointer (some ⟨q, 0, Option.none⟩), .int .i64 (-24), .int .i64 24] w fun e w' => ∃ m, SmallDrawn B q w e w' 49 24 m := by
  have HC : Hid (Cur B w q) := hcur
  clear hcur
  go_enter Tryz.func58, Tryz.ntmps58
  go_wp2_with fail
  refine (l1Below_s B q 49 _ HC.out (by omega) (by omega)).mono ?_
  rintro e w1 ⟨x, rfl, hx0, hx1, hc1, hg1⟩
  obtain ⟨n, rfl⟩ : ∃ n : Nat, x = n := ⟨x.toNat, by omega⟩
  have HC1 : Hid (Cur B w1 q) := hc1
  have HG1 : Hid (w.grownBy w1 (some q)) := hg1
  have hn : n < 49 := by omega
  clear hc1 hg1
  go_wp2
  go_ret
  exact ⟨n, by first | rfl | (simp; omega), hn, HC1.out, HG1.out⟩
structure Plus (a1 a2 b1 b2 x y : Nat) : Prop where
  call : ∀ w : World, Calls Tryz.prog 97 #[.complex .f32 a1 a2, .complex .f32 b1 b2] w fun e w' => e = .returned (.complex .f32 x y) ∧ w' = w
structure Op2' (a b r : Nat) : Prop where
  call : ∀ w : World, Calls Tryz.prog 134 #[.float .f32 a, .float .f32 b] w fun e w' => e = .returned (.float .f32 r) ∧ w' = w
theorem plus1 {a b : Nat} (ha : Qu a) (hb : Qu b) : Op2' a b (clT (valOf F32 a + valOf F32 b)) := ⟨fun w => by
  have fa := ok_fin ha.ok
  have fb := ok_fin hb.ok
  obtain ⟨r, e, h, _⟩ := add_bd ha.le hb.le (by omega) (by omega) (by omega) m_16
  have hf : Fin32 r := by unfold Fin32; rw [F32_inf]; omega
  obtain ⟨r', e', h'⟩ := add_cl fa fb
  rw [e] at e'
  cases e'
  rw [← h', set_clean hf]
  exact l1Plus_s a b r w e (sub_self hf)⟩
theorem plus_of {a1 a2 b1 b2 x y : Nat} (X : Op2' a1 b1 x) (Y : Op2' a2 b2 y) : Plus a1 a2 b1 b2 x y := ⟨fun w => by
  go_enter Tryz.func97, Tryz.ntmps97
  go_wp2_with (go_at_call 134; (first | (with_reducible refine (X.call _).mono ?_) | (with_reducible refine (Y.call _).mono ?_)); rintro e w1 ⟨rfl, rfl⟩)
  go_ret
  exact ⟨rfl, rfl⟩⟩
end Go.Proofs.YtfdgijmmgllmgaaGreat
