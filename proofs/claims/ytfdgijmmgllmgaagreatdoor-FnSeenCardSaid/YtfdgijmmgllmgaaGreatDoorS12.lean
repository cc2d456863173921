/-
  Texts Ge Gj Ub, joined.
-/
import Derived.Test.YtfdgijmmgllmgaaGreatDoorS11
import Derived.Test.YtfdgijmmgllmgaaGreatDoorS08
namespace Go.Proofs.YtfdgijmmgllmgaaGreatDoor
open Go.ChangeShapes Go.WideShapes Go.ChangeAt Go.RowKit Go.Joins
set_option linter.unusedSimpArgs false
set_option linter.unusedVariables false
set_option maxRecDepth 100000
attribute [local go_sem] store_f
open Ieee
theorem infoF : (Tryz.prog.info? 24).map (fun i => (i.zero, i.size, i.bytes)) = some (some (.float .f32 0), 1, 4) := by kernel_rfl
structure SidesIs (s : Shd) (p1 p2 x y z : Nat) : Prop where
  call : ∀ w : World, Calls Tryz.prog 111 #[.agg #[.complex .f32 s.a1 s.a2, .complex .f32 s.b1 s.b2, .complex .f32 s.c1 s.c2, .float .f32 s.r, .float .f32 s.g, .float .f32 s.b, .float .f32 s.k], .complex .f32 p1 p2] w fun e w' => ∃ g cap, e = .returned (.slice (some ⟨g, 0, Option.none⟩) 3 cap) ∧ Row3 w' g x y z ∧ Below w.heap.size w w'
set_option maxHeartbeats 4000000 in
theorem sides_of {s : Shd} {p1 p2 x y z : Nat} (C : Corn s) (X : SideIs s.a1 s.a2 s.b1 s.b2 p1 p2 x) (Y : SideIs s.b1 s.b2 s.c1 s.c2 p1 p2 y) (Z : SideIs s.c1 s.c2 s.a1 s.a2 p1 p2 z) : SidesIs s p1 p2 x y z := ⟨fun w => by
  obtain ⟨i0, hi, hz0, hz1, hz2⟩ := info_parts infoF
  go_enter Tryz.func111, Tryz.ntmps111
  go_wp2_with fail
  refine (C.call _).mono ?_
  rintro e w1 ⟨rfl, hB, hb1⟩
  have hbel : Below w.heap.size w w1 := by (repeat' (first | (with_reducible exact Below.refl _ _) | (with_reducible assumption) | (with_reducible refine Below.alloc ?_ ?_ _) | (with_reducible refine Below.drew ?_) | (with_reducible refine Below.setCell ?_ ?_ _) | (with_reducible refine Below.trans ?_ (Below.mono (by assumption) ?_)) | (with_reducible exact Nat.le_refl _) | omega | (simp only [World.size_alloc, World.size_setCell, World.size_drew]; omega) | (simp; omega) | (simp; done)))
  simp only [World.size_alloc] at hB
  have hl := hB.lt
  have HC : Hid (Blk w1 (w.heap.size + 1 + 1) #[.complex .f32 s.a1 s.a2, .complex .f32 s.b1 s.b2, .complex .f32 s.c1 s.c2] 28) := hB
  have HB : Hid (Below w.heap.size w w1) := hbel
  have hs1 := hbel.size
  clear hB hb1 hbel
  go_wp2_with fail
  go_loopw [6, 7, 8, 14] (fun v _ _ i wr => ∃ k : Nat, k ≤ 3 ∧ i = .int .i64 k ∧ wr.ownsRow w1.heap.size 24 1 v k (([x, y, z].take k).map (Value.float .f32)) ∧ v ≠ .slice Option.none 0 0 ∧ Below w1.heap.size w1 wr)
    (fun _ _ _ i _ => 3 - (intOf i).toNat)
  case atStart => exact ⟨0, by omega, rfl, World.ownsRow_lit _ #[] 0 (by simp) (by unfold maxLen; omega) rfl, by simp, by (repeat' (first | (with_reducible exact Below.refl _ _) | (with_reducible assumption) | (with_reducible refine Below.alloc ?_ ?_ _) | (with_reducible refine Below.drew ?_) | (with_reducible refine Below.setCell ?_ ?_ _) | (with_reducible refine Below.trans ?_ (Below.mono (by assumption) ?_)) | (with_reducible exact Nat.le_refl _) | omega | (simp only [World.size_alloc, World.size_setCell, World.size_drew]; omega) | (simp; omega) | (simp; done)))⟩
  case round =>
    obtain ⟨k, hk, rfl, hown, hnn, hbel⟩ := hrel
    have HN : Hid (u6 ≠ .slice Option.none 0 0) := hnn
    have hbs := hbel.size
    have c0 := cBelow hbel (Blk.cellAt (i := 0) HC.out rfl)
    have c1 := cBelow hbel (Blk.cellAt (i := 1) HC.out rfl)
    have c2 := cBelow hbel (Blk.cellAt (i := 2) HC.out rfl)
    simp only [List.getElem_toArray, List.getElem_cons_zero, List.getElem_cons_succ] at c0 c1 c2
    clear hnn
    rcases (by omega : k = 0 ∨ k = 1 ∨ k = 2 ∨ k = 3) with rfl | rfl | rfl | rfl
    · replace hown : wr.ownsRow w1.heap.size 24 1 u6 0 [] := hown
      go_wp2_with (first | (go_at_call 141; refine (X.call _).mono ?_; rintro e w2 ⟨rfl, rfl⟩) | (at_builtin; go_loud (refine wpList_append_own _ rfl _ _ 83 rfl w1.heap.size 24 i0 (.float .f32 0) 1 4 Tryz.underlying83 hi hz0 hz1 hz2 rfl (by decide) _ 0 [] rfl ?hown ⟨w2.heap.size, 0, Option.none⟩ 1 1 [.float .f32 x] rfl rfl ?c1 ?c2 ?c3 ?c4 ?c5 ?_)))
      case hown => (change World.ownsRow _ _ _ _ u6 _ _; (repeat (first | (with_reducible assumption) | (with_reducible refine World.ownsRow.alloc ?_ _) | (with_reducible refine World.ownsRow.drew ?_) | (with_reducible refine ownsBelow (by assumption) ?_))))
      case c1 =>
        intro j u hj
        rcases j with _ | j <;> simp at hj
        subst hj
        simp [Addr.add]
      case c2 =>
        intro u hu
        simp at hu
        subst hu
        rfl
      case c3 => (unfold maxLen; omega)
      case c4 => omega
      case c5 => first | omega | (simp only [World.size_alloc, World.size_setCell, World.size_drew]; omega)
      intro v' w3 hown' hgrow hvn
      have HV : Hid (v' ≠ .slice Option.none 0 0) := hvn
      have hb3 : Below w1.heap.size w1 w3 := Below.grown (by (repeat' (first | (with_reducible exact Below.refl _ _) | (with_reducible assumption) | (with_reducible refine Below.alloc ?_ ?_ _) | (with_reducible refine Below.drew ?_) | (with_reducible refine Below.setCell ?_ ?_ _) | (with_reducible refine Below.trans ?_ (Below.mono (by assumption) ?_)) | (with_reducible exact Nat.le_refl _) | omega | (simp only [World.size_alloc, World.size_setCell, World.size_drew]; omega) | (simp; omega) | (simp; done)))) hgrow (by first | omega | (simp only [World.size_alloc, World.size_setCell, World.size_drew]; omega)) (fun q hq => (hown.lt q hq).1)
      clear hgrow hvn
      go_wp2
      go_roundw
      case rel => exact ⟨1, by omega, by go_num, by simpa using hown', HV.out, hb3⟩
      case measure => simp [intOf]
    · replace hown : wr.ownsRow w1.heap.size 24 1 u6 1 [.float .f32 x] := hown
      go_wp2_with (first | (go_at_call 141; refine (Y.call _).mono ?_; rintro e w2 ⟨rfl, rfl⟩) | (at_builtin; go_loud (refine wpList_append_own _ rfl _ _ 83 rfl w1.heap.size 24 i0 (.float .f32 0) 1 4 Tryz.underlying83 hi hz0 hz1 hz2 rfl (by decide) _ 1 [.float .f32 x] rfl ?hown ⟨w2.heap.size, 0, Option.none⟩ 1 1 [.float .f32 y] rfl rfl ?c1 ?c2 ?c3 ?c4 ?c5 ?_)))
      case hown => (change World.ownsRow _ _ _ _ u6 _ _; (repeat (first | (with_reducible assumption) | (with_reducible refine World.ownsRow.alloc ?_ _) | (with_reducible refine World.ownsRow.drew ?_) | (with_reducible refine ownsBelow (by assumption) ?_))))
      case c1 =>
        intro j u hj
        rcases j with _ | j <;> simp at hj
        subst hj
        simp [Addr.add]
      case c2 =>
        intro u hu
        simp at hu
        subst hu
        rfl
      case c3 => (unfold maxLen; omega)
      case c4 => omega
      case c5 => first | omega | (simp only [World.size_alloc, World.size_setCell, World.size_drew]; omega)
      intro v' w3 hown' hgrow hvn
      have HV : Hid (v' ≠ .slice Option.none 0 0) := hvn
      have hb3 : Below w1.heap.size w1 w3 := Below.grown (by (repeat' (first | (with_reducible exact Below.refl _ _) | (with_reducible assumption) | (with_reducible refine Below.alloc ?_ ?_ _) | (with_reducible refine Below.drew ?_) | (with_reducible refine Below.setCell ?_ ?_ _) | (with_reducible refine Below.trans ?_ (Below.mono (by assumption) ?_)) | (with_reducible exact Nat.le_refl _) | omega | (simp only [World.size_alloc, World.size_setCell, World.size_drew]; omega) | (simp; omega) | (simp; done)))) hgrow (by first | omega | (simp only [World.size_alloc, World.size_setCell, World.size_drew]; omega)) (fun q hq => (hown.lt q hq).1)
      clear hgrow hvn
      go_wp2
      go_roundw
      case rel => exact ⟨2, by omega, by go_num, by simpa using hown', HV.out, hb3⟩
      case measure => simp [intOf]
    · replace hown : wr.ownsRow w1.heap.size 24 1 u6 2 [.float .f32 x, .float .f32 y] := hown
      go_wp2_with (first | (go_at_call 141; refine (Z.call _).mono ?_; rintro e w2 ⟨rfl, rfl⟩) | (at_builtin; go_loud (refine wpList_append_own _ rfl _ _ 83 rfl w1.heap.size 24 i0 (.float .f32 0) 1 4 Tryz.underlying83 hi hz0 hz1 hz2 rfl (by decide) _ 2 [.float .f32 x, .float .f32 y] rfl ?hown ⟨w2.heap.size, 0, Option.none⟩ 1 1 [.float .f32 z] rfl rfl ?c1 ?c2 ?c3 ?c4 ?c5 ?_)))
      case hown => (change World.ownsRow _ _ _ _ u6 _ _; (repeat (first | (with_reducible assumption) | (with_reducible refine World.ownsRow.alloc ?_ _) | (with_reducible refine World.ownsRow.drew ?_) | (with_reducible refine ownsBelow (by assumption) ?_))))
      case c1 =>
        intro j u hj
        rcases j with _ | j <;> simp at hj
        subst hj
        simp [Addr.add]
      case c2 =>
        intro u hu
        simp at hu
        subst hu
        rfl
      case c3 => (unfold maxLen; omega)
      case c4 => omega
      case c5 => first | omega | (simp only [World.size_alloc, World.size_setCell, World.size_drew]; omega)
      intro v' w3 hown' hgrow hvn
      have HV : Hid (v' ≠ .slice Option.none 0 0) := hvn
      have hb3 : Below w1.heap.size w1 w3 := Below.grown (by (repeat' (first | (with_reducible exact Below.refl _ _) | (with_reducible assumption) | (with_reducible refine Below.alloc ?_ ?_ _) | (with_reducible refine Below.drew ?_) | (with_reducible refine Below.setCell ?_ ?_ _) | (with_reducible refine Below.trans ?_ (Below.mono (by assumption) ?_)) | (with_reducible exact Nat.le_refl _) | omega | (simp only [World.size_alloc, World.size_setCell, World.size_drew]; omega) | (simp; omega) | (simp; done)))) hgrow (by first | omega | (simp only [World.size_alloc, World.size_setCell, World.size_drew]; omega)) (fun q hq => (hown.lt q hq).1)
      clear hgrow hvn
      go_wp2
      go_roundw
      case rel => exact ⟨3, by omega, by go_num, by simpa using hown', HV.out, hb3⟩
      case measure => simp [intOf]
    · rcases ownsRow_forms hown with ⟨e, _⟩ | ⟨g, cap, rfl⟩
      · exact absurd e HN.out
      have HR : Hid (Row3 wr g x y z) := ⟨by rw [hown.cellAt 0 (by omega)]; rfl, by rw [hown.cellAt 1 (by omega)]; rfl, by rw [hown.cellAt 2 (by omega)]; rfl⟩
      have HBB : Hid (Below w.heap.size w wr) := HB.out.trans (hbel.mono hs1)
      clear c0 c1 c2 hown hbel
      go_wp2
      go_ret
      exact ⟨g, cap, rfl, HR.out, HBB.out⟩⟩
def inZ (x y z : Int) : Bool := decide ((0 ≤ x ∧ 0 ≤ y ∧ 0 ≤ z) ∨ (x ≤ 0 ∧ y ≤ 0 ∧ z ≤ 0))
def inSh (s : Shd) (p1 p2 : Nat) : Bool :=
  inZ (valOf F32 (sideW s.a1 s.a2 s.b1 s.b2 p1 p2)) (valOf F32 (sideW s.b1 s.b2 s.c1 s.c2 p1 p2)) (valOf F32 (sideW s.c1 s.c2 s.a1 s.a2 p1 p2))
structure InIs (s : Shd) (p1 p2 : Nat) (t : Bool) : Prop where
  call : ∀ w : World, Calls Tryz.prog 80 #[.agg #[.complex .f32 s.a1 s.a2, .complex .f32 s.b1 s.b2, .complex .f32 s.c1 s.c2, .float .f32 s.r, .float .f32 s.g, .float .f32 s.b, .float .f32 s.k], .complex .f32 p1 p2] w fun e w' => e = .returned (.bool t) ∧ Below w.heap.size w w'
structure MinR (x y z n : Nat) : Prop where
  call : ∀ (w : World) (g cap : Nat), Row3 w g x y z → Calls Tryz.prog 112 #[.slice (some ⟨g, 0, Option.none⟩) 3 cap] w fun e w' => e = .returned (.float .f32 n) ∧ w' = w
structure MaxR (x y z n : Nat) : Prop where
  call : ∀ (w : World) (g cap : Nat), Row3 w g x y z → Calls Tryz.prog 113 #[.slice (some ⟨g, 0, Option.none⟩) 3 cap] w fun e w' => e = .returned (.float .f32 n) ∧ w' = w
set_option maxHeartbeats 2000000 in
theorem in_of {s : Shd} {p1 p2 x y z m n : Nat} {u v : Bool} (S : ShdIs s true) (P : PtIs p1 p2 true) (D : SidesIs s p1 p2 x y z) (M : MinR x y z m) (N : MaxR x y z n)
    (hu : (FloatKind.f32.format.order m 0 == some .gt || FloatKind.f32.format.order m 0 == some .eq) = u) (hv : (FloatKind.f32.format.order n 0 == some .lt || FloatKind.f32.format.order n 0 == some .eq) = v) : InIs s p1 p2 (u || v) := ⟨fun w => by
  go_enter Tryz.func80, Tryz.ntmps80
  go_wp2_with fail
  refine (S.call _).mono ?_
  rintro e w1 ⟨rfl, hb1⟩
  have HS : Hid (Blk w1 w.heap.size #[.complex .f32 s.a1 s.a2, .complex .f32 s.b1 s.b2, .complex .f32 s.c1 s.c2, .float .f32 s.r, .float .f32 s.g, .float .f32 s.b, .float .f32 s.k] 36) := Blk.belowAt hb1 (Blk.newAt rfl)
  have hB1 : Below w.heap.size w w1 := by (repeat' (first | (with_reducible exact Below.refl _ _) | (with_reducible assumption) | (with_reducible refine Below.alloc ?_ ?_ _) | (with_reducible refine Below.drew ?_) | (with_reducible refine Below.setCell ?_ ?_ _) | (with_reducible refine Below.trans ?_ (Below.mono (by assumption) ?_)) | (with_reducible exact Nat.le_refl _) | omega | (simp only [World.size_alloc, World.size_setCell, World.size_drew]; omega) | (simp; omega) | (simp; done)))
  have HB : Hid (Below w.heap.size w w1) := hB1
  have hl := HS.out.lt
  have hs1 := HB.out.size
  clear hb1 hB1
  have d0 := Blk.cellAt (i := 0) HS.out rfl
  have d1 := Blk.cellAt (i := 1) HS.out rfl
  have d2 := Blk.cellAt (i := 2) HS.out rfl
  have d3 := Blk.cellAt (i := 3) HS.out rfl
  have d4 := Blk.cellAt (i := 4) HS.out rfl
  have d5 := Blk.cellAt (i := 5) HS.out rfl
  have d6 := Blk.cellAt (i := 6) HS.out rfl
  simp only [List.getElem_toArray, List.getElem_cons_zero, List.getElem_cons_succ] at d0 d1 d2 d3 d4 d5 d6
  go_wp2_with (go_at_call 75; refine (P.call _).mono ?_; rintro e w2 ⟨rfl, rfl⟩)
  refine (D.call _).mono ?_
  rintro e w3 ⟨g, cap, rfl, hR, hb3⟩
  have HR : Hid (Row3 w3 g x y z) := hR
  have HB3 : Hid (Below w.heap.size w w3) := HB.out.trans (hb3.mono hs1)
  clear hR hb3 d0 d1 d2 d3 d4 d5 d6
  cases u
  · go_wp2_with (first | (go_at_call 112; refine (M.call _ _ _ HR.out).mono ?_; rintro e w4 ⟨rfl, rfl⟩; simp only [hu]) | (go_at_call 113; refine (N.call _ _ _ HR.out).mono ?_; rintro e w5 ⟨rfl, rfl⟩))
    all_goals (go_ret; exact ⟨by simp_all, HB3.out⟩)
  · go_wp2_with (first | (go_at_call 112; refine (M.call _ _ _ HR.out).mono ?_; rintro e w4 ⟨rfl, rfl⟩; simp only [hu]) | (go_at_call 113; refine (N.call _ _ _ HR.out).mono ?_; rintro e w5 ⟨rfl, rfl⟩))
    all_goals (go_ret; exact ⟨by simp_all, HB3.out⟩)⟩
end Go.Proofs.YtfdgijmmgllmgaaGreatDoor
namespace Go.Proofs.YtfdgijmmgllmgaaGreatDoor
open Go.ChangeShapes Go.WideShapes Go.ChangeAt Go.RowKit Go.Joins
set_option linter.unusedSimpArgs false
set_option linter.unusedVariables false
set_option maxRecDepth 100000
attribute [local go_sem] store_f
open Ieee
attribute [local go_sem] store_c
structure AreIs (a : Option Addr) (n cap : Nat) (l : List Shd) : Prop where
  call : ∀ w : World, RowAt w a l → Calls Tryz.prog 42 #[.slice a n cap] w fun e w' => e = .returned (.bool true) ∧ Below w.heap.size w w'
set_option maxHeartbeats 4000000 in
theorem areIs {a : Option Addr} {cap : Nat} {l : List Shd} (hlen : l.length ≤ 12) (hok : ∀ s ∈ l, s.Ok) : AreIs a l.length cap l := ⟨fun w hrow => by
  have HK : Hid (∀ j, j < l.length → ShdIs (l.getD j default) true) := fun j hj => by
    have h := shdIs (l.getD j default)
    rwa [(hok _ (by simp [List.getD, hj])).yes] at h
  have HR : Hid (RowAt w a l) := hrow
  clear hrow hok
  go_enter Tryz.func42, Tryz.ntmps42
  go_wp2_with fail
  go_loopw [10] (fun i wr => ∃ j : Nat, j ≤ l.length ∧ i = .int .i64 j ∧ Below w.heap.size w wr) (fun i _ => l.length - (intOf i).toNat)
  case atStart => exact ⟨0, by omega, rfl, Below.refl _ _⟩
  case round =>
    obtain ⟨j, hj, rfl, hbel⟩ := hrel
    have HB : Hid (Below w.heap.size w wr) := hbel
    have hbs := hbel.size
    by_cases hlt : j < l.length
    · have K := HK.out j hlt
      rcases HR.out with hnil | ⟨b, off, rfl, hR⟩
      · exfalso; rw [hnil] at hlt; simp at hlt
      have hrow := (ShRow.below hR hbel) j hlt
      generalize l.getD j default = s at hrow K
      obtain ⟨d0, d1, d2, d3, d4, d5, d6⟩ := hrow
      clear hbel hR
      go_wp2_with fail
      refine (K.call _).mono ?_
      rintro e w2 ⟨rfl, hb⟩
      have HB2 : Hid (Below w.heap.size w w2) := (HB.out.alloc (by omega) _).trans (hb.mono (by simp; omega))
      clear hb d0 d1 d2 d3 d4 d5 d6
      go_wp2
      go_roundw
      case rel => exact ⟨j + 1, by omega, by go_num, HB2.out⟩
      case measure => simp [intOf]; omega
    · have hjm : j = l.length := by omega
      subst hjm
      clear hbel
      go_wp2
      go_ret
      exact ⟨rfl, HB.out⟩⟩
end Go.Proofs.YtfdgijmmgllmgaaGreatDoor
namespace Go.Proofs.YtfdgijmmgllmgaaGreatDoor
open Go.ChangeShapes Go.WideShapes Go.ChangeAt Go.RowKit Go.Joins
set_option linter.unusedSimpArgs false
set_option linter.unusedVariables false
set_option maxRecDepth 100000
attribute [local go_sem] store_f
open Ieee Go.Lib
def LieAt (W : World) (b off : Nat) (xs : List Value) : Prop := ∀ j u, xs[j]? = some u → W.cell? ⟨b, off + j, Option.none⟩ = some u
theorem LieAt.below {W w1 : World} {b off : Nat} {xs : List Value} (h : LieAt W b off xs) (hb : Below W.heap.size W w1) : LieAt w1 b off xs := fun j u hj => cBelow hb (h j u hj)
theorem LieAt.alloc {W : World} {b off : Nat} {xs : List Value} {o : Obj} (h : LieAt W b off xs) : LieAt (W.alloc o) b off xs := fun j u hj => cAlloc (h j u hj)
theorem LieAt.drew {W : World} {b off : Nat} {xs : List Value} (h : LieAt W b off xs) : LieAt W.drew b off xs := h
theorem LieAt.set {W : World} {b off : Nat} {a : Addr} {v : Value} {xs : List Value} (h : LieAt W b off xs) (hne : b ≠ a.block) : LieAt (W.setCell a v) b off xs := fun j u hj => cSet hne (h j u hj)
theorem LieAt.grown {W w1 : World} {b off : Nat} {xs : List Value} {r : Option Nat} (h : LieAt W b off xs) (hg : W.grownBy w1 r) (hne : r ≠ some b) : LieAt w1 b off xs := fun j u hj => by
  have h0 := h j u hj
  rw [World.cell?_of_block (hg.block b (cell_lt h0) (fun e => hne e.symm))]
  exact h0
theorem LieAt.left {W : World} {b off : Nat} {xs ys : List Value} (h : LieAt W b off (xs ++ ys)) : LieAt W b off xs := fun j u hj => h j u (by rw [List.getElem?_append_left (List.getElem?_eq_some_iff.1 hj).1]; exact hj)
theorem LieAt.right {W : World} {b off : Nat} {xs ys : List Value} (h : LieAt W b off (xs ++ ys)) : LieAt W b (off + xs.length) ys := fun j u hj => by
  have h1 := h (xs.length + j) u (by rw [List.getElem?_append_right (by omega)]; simpa using hj)
  rwa [← Nat.add_assoc] at h1
theorem flat_len {α : Type} (f : α → List Value) (m : Nat) (hf : ∀ x, (f x).length = m) (l : List α) : (l.flatMap f).length = l.length * m := by
  induction l with
  | nil => simp
  | cons x l ih => simp only [List.flatMap_cons, List.length_append, hf, ih, List.length_cons, Nat.add_mul]; omega
theorem flat_get {α : Type} [Inhabited α] (f : α → List Value) (m : Nat) (hf : ∀ x, (f x).length = m) : ∀ (l : List α) (k : Nat), k < l.length → ∀ j, j < m → (l.flatMap f)[k * m + j]? = (f (l.getD k default))[j]?
  | x :: l, 0, _, j, hj => by
    rw [List.flatMap_cons, Nat.zero_mul, Nat.zero_add, List.getElem?_append_left (by rw [hf]; exact hj)]
    rfl
  | x :: l, k + 1, h, j, hj => by
    have ih := flat_get f m hf l k (by simpa using h) j hj
    rw [List.flatMap_cons, List.getElem?_append_right (by rw [hf, Nat.add_mul]; omega), hf, show (k + 1) * m + j - m = k * m + j by rw [Nat.add_mul]; omega, ih]
    rfl
theorem lie_of_get {α : Type} [Inhabited α] {f : α → List Value} {m : Nat} (hm : 0 < m) (hf : ∀ x, (f x).length = m) {W : World} {b off : Nat} {l : List α} (h : ∀ k, k < l.length → ∀ j u, (f (l.getD k default))[j]? = some u → W.cell? ⟨b, off + k * m + j, Option.none⟩ = some u) : LieAt W b off (l.flatMap f) := fun j u hj => by
  have hlt := (List.getElem?_eq_some_iff.1 hj).1
  rw [flat_len f m hf] at hlt
  have hk : j / m < l.length := Nat.div_lt_of_lt_mul (by rw [Nat.mul_comm]; exact hlt)
  have e : j / m * m + j % m = j := by rw [Nat.mul_comm]; exact Nat.div_add_mod j m
  have hg := flat_get f m hf l (j / m) hk (j % m) (Nat.mod_lt _ hm)
  rw [e, hj] at hg
  have := h (j / m) hk (j % m) u hg.symm
  rwa [show off + j / m * m + j % m = off + j by omega] at this
theorem LieAt.get {α : Type} [Inhabited α] {f : α → List Value} {m : Nat} (hf : ∀ x, (f x).length = m) {W : World} {b off : Nat} {l : List α} (h : LieAt W b off (l.flatMap f)) {k : Nat} (hk : k < l.length) {j : Nat} {u : Value} (hj : (f (l.getD k default))[j]? = some u) : W.cell? ⟨b, off + k * m + j, Option.none⟩ = some u := by
  have hjm : j < m := by have := (List.getElem?_eq_some_iff.1 hj).1; rw [hf] at this; exact this
  have h1 := h (k * m + j) u (by rw [flat_get f m hf l k hk j hjm]; exact hj)
  rwa [← Nat.add_assoc] at h1
def LiesZ (W : World) (a : Option Addr) (xs : List Value) : Prop := xs = [] ∨ ∃ g, a = some ⟨g, 0, Option.none⟩ ∧ LieAt W g 0 xs
theorem LiesZ.below {W w1 : World} {a : Option Addr} {xs : List Value} (h : LiesZ W a xs) (hb : Below W.heap.size W w1) : LiesZ w1 a xs := by
  rcases h with h | ⟨g, e, h⟩
  · exact .inl h
  · exact .inr ⟨g, e, h.below hb⟩
theorem LiesZ.alloc {W : World} {a : Option Addr} {xs : List Value} {o : Obj} (h : LiesZ W a xs) : LiesZ (W.alloc o) a xs := by
  rcases h with h | ⟨g, e, h⟩
  · exact .inl h
  · exact .inr ⟨g, e, h.alloc⟩
theorem LiesZ.drew {W : World} {a : Option Addr} {xs : List Value} (h : LiesZ W a xs) : LiesZ W.drew a xs := h
theorem LiesZ.grownAt {W w1 : World} {a : Option Addr} {xs : List Value} {R i : Nat} {v : Value} (h : LiesZ W a xs) (hg : W.grownBy w1 (some R)) (hc : W.cell? ⟨R, i, Option.none⟩ = some v) (hx : xs ≠ [] → ∃ u, xs[i]? = some u ∧ u ≠ v) : LiesZ w1 a xs := by
  rcases h with h | ⟨g, e, h⟩
  · exact .inl h
  · by_cases h0 : xs = []
    · exact .inl h0
    · refine .inr ⟨g, e, h.grown hg fun e' => ?_⟩
      cases e'
      obtain ⟨u, hu, hne⟩ := hx h0
      have h1 := h i u hu
      rw [Nat.zero_add, hc] at h1
      exact hne (Option.some.inj h1).symm
theorem lies_of_owns {W : World} {B T sz n c : Nat} {a : Option Addr} {xs : List Value} (h : W.ownsRow B T sz (.slice a n c) n xs) : LiesZ W a xs := by
  rcases ownsRow_forms h with ⟨e, h0⟩ | ⟨g, c', e⟩
  · refine .inl (List.eq_nil_of_length_eq_zero ?_)
    have := h.1
    rw [h0] at this
    simpa using this
  · cases e
    refine .inr ⟨g, rfl, fun j u hj => ?_⟩
    rw [Nat.zero_add, h.cellAt _ (by have := (List.getElem?_eq_some_iff.1 hj).1; have := h.1; omega)]
    exact hj
def Evw.cells (e : Evw) : List Value := [.int .i64 e.kind, .int .i64 e.n, .complex .f32 e.z1 e.z2, .complex .f32 e.s.a1 e.s.a2, .complex .f32 e.s.b1 e.s.b2, .complex .f32 e.s.c1 e.s.c2, .float .f32 e.s.r, .float .f32 e.s.g, .float .f32 e.s.b, .float .f32 e.s.k, .float .f32 e.l.r, .float .f32 e.l.g, .float .f32 e.l.b]
def evCells (l : List Evw) : List Value := l.flatMap Evw.cells
theorem evCells_len (l : List Evw) : (evCells l).length = l.length * 13 := flat_len Evw.cells 13 (fun _ => rfl) l
theorem evCells_snoc (l : List Evw) (e : Evw) : evCells (l ++ [e]) = evCells l ++ e.cells := by simp [evCells]
theorem shCells_app (l m : List Shd) : shCells (l ++ m) = shCells l ++ shCells m := by simp [shCells]
theorem bwCells_app (l m : List Bw) : bwCells (l ++ m) = bwCells l ++ bwCells m := by simp [bwCells]
structure EvAt (W : World) (b o : Nat) (e : Evw) : Prop where
  c0 : W.cell? ⟨b, o, Option.none⟩ = some (.int .i64 e.kind)
  c1 : W.cell? ⟨b, o + 1, Option.none⟩ = some (.int .i64 e.n)
  c2 : W.cell? ⟨b, o + 2, Option.none⟩ = some (.complex .f32 e.z1 e.z2)
  c3 : W.cell? ⟨b, o + 3, Option.none⟩ = some (.complex .f32 e.s.a1 e.s.a2)
  c4 : W.cell? ⟨b, o + 4, Option.none⟩ = some (.complex .f32 e.s.b1 e.s.b2)
  c5 : W.cell? ⟨b, o + 5, Option.none⟩ = some (.complex .f32 e.s.c1 e.s.c2)
  c6 : W.cell? ⟨b, o + 6, Option.none⟩ = some (.float .f32 e.s.r)
  c7 : W.cell? ⟨b, o + 7, Option.none⟩ = some (.float .f32 e.s.g)
  c8 : W.cell? ⟨b, o + 8, Option.none⟩ = some (.float .f32 e.s.b)
  c9 : W.cell? ⟨b, o + 9, Option.none⟩ = some (.float .f32 e.s.k)
  c10 : W.cell? ⟨b, o + 10, Option.none⟩ = some (.float .f32 e.l.r)
  c11 : W.cell? ⟨b, o + 11, Option.none⟩ = some (.float .f32 e.l.g)
  c12 : W.cell? ⟨b, o + 12, Option.none⟩ = some (.float .f32 e.l.b)
theorem evAt {W : World} {b off : Nat} {l : List Evw} (h : LieAt W b off (evCells l)) {k : Nat} (hk : k < l.length) : EvAt W b (off + k * 13) (l.getD k default) := by
  have hf : ∀ x : Evw, x.cells.length = 13 := fun _ => rfl
  refine ⟨?_, ?_, ?_, ?_, ?_, ?_, ?_, ?_, ?_, ?_, ?_, ?_, ?_⟩
  · exact h.get hf hk (j := 0) rfl
  · exact h.get hf hk (j := 1) rfl
  · exact h.get hf hk (j := 2) rfl
  · exact h.get hf hk (j := 3) rfl
  · exact h.get hf hk (j := 4) rfl
  · exact h.get hf hk (j := 5) rfl
  · exact h.get hf hk (j := 6) rfl
  · exact h.get hf hk (j := 7) rfl
  · exact h.get hf hk (j := 8) rfl
  · exact h.get hf hk (j := 9) rfl
  · exact h.get hf hk (j := 10) rfl
  · exact h.get hf hk (j := 11) rfl
  · exact h.get hf hk (j := 12) rfl
theorem infoEv : (Tryz.prog.info? 38).map (fun i => (i.zero, i.size, i.bytes)) = some (some (.agg #[.int .i64 0, .int .i64 0, .complex .f32 0 0, .complex .f32 0 0, .complex .f32 0 0, .complex .f32 0 0, .float .f32 0, .float .f32 0, .float .f32 0, .float .f32 0, .float .f32 0, .float .f32 0, .float .f32 0]), 13, 80) := by kernel_rfl
theorem infoShd : (Tryz.prog.info? 36).map (fun i => (i.zero, i.size, i.bytes)) = some (some (.agg #[.complex .f32 0 0, .complex .f32 0 0, .complex .f32 0 0, .float .f32 0, .float .f32 0, .float .f32 0, .float .f32 0]), 7, 40) := by kernel_rfl
theorem shRow_of_lie {W : World} {b off : Nat} {l : List Shd} (h : LieAt W b off (shCells l)) : ShRow W b off l := fun k hk => by
  have hf : ∀ x : Shd, x.cells.length = 7 := fun _ => rfl
  exact ⟨h.get hf hk (j := 0) rfl, h.get hf hk (j := 1) rfl, h.get hf hk (j := 2) rfl, h.get hf hk (j := 3) rfl, h.get hf hk (j := 4) rfl, h.get hf hk (j := 5) rfl, h.get hf hk (j := 6) rfl⟩
theorem bwRow_of_lie {W : World} {g : Nat} {l : List Bw} (h : LieAt W g 0 (bwCells l)) : BwRow W g l := fun k hk => by
  have hf : ∀ x : Bw, x.cells.length = 2 := fun _ => rfl
  have h0 := h.get hf hk (j := 0) rfl
  have h1 := h.get hf hk (j := 1) rfl
  rw [Nat.zero_add] at h0 h1
  exact ⟨h0, h1⟩
theorem lie_of_bwRow {W : World} {g : Nat} {l : List Bw} (h : BwRow W g l) : LieAt W g 0 (bwCells l) :=
  lie_of_get (f := Bw.cells) (m := 2) (by omega) (fun _ => rfl) fun k hk j u hj => by
    have hj2 : j < 2 := (List.getElem?_eq_some_iff.1 hj).1
    rw [Nat.zero_add]
    rcases (by omega : j = 0 ∨ j = 1) with rfl | rfl
    · rw [← hj]; exact (h k hk).1
    · rw [← hj]; exact (h k hk).2
theorem flat_nil {α : Type} {f : α → List Value} {m : Nat} (hm : 0 < m) (hf : ∀ x, (f x).length = m) {l : List α} (h : l.flatMap f = []) : l = [] := by
  cases l with
  | nil => rfl
  | cons x l =>
    have := congrArg List.length h
    rw [flat_len f m hf, List.length_cons, List.length_nil, Nat.add_mul] at this
    omega
theorem bwIn_of_lies {W : World} {a : Option Addr} {l : List Bw} (h : LiesZ W a (bwCells l)) : BwIn W a l := by
  rcases h with h | ⟨g, e, h⟩
  · exact .inl (flat_nil (f := Bw.cells) (m := 2) (by omega) (fun _ => rfl) h)
  · exact .inr ⟨g, e, bwRow_of_lie h⟩
theorem lies_of_bwIn {W : World} {a : Option Addr} {l : List Bw} (h : BwIn W a l) : LiesZ W a (bwCells l) := by
  rcases h with h | ⟨g, e, h⟩
  · exact .inl (by rw [h]; rfl)
  · exact .inr ⟨g, e, lie_of_bwRow h⟩
theorem rowAt_of_lies {W : World} {a : Option Addr} {l : List Shd} (h : LiesZ W a (shCells l)) : RowAt W a l := by
  rcases h with h | ⟨g, e, h⟩
  · exact .inl (flat_nil (f := Shd.cells) (m := 7) (by omega) (fun _ => rfl) h)
  · exact .inr ⟨g, 0, e, shRow_of_lie h⟩
structure ShoIn (W : World) (s : Sho) (a b l : Option Addr) : Prop where
  sh : LiesZ W a (shCells s.shs)
  bd : LiesZ W b (bwCells s.bds)
  lg : LiesZ W l (evCells s.log)
theorem ShoIn.below {W w1 : World} {s : Sho} {a b l : Option Addr} (h : ShoIn W s a b l) (hb : Below W.heap.size W w1) : ShoIn w1 s a b l := ⟨h.sh.below hb, h.bd.below hb, h.lg.below hb⟩
theorem ShoIn.alloc {W : World} {s : Sho} {a b l : Option Addr} {o : Obj} (h : ShoIn W s a b l) : ShoIn (W.alloc o) s a b l := ⟨h.sh.alloc, h.bd.alloc, h.lg.alloc⟩
theorem ShoIn.drew {W : World} {s : Sho} {a b l : Option Addr} (h : ShoIn W s a b l) : ShoIn W.drew s a b l := ⟨h.sh.drew, h.bd.drew, h.lg.drew⟩
theorem sh_at1 (l : List Shd) (h : shCells l ≠ []) : ∃ u, (shCells l)[1]? = some u ∧ ∀ x, u ≠ .float .f32 x := by
  cases l with
  | nil => exact absurd rfl h
  | cons s l => exact ⟨.complex .f32 s.b1 s.b2, rfl, fun x e => by cases e⟩
theorem bw_at1 (l : List Bw) (h : bwCells l ≠ []) : ∃ u, (bwCells l)[1]? = some u ∧ ∀ x, u ≠ .float .f32 x := by
  cases l with
  | nil => exact absurd rfl h
  | cons s l => exact ⟨.complex .f32 s.v1 s.v2, rfl, fun x e => by cases e⟩
theorem ev_at1 (l : List Evw) (h : evCells l ≠ []) : ∃ u, (evCells l)[1]? = some u ∧ ∀ x, u ≠ .float .f32 x := by
  cases l with
  | nil => exact absurd rfl h
  | cons s l => exact ⟨.int .i64 s.n, rfl, fun x e => by cases e⟩
theorem ShoIn.grownAt {W w1 : World} {s : Sho} {a b l : Option Addr} {R x : Nat} (h : ShoIn W s a b l) (hg : W.grownBy w1 (some R)) (hc : W.cell? ⟨R, 1, Option.none⟩ = some (.float .f32 x)) : ShoIn w1 s a b l := by
  refine ⟨h.sh.grownAt hg hc fun h0 => ?_, h.bd.grownAt hg hc fun h0 => ?_, h.lg.grownAt hg hc fun h0 => ?_⟩
  · obtain ⟨u, e, hu⟩ := sh_at1 _ h0; exact ⟨u, e, hu x⟩
  · obtain ⟨u, e, hu⟩ := bw_at1 _ h0; exact ⟨u, e, hu x⟩
  · obtain ⟨u, e, hu⟩ := ev_at1 _ h0; exact ⟨u, e, hu x⟩
structure ShoOwn (W : World) (B : Nat) (s : Sho) (N M K : Nat) (a b l : Option Addr) (ca cb cl : Nat) : Prop where
  sh : W.ownsRow B 36 7 (.slice a N ca) N (shCells s.shs)
  bd : W.ownsRow B 74 2 (.slice b M cb) M (bwCells s.bds)
  lg : W.ownsRow B 38 13 (.slice l K cl) K (evCells s.log)
theorem ShoOwn.in_ {W : World} {B : Nat} {s : Sho} {N M K : Nat} {a b l : Option Addr} {ca cb cl : Nat} (h : ShoOwn W B s N M K a b l ca cb cl) : ShoIn W s a b l := ⟨lies_of_owns h.sh, lies_of_owns h.bd, lies_of_owns h.lg⟩
theorem ShoOwn.below {W w1 : World} {B : Nat} {s : Sho} {N M K : Nat} {a b l : Option Addr} {ca cb cl : Nat} (h : ShoOwn W B s N M K a b l ca cb cl) (hb : Below W.heap.size W w1) : ShoOwn w1 B s N M K a b l ca cb cl := ⟨ownsBelow hb h.sh, ownsBelow hb h.bd, ownsBelow hb h.lg⟩
theorem ShoOwn.alloc {W : World} {B : Nat} {s : Sho} {N M K : Nat} {a b l : Option Addr} {ca cb cl : Nat} {o : Obj} (h : ShoOwn W B s N M K a b l ca cb cl) : ShoOwn (W.alloc o) B s N M K a b l ca cb cl := ⟨h.sh.alloc _, h.bd.alloc _, h.lg.alloc _⟩
theorem ShoOwn.drew {W : World} {B : Nat} {s : Sho} {N M K : Nat} {a b l : Option Addr} {ca cb cl : Nat} (h : ShoOwn W B s N M K a b l ca cb cl) : ShoOwn W.drew B s N M K a b l ca cb cl := ⟨h.sh.drew, h.bd.drew, h.lg.drew⟩
theorem owns_other {W w1 : World} {B T sz n m c : Nat} {a : Option Addr} {xs : List Value} {r : Option Nat} (hg : W.grownBy w1 r) (h : W.ownsRow B T sz (.slice a m c) n xs) (hne : ∀ g, a = some ⟨g, 0, Option.none⟩ → r ≠ some g) : w1.ownsRow B T sz (.slice a m c) n xs := by
  obtain ⟨h1, h2⟩ := h
  refine ⟨h1, ?_⟩
  rcases h2 with h2 | ⟨g', cap', cur, e1, e2, e3, e4⟩
  · exact .inl h2
  · have ea : a = some ⟨g', 0, Option.none⟩ := by cases e1; rfl
    refine .inr ⟨g', cap', cur, e1, e2, ?_, e4⟩
    rw [hg.block g' (Array.getElem?_eq_some_iff.1 e3).1 (fun e => hne g' ea e.symm)]
    exact e3
theorem owns_apart {W : World} {B C T U sz su n m k j c d : Nat} {a : Option Addr} {g : Nat} {xs ys : List Value} (h : W.ownsRow B T sz (.slice a m c) n xs) (h' : W.ownsRow C U su (.slice (some ⟨g, 0, Option.none⟩) k d) j ys) (hTU : T ≠ U) : a ≠ some ⟨g, 0, Option.none⟩ := fun e => by
  subst e
  rcases h.2 with ⟨e0, _⟩ | ⟨g1, c1, cur1, e1, _, b1, _⟩
  · cases e0
  · rcases h'.2 with ⟨e0, _⟩ | ⟨g2, c2, cur2, e2, _, b2, _⟩
    · cases e0
    · cases e1; cases e2
      rw [b1] at b2
      simp at b2
      exact hTU b2.2
end Go.Proofs.YtfdgijmmgllmgaaGreatDoor
