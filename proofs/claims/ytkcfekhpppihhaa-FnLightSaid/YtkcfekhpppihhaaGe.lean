/-
  The sides of a point for a shard; whether it lies in it.
-/
import Derived.Test.YtkcfekhpppihhaaGd
namespace Go.Proofs.Ytkcfekhpppihhaa
open Go.ChangeShapes Go.WideShapes Go.ChangeAt Go.RowKit Go.Joins
set_option linter.unusedSimpArgs false
set_option linter.unusedVariables false
set_option maxRecDepth 100000
attribute [local go_sem] store_f
open Ieee

theorem infoF : (Try.prog.info? 26).map (fun i => (i.zero, i.size, i.bytes)) = some (some (.float .f32 0), 1, 4) := by kernel_rfl
structure SidesIs (s : Shd) (p1 p2 x y z : Nat) : Prop where
  call : ∀ w : World, Calls Try.prog 40 #[.agg #[.complex .f32 s.a1 s.a2, .complex .f32 s.b1 s.b2, .complex .f32 s.c1 s.c2, .float .f32 s.r, .float .f32 s.g, .float .f32 s.b, .float .f32 s.k], .complex .f32 p1 p2] w fun e w' => ∃ g cap, e = .returned (.slice (some ⟨g, 0, Option.none⟩) 3 cap) ∧ Row3 w' g x y z ∧ Below w.heap.size w w'

set_option maxHeartbeats 4000000 in
theorem sides_of {s : Shd} {p1 p2 x y z : Nat} (C : Corn s) (X : SideIs s.a1 s.a2 s.b1 s.b2 p1 p2 x) (Y : SideIs s.b1 s.b2 s.c1 s.c2 p1 p2 y) (Z : SideIs s.c1 s.c2 s.a1 s.a2 p1 p2 z) : SidesIs s p1 p2 x y z := ⟨fun w => by
  obtain ⟨i0, hi, hz0, hz1, hz2⟩ := info_parts infoF
  go_enter Try.func40, Try.ntmps40
  go_wp2_with fail
  refine (C.call _).mono ?_
  rintro e w1 ⟨rfl, hB, hb1⟩
  have hbel : Below w.heap.size w w1 := by (repeat' (first | (with_reducible exact Below.refl _ _) | (with_reducible assumption) | (with_reducible refine Below.alloc ?_ ?_ _) | (with_reducible refine Below.drew ?_) | (with_reducible refine Below.setCell ?_ ?_ _) | (with_reducible refine Below.trans ?_ (Below.mono (by assumption) ?_)) | (with_reducible exact Nat.le_refl _) | omega | (simp only [World.size_alloc, World.size_setCell, World.size_drew]; omega) | (simp; omega) | (simp; done)))
  simp only [World.size_alloc] at hB
  have hl := hB.lt
  have HC : Hid (Blk w1 (w.heap.size + 1 + 1) #[.complex .f32 s.a1 s.a2, .complex .f32 s.b1 s.b2, .complex .f32 s.c1 s.c2] 25) := hB
  have HB : Hid (Below w.heap.size w w1) := hbel
  have hs1 := hbel.size
  clear hB hb1 hbel
  go_wp2_with fail
  go_loopw [6, 7, 8, 14] (fun v _ _ i wr => ∃ k : Nat, k ≤ 3 ∧ i = .int .i64 k ∧ wr.ownsRow w1.heap.size 26 1 v k (([x, y, z].take k).map (Value.float .f32)) ∧ v ≠ .slice Option.none 0 0 ∧ Below w1.heap.size w1 wr)
    (fun _ _ _ i _ => 3 - (intOf i).toNat)
  case atStart => exact ⟨0, by omega, rfl, World.ownsRow_lit _ #[] 0 (by simp) (by unfold maxLen; omega) rfl, by simp, by (repeat' (first | (with_reducible exact Below.refl _ _) | (with_reducible assumption) | (with_reducible refine Below.alloc ?_ ?_ _) | (with_reducible refine Below.drew ?_) | (with_reducible refine Below.setCell ?_ ?_ _) | (with_reducible refine Below.trans ?_ (Below.mono (by assumption) ?_)) | (with_reducible exact Nat.le_refl _) | omega | (simp only [World.size_alloc, World.size_setCell, World.size_drew]; omega) | (simp; omega) | (simp; done)))⟩
  case round =>
    obtain ⟨k, hk, rfl, hown, hnn, hbel⟩ := hrel
    have HN : Hid (u6 ≠ .slice Option.none 0 0) := hnn
    have hbs := hbel.size
    have c0 := cBelow hbel (Blk.cellAt (i := 0) HC.out rfl)
    have c1 := cBelow hbel (Blk.cellAt (i := 1) HC.out rfl)
    have c2 := cBelow hbel (Blk.cellAt (i := 2) HC.out rfl)
    simp only [List.getElem_toArray, List.getElem_cons_zero, List.getElem_cons_succ] at c0 c1 c2
    clear hnn
    rcases (by omega : k = 0 ∨ k = 1 ∨ k = 2 ∨ k = 3) with rfl | rfl | rfl | rfl
    · replace hown : wr.ownsRow w1.heap.size 26 1 u6 0 [] := hown
      go_wp2_with (first | (go_at_call 10; refine (X.call _).mono ?_; rintro e w2 ⟨rfl, rfl⟩) | (at_builtin; go_loud (refine wpList_append_own _ rfl _ _ 73 rfl w1.heap.size 26 i0 (.float .f32 0) 1 4 Try.underlying73 hi hz0 hz1 hz2 rfl (by decide) _ 0 [] rfl ?hown ⟨w2.heap.size, 0, Option.none⟩ 1 1 [.float .f32 x] rfl rfl ?c1 ?c2 ?c3 ?c4 ?c5 ?_)))
      case hown => (change World.ownsRow _ _ _ _ u6 _ _; (repeat (first | (with_reducible assumption) | (with_reducible refine World.ownsRow.alloc ?_ _) | (with_reducible refine World.ownsRow.drew ?_) | (with_reducible refine ownsBelow (by assumption) ?_))))
      case c1 =>
        intro j u hj
        rcases j with _ | j <;> simp at hj
        subst hj
        simp [Addr.add]
      case c2 =>
        intro u hu
        simp at hu
        subst hu
        rfl
      case c3 => (unfold maxLen; omega)
      case c4 => omega
      case c5 => first | omega | (simp only [World.size_alloc, World.size_setCell, World.size_drew]; omega)
      intro v' w3 hown' hgrow hvn
      have HV : Hid (v' ≠ .slice Option.none 0 0) := hvn
      have hb3 : Below w1.heap.size w1 w3 := Below.grown (by (repeat' (first | (with_reducible exact Below.refl _ _) | (with_reducible assumption) | (with_reducible refine Below.alloc ?_ ?_ _) | (with_reducible refine Below.drew ?_) | (with_reducible refine Below.setCell ?_ ?_ _) | (with_reducible refine Below.trans ?_ (Below.mono (by assumption) ?_)) | (with_reducible exact Nat.le_refl _) | omega | (simp only [World.size_alloc, World.size_setCell, World.size_drew]; omega) | (simp; omega) | (simp; done)))) hgrow (by first | omega | (simp only [World.size_alloc, World.size_setCell, World.size_drew]; omega)) (fun q hq => (hown.lt q hq).1)
      clear hgrow hvn
      go_wp2
      go_roundw
      case rel => exact ⟨1, by omega, by go_num, by simpa using hown', HV.out, hb3⟩
      case measure => simp [intOf]
    · replace hown : wr.ownsRow w1.heap.size 26 1 u6 1 [.float .f32 x] := hown
      go_wp2_with (first | (go_at_call 10; refine (Y.call _).mono ?_; rintro e w2 ⟨rfl, rfl⟩) | (at_builtin; go_loud (refine wpList_append_own _ rfl _ _ 73 rfl w1.heap.size 26 i0 (.float .f32 0) 1 4 Try.underlying73 hi hz0 hz1 hz2 rfl (by decide) _ 1 [.float .f32 x] rfl ?hown ⟨w2.heap.size, 0, Option.none⟩ 1 1 [.float .f32 y] rfl rfl ?c1 ?c2 ?c3 ?c4 ?c5 ?_)))
      case hown => (change World.ownsRow _ _ _ _ u6 _ _; (repeat (first | (with_reducible assumption) | (with_reducible refine World.ownsRow.alloc ?_ _) | (with_reducible refine World.ownsRow.drew ?_) | (with_reducible refine ownsBelow (by assumption) ?_))))
      case c1 =>
        intro j u hj
        rcases j with _ | j <;> simp at hj
        subst hj
        simp [Addr.add]
      case c2 =>
        intro u hu
        simp at hu
        subst hu
        rfl
      case c3 => (unfold maxLen; omega)
      case c4 => omega
      case c5 => first | omega | (simp only [World.size_alloc, World.size_setCell, World.size_drew]; omega)
      intro v' w3 hown' hgrow hvn
      have HV : Hid (v' ≠ .slice Option.none 0 0) := hvn
      have hb3 : Below w1.heap.size w1 w3 := Below.grown (by (repeat' (first | (with_reducible exact Below.refl _ _) | (with_reducible assumption) | (with_reducible refine Below.alloc ?_ ?_ _) | (with_reducible refine Below.drew ?_) | (with_reducible refine Below.setCell ?_ ?_ _) | (with_reducible refine Below.trans ?_ (Below.mono (by assumption) ?_)) | (with_reducible exact Nat.le_refl _) | omega | (simp only [World.size_alloc, World.size_setCell, World.size_drew]; omega) | (simp; omega) | (simp; done)))) hgrow (by first | omega | (simp only [World.size_alloc, World.size_setCell, World.size_drew]; omega)) (fun q hq => (hown.lt q hq).1)
      clear hgrow hvn
      go_wp2
      go_roundw
      case rel => exact ⟨2, by omega, by go_num, by simpa using hown', HV.out, hb3⟩
      case measure => simp [intOf]
    · replace hown : wr.ownsRow w1.heap.size 26 1 u6 2 [.float .f32 x, .float .f32 y] := hown
      go_wp2_with (first | (go_at_call 10; refine (Z.call _).mono ?_; rintro e w2 ⟨rfl, rfl⟩) | (at_builtin; go_loud (refine wpList_append_own _ rfl _ _ 73 rfl w1.heap.size 26 i0 (.float .f32 0) 1 4 Try.underlying73 hi hz0 hz1 hz2 rfl (by decide) _ 2 [.float .f32 x, .float .f32 y] rfl ?hown ⟨w2.heap.size, 0, Option.none⟩ 1 1 [.float .f32 z] rfl rfl ?c1 ?c2 ?c3 ?c4 ?c5 ?_)))
      case hown => (change World.ownsRow _ _ _ _ u6 _ _; (repeat (first | (with_reducible assumption) | (with_reducible refine World.ownsRow.alloc ?_ _) | (with_reducible refine World.ownsRow.drew ?_) | (with_reducible refine ownsBelow (by assumption) ?_))))
      case c1 =>
        intro j u hj
        rcases j with _ | j <;> simp at hj
        subst hj
        simp [Addr.add]
      case c2 =>
        intro u hu
        simp at hu
        subst hu
        rfl
      case c3 => (unfold maxLen; omega)
      case c4 => omega
      case c5 => first | omega | (simp only [World.size_alloc, World.size_setCell, World.size_drew]; omega)
      intro v' w3 hown' hgrow hvn
      have HV : Hid (v' ≠ .slice Option.none 0 0) := hvn
      have hb3 : Below w1.heap.size w1 w3 := Below.grown (by (repeat' (first | (with_reducible exact Below.refl _ _) | (with_reducible assumption) | (with_reducible refine Below.alloc ?_ ?_ _) | (with_reducible refine Below.drew ?_) | (with_reducible refine Below.setCell ?_ ?_ _) | (with_reducible refine Below.trans ?_ (Below.mono (by assumption) ?_)) | (with_reducible exact Nat.le_refl _) | omega | (simp only [World.size_alloc, World.size_setCell, World.size_drew]; omega) | (simp; omega) | (simp; done)))) hgrow (by first | omega | (simp only [World.size_alloc, World.size_setCell, World.size_drew]; omega)) (fun q hq => (hown.lt q hq).1)
      clear hgrow hvn
      go_wp2
      go_roundw
      case rel => exact ⟨3, by omega, by go_num, by simpa using hown', HV.out, hb3⟩
      case measure => simp [intOf]
    · rcases ownsRow_forms hown with ⟨e, _⟩ | ⟨g, cap, rfl⟩
      · exact absurd e HN.out
      have HR : Hid (Row3 wr g x y z) := ⟨by rw [hown.cellAt 0 (by omega)]; rfl, by rw [hown.cellAt 1 (by omega)]; rfl, by rw [hown.cellAt 2 (by omega)]; rfl⟩
      have HBB : Hid (Below w.heap.size w wr) := HB.out.trans (hbel.mono hs1)
      clear c0 c1 c2 hown hbel
      go_wp2
      go_ret
      exact ⟨g, cap, rfl, HR.out, HBB.out⟩⟩

/-- Which point lies in a shard, by the values of its sides. -/
def inZ (x y z : Int) : Bool := decide ((0 ≤ x ∧ 0 ≤ y ∧ 0 ≤ z) ∨ (x ≤ 0 ∧ y ≤ 0 ∧ z ≤ 0))
def inSh (s : Shd) (p1 p2 : Nat) : Bool :=
  inZ (valOf F32 (sideW s.a1 s.a2 s.b1 s.b2 p1 p2)) (valOf F32 (sideW s.b1 s.b2 s.c1 s.c2 p1 p2)) (valOf F32 (sideW s.c1 s.c2 s.a1 s.a2 p1 p2))
structure InIs (s : Shd) (p1 p2 : Nat) (t : Bool) : Prop where
  call : ∀ w : World, Calls Try.prog 14 #[.agg #[.complex .f32 s.a1 s.a2, .complex .f32 s.b1 s.b2, .complex .f32 s.c1 s.c2, .float .f32 s.r, .float .f32 s.g, .float .f32 s.b, .float .f32 s.k], .complex .f32 p1 p2] w fun e w' => e = .returned (.bool t) ∧ Below w.heap.size w w'
structure MinR (x y z n : Nat) : Prop where
  call : ∀ (w : World) (g cap : Nat), Row3 w g x y z → Calls Try.prog 41 #[.slice (some ⟨g, 0, Option.none⟩) 3 cap] w fun e w' => e = .returned (.float .f32 n) ∧ w' = w
structure MaxR (x y z n : Nat) : Prop where
  call : ∀ (w : World) (g cap : Nat), Row3 w g x y z → Calls Try.prog 42 #[.slice (some ⟨g, 0, Option.none⟩) 3 cap] w fun e w' => e = .returned (.float .f32 n) ∧ w' = w

set_option maxHeartbeats 2000000 in
theorem in_of {s : Shd} {p1 p2 x y z m n : Nat} {u v : Bool} (S : ShdIs s true) (P : PtIs p1 p2 true) (D : SidesIs s p1 p2 x y z) (M : MinR x y z m) (N : MaxR x y z n)
    (hu : (FloatKind.f32.format.order m 0 == some .gt || FloatKind.f32.format.order m 0 == some .eq) = u) (hv : (FloatKind.f32.format.order n 0 == some .lt || FloatKind.f32.format.order n 0 == some .eq) = v) : InIs s p1 p2 (u || v) := ⟨fun w => by
  go_enter Try.func14, Try.ntmps14
  go_wp2_with fail
  refine (S.call _).mono ?_
  rintro e w1 ⟨rfl, hb1⟩
  have HS : Hid (Blk w1 w.heap.size #[.complex .f32 s.a1 s.a2, .complex .f32 s.b1 s.b2, .complex .f32 s.c1 s.c2, .float .f32 s.r, .float .f32 s.g, .float .f32 s.b, .float .f32 s.k] 37) := Blk.belowAt hb1 (Blk.newAt rfl)
  have hB1 : Below w.heap.size w w1 := by (repeat' (first | (with_reducible exact Below.refl _ _) | (with_reducible assumption) | (with_reducible refine Below.alloc ?_ ?_ _) | (with_reducible refine Below.drew ?_) | (with_reducible refine Below.setCell ?_ ?_ _) | (with_reducible refine Below.trans ?_ (Below.mono (by assumption) ?_)) | (with_reducible exact Nat.le_refl _) | omega | (simp only [World.size_alloc, World.size_setCell, World.size_drew]; omega) | (simp; omega) | (simp; done)))
  have HB : Hid (Below w.heap.size w w1) := hB1
  have hl := HS.out.lt
  have hs1 := HB.out.size
  clear hb1 hB1
  have d0 := Blk.cellAt (i := 0) HS.out rfl
  have d1 := Blk.cellAt (i := 1) HS.out rfl
  have d2 := Blk.cellAt (i := 2) HS.out rfl
  have d3 := Blk.cellAt (i := 3) HS.out rfl
  have d4 := Blk.cellAt (i := 4) HS.out rfl
  have d5 := Blk.cellAt (i := 5) HS.out rfl
  have d6 := Blk.cellAt (i := 6) HS.out rfl
  simp only [List.getElem_toArray, List.getElem_cons_zero, List.getElem_cons_succ] at d0 d1 d2 d3 d4 d5 d6
  go_wp2_with (go_at_call 17; refine (P.call _).mono ?_; rintro e w2 ⟨rfl, rfl⟩)
  refine (D.call _).mono ?_
  rintro e w3 ⟨g, cap, rfl, hR, hb3⟩
  have HR : Hid (Row3 w3 g x y z) := hR
  have HB3 : Hid (Below w.heap.size w w3) := HB.out.trans (hb3.mono hs1)
  clear hR hb3 d0 d1 d2 d3 d4 d5 d6
  cases u
  · go_wp2_with (first | (go_at_call 41; refine (M.call _ _ _ HR.out).mono ?_; rintro e w4 ⟨rfl, rfl⟩; simp only [hu]) | (go_at_call 42; refine (N.call _ _ _ HR.out).mono ?_; rintro e w5 ⟨rfl, rfl⟩))
    all_goals (go_ret; exact ⟨by simp_all, HB3.out⟩)
  · go_wp2_with (first | (go_at_call 41; refine (M.call _ _ _ HR.out).mono ?_; rintro e w4 ⟨rfl, rfl⟩; simp only [hu]) | (go_at_call 42; refine (N.call _ _ _ HR.out).mono ?_; rintro e w5 ⟨rfl, rfl⟩))
    all_goals (go_ret; exact ⟨by simp_all, HB3.out⟩)⟩
theorem inIs {s : Shd} {p1 p2 : Nat} (hs : shardB s = true) (h1 : inB p1 = true) (h2 : inB p2 = true) : InIs s p1 p2 (inSh s p1 p2) := by
  have hs' := hs
  unfold shardB ptB at hs'
  simp only [Bool.and_eq_true] at hs'
  obtain ⟨⟨⟨⟨⟨a1, a2⟩, b1, b2⟩, c1, c2⟩, _⟩, _⟩ := hs'
  have X := sideIs a1 a2 b1 b2 h1 h2
  have Y := sideIs b1 b2 c1 c2 h1 h2
  have Z := sideIs c1 c2 a1 a2 h1 h2
  have D := sides_of ⟨fun w => cornersOf_i s w⟩ X Y Z
  have S := shdIs s
  rw [hs] at S
  have fx := (side_cl s.a1 s.a2 s.b1 s.b2 p1 p2).fin
  have fy := (side_cl s.b1 s.b2 s.c1 s.c2 p1 p2).fin
  have fz := (side_cl s.c1 s.c2 s.a1 s.a2 p1 p2).fin
  unfold inSh
  generalize sideW s.a1 s.a2 s.b1 s.b2 p1 p2 = x at *
  generalize sideW s.b1 s.b2 s.c1 s.c2 p1 p2 = y at *
  generalize sideW s.c1 s.c2 s.a1 s.a2 p1 p2 = z at *
  obtain ⟨m, m1, m2, _, m3, m4, m5⟩ := min_val fx fy
  obtain ⟨n, n1, n2, _, n3, n4, n5⟩ := min_val m2 fz
  obtain ⟨u, u1, u2, _, u3, u4, u5⟩ := max_val fx fy
  obtain ⟨v, v1, v2, _, v3, v4, v5⟩ := max_val u2 fz
  have H := in_of S (ptYes h1 h2) D ⟨fun w g cap R => slMin ⟨m1⟩ ⟨n1⟩ w g cap R⟩ ⟨fun w g cap R => slMax ⟨u1⟩ ⟨v1⟩ w g cap R⟩ rfl rfl
  rw [order_zero n2, order_zero v2, cmp_eq, cmp_eq, cmp_lt, cmp_gt] at H
  have e : (decide (0 < valOf F32 n) || decide (valOf F32 n = 0) || (decide (valOf F32 v < 0) || decide (valOf F32 v = 0))) = inZ (valOf F32 x) (valOf F32 y) (valOf F32 z) := by
    unfold inZ
    rw [Bool.eq_iff_iff]
    simp only [Bool.or_eq_true, decide_eq_true_eq]
    omega
  rwa [e] at H
end Go.Proofs.Ytkcfekhpppihhaa
