/-
  The area and the box of a shard.
-/
import Derived.Test.YtkcfekhpppihhaaGe
import Derived.Test.YtkcfekhpppihhaaFg
import Derived.Deep.QuietTactic
import Derived.BigQuiet
namespace Go.Proofs.Ytkcfekhpppihhaa
open Go.ChangeShapes Go.WideShapes Go.ChangeAt Go.RowKit Go.Joins
set_option linter.unusedSimpArgs false
set_option linter.unusedVariables false
set_option maxRecDepth 100000
attribute [local go_sem] store_f
open Ieee

theorem xor_sign {r : Nat} (h : r < 2 ^ 31) : r ^^^ 2 ^ 31 = 2 ^ 31 + r := by
  have h1 := Nat.two_pow_add_eq_or_of_lt (i := 31) h 1
  rw [Nat.mul_one] at h1
  rw [h1]
  apply Nat.eq_of_testBit_eq
  intro i
  rw [Nat.testBit_xor, Nat.testBit_or, Nat.testBit_two_pow]
  by_cases hi : 31 = i
  · subst hi
    rw [Nat.testBit_lt_two_pow h]; rfl
  · simp [hi]
theorem neg_of_word (s : Bool) {r : Nat} (h : r < 2147483648) : Op.negFloat .f32 (F32.word s r) = F32.word (!s) r := by
  rw [neg_word]
  have e : ∀ b : Bool, F32.word b r = (if b then 2147483648 else 0) + r := fun b => by
    unfold Format.word; rw [F32_sw]; cases b <;> simp
  rw [e, e]
  have hx := xor_sign (r := r) (by omega)
  cases s
  · simp only [Bool.not_false, if_true, Bool.false_eq_true, if_false, Nat.zero_add]; rw [hx]
  · simp only [Bool.not_true, if_true, Bool.false_eq_true, if_false, Nat.zero_add]
    rw [show 2147483648 + r = r ^^^ 2 ^ 31 by rw [hx], Nat.xor_assoc, Nat.xor_self, Nat.xor_zero]
theorem val_negF {x : Nat} (hf : Fin32 x) (hx : x < 4294967296) : valOf F32 (Op.negFloat .f32 x) = - valOf F32 x ∧ Fin32 (Op.negFloat .f32 x) := by
  have hr := fin_rung hf
  have e := word_of F32 (w := x) (by rw [F32_w]; exact hx)
  have h2 := neg_of_word (negOf F32 x) (r := rungOf F32 x) (by omega)
  rw [e] at h2
  rw [h2]
  refine ⟨?_, fin_word _ hr⟩
  rw [valOf_word F32 _ (by rw [F32_sw]; omega)]
  unfold valOf
  cases negOf F32 x <;> simp

theorem set_val {x : Nat} (h : Fin32 x) : valOf F32 (setB x) = valOf F32 x ∧ Fin32 (setB x) := by
  rw [set_clean h, clean_eq h]
  by_cases h0 : rungOf F32 x = 0
  · rw [if_pos h0, val_zero, val_eq_zero.2 h0]; exact ⟨rfl, fin_of_lt (by omega)⟩
  · rw [if_neg h0]; exact ⟨rfl, h⟩

/-- The lesser of two parts, as the box takes it; the greater one. -/
structure Lo (a b z : Nat) : Prop where
  op : Op2 43 a b z
  fin : Fin32 z
  l1 : valOf F32 z ≤ valOf F32 a
  l2 : valOf F32 z ≤ valOf F32 b
structure Hi (a b z : Nat) : Prop where
  op : Op2 44 a b z
  fin : Fin32 z
  g1 : valOf F32 a ≤ valOf F32 z
  g2 : valOf F32 b ≤ valOf F32 z
theorem lo_of {a b : Nat} (ha : Fin32 a) (hb : Fin32 b) : ∃ z, Lo a b z := by
  obtain ⟨m, h1, h2, _, h3, h4, _⟩ := min_val ha hb
  obtain ⟨e1, e2⟩ := set_val h2
  refine ⟨setB m, ⟨fun w => ?_⟩, e2, by omega, by omega⟩
  have q1 := h1 Try.prog
  go_enter Try.func43, Try.ntmps43
  go_wp2_with (first | simp only [q1] | (go_at_call 60; refine (settle_i _ _).mono ?_; rintro e w1 ⟨rfl, rfl⟩))
  go_ret
  exact ⟨rfl, rfl⟩
theorem hi_of {a b : Nat} (ha : Fin32 a) (hb : Fin32 b) : ∃ z, Hi a b z := by
  obtain ⟨m, h1, h2, _, h3, h4, _⟩ := max_val ha hb
  obtain ⟨e1, e2⟩ := set_val h2
  refine ⟨setB m, ⟨fun w => ?_⟩, e2, by omega, by omega⟩
  have q1 := h1 Try.prog
  go_enter Try.func44, Try.ntmps44
  go_wp2_with (first | simp only [q1] | (go_at_call 60; refine (settle_i _ _).mono ?_; rintro e w1 ⟨rfl, rfl⟩))
  go_ret
  exact ⟨rfl, rfl⟩

/-- What the box of a shard is good for. -/
structure Box (s : Shd) (l1 l2 h1 h2 : Nat) : Prop where
  fl1 : Fin32 l1
  fl2 : Fin32 l2
  fh1 : Fin32 h1
  fh2 : Fin32 h2
  la1 : valOf F32 l1 ≤ valOf F32 s.a1
  lb1 : valOf F32 l1 ≤ valOf F32 s.b1
  lc1 : valOf F32 l1 ≤ valOf F32 s.c1
  la2 : valOf F32 l2 ≤ valOf F32 s.a2
  lb2 : valOf F32 l2 ≤ valOf F32 s.b2
  lc2 : valOf F32 l2 ≤ valOf F32 s.c2
  ha1 : valOf F32 s.a1 ≤ valOf F32 h1
  hb1 : valOf F32 s.b1 ≤ valOf F32 h1
  hc1 : valOf F32 s.c1 ≤ valOf F32 h1
  ha2 : valOf F32 s.a2 ≤ valOf F32 h2
  hb2 : valOf F32 s.b2 ≤ valOf F32 h2
  hc2 : valOf F32 s.c2 ≤ valOf F32 h2
structure BoxIs (s : Shd) (l1 l2 h1 h2 : Nat) : Prop where
  call : ∀ w : World, Calls Try.prog 15 #[.agg #[.complex .f32 s.a1 s.a2, .complex .f32 s.b1 s.b2, .complex .f32 s.c1 s.c2, .float .f32 s.r, .float .f32 s.g, .float .f32 s.b, .float .f32 s.k]] w fun e w' => e = .returned (.tuple #[.complex .f32 l1 l2, .complex .f32 h1 h2, .bool true]) ∧ Below w.heap.size w w'

set_option maxHeartbeats 4000000 in
theorem box_of {s : Shd} {x1 x2 y1 y2 u1 u2 v1 v2 l1 l2 h1 h2 : Nat} (S : ShdIs s true) (C : Corn s)
    (A : Join 43 s.a1 s.a2 s.a1 s.a2 x1 x2) (A' : Join 44 s.a1 s.a2 s.a1 s.a2 y1 y2)
    (B : Join 43 x1 x2 s.b1 s.b2 u1 u2) (B' : Join 44 y1 y2 s.b1 s.b2 v1 v2)
    (D : Join 43 u1 u2 s.c1 s.c2 l1 l2) (D' : Join 44 v1 v2 s.c1 s.c2 h1 h2) : BoxIs s l1 l2 h1 h2 := ⟨fun w => by
  go_enter Try.func15, Try.ntmps15
  go_wp2_with fail
  refine (S.call _).mono ?_
  rintro e w1 ⟨rfl, hb1⟩
  have HS : Hid (Blk w1 w.heap.size #[.complex .f32 s.a1 s.a2, .complex .f32 s.b1 s.b2, .complex .f32 s.c1 s.c2, .float .f32 s.r, .float .f32 s.g, .float .f32 s.b, .float .f32 s.k] 37) := Blk.belowAt hb1 (Blk.newAt rfl)
  have hB1 : Below w.heap.size w w1 := by (repeat' (first | (with_reducible exact Below.refl _ _) | (with_reducible assumption) | (with_reducible refine Below.alloc ?_ ?_ _) | (with_reducible refine Below.drew ?_) | (with_reducible refine Below.setCell ?_ ?_ _) | (with_reducible refine Below.trans ?_ (Below.mono (by assumption) ?_)) | (with_reducible exact Nat.le_refl _) | omega | (simp only [World.size_alloc, World.size_setCell, World.size_drew]; omega) | (simp; omega) | (simp; done)))
  have HB : Hid (Below w.heap.size w w1) := hB1
  have hl := HS.out.lt
  have hs1 := hB1.size
  clear hb1 hB1
  (have d0 := Blk.cellAt (i := 0) HS.out rfl; have d1 := Blk.cellAt (i := 1) HS.out rfl; have d2 := Blk.cellAt (i := 2) HS.out rfl; have d3 := Blk.cellAt (i := 3) HS.out rfl; have d4 := Blk.cellAt (i := 4) HS.out rfl; have d5 := Blk.cellAt (i := 5) HS.out rfl; have d6 := Blk.cellAt (i := 6) HS.out rfl; simp only [List.getElem_toArray, List.getElem_cons_zero, List.getElem_cons_succ] at d0 d1 d2 d3 d4 d5 d6)
  go_wp2_with fail
  go_quiet (fail)
  go_wp2_with fail
  refine (C.call _).mono ?_
  rintro e w2 ⟨rfl, hK, hb2⟩
  have hds : (w1.drewN nq).heap.size = w1.heap.size := rfl
  simp only [hds] at hK hb2 ⊢
  have HB2 : Hid (Below w.heap.size w w2) := HB.out.trans ((below_draws _ _ _).trans (hb2.mono (by simpa using hs1)))
  have k0 := Blk.cellAt (i := 0) hK rfl
  have k1 := Blk.cellAt (i := 1) hK rfl
  have k2 := Blk.cellAt (i := 2) hK rfl
  simp only [List.getElem_toArray, List.getElem_cons_zero, List.getElem_cons_succ] at k0 k1 k2
  clear hK hb2 d0 d1 d2 d3 d4 d5 d6
  go_wp2_with fail
  go_loopw [5, 6, 8, 19] (fun x y _ i wr => wr = w2 ∧ ((i = .int .i64 0 ∧ x = .complex .f32 s.a1 s.a2 ∧ y = .complex .f32 s.a1 s.a2) ∨ (i = .int .i64 1 ∧ x = .complex .f32 x1 x2 ∧ y = .complex .f32 y1 y2) ∨ (i = .int .i64 2 ∧ x = .complex .f32 u1 u2 ∧ y = .complex .f32 v1 v2) ∨ (i = .int .i64 3 ∧ x = .complex .f32 l1 l2 ∧ y = .complex .f32 h1 h2))) (fun _ _ _ i _ => 3 - (intOf i).toNat)
  case atStart => exact ⟨rfl, .inl ⟨rfl, rfl, rfl⟩⟩
  case round =>
    obtain ⟨rfl, hrel⟩ := hrel
    rcases hrel with ⟨rfl, rfl, rfl⟩ | ⟨rfl, rfl, rfl⟩ | ⟨rfl, rfl, rfl⟩ | ⟨rfl, rfl, rfl⟩
    · go_wp2_with (go_at_call 29; (first | (with_reducible refine (A.call _).mono ?_) | (with_reducible refine (A'.call _).mono ?_)); rintro e w3 ⟨rfl, rfl⟩)
      go_roundw
      case rel => simp
      case measure => simp [intOf]
    · go_wp2_with (go_at_call 29; (first | (with_reducible refine (B.call _).mono ?_) | (with_reducible refine (B'.call _).mono ?_)); rintro e w3 ⟨rfl, rfl⟩)
      go_roundw
      case rel => simp
      case measure => simp [intOf]
    · go_wp2_with (go_at_call 29; (first | (with_reducible refine (D.call _).mono ?_) | (with_reducible refine (D'.call _).mono ?_)); rintro e w3 ⟨rfl, rfl⟩)
      go_roundw
      case rel => simp
      case measure => simp [intOf]
    · go_wp2
      go_ret3
      exact ⟨rfl, HB2.out⟩⟩
theorem boxIs {s : Shd} (hs : s.Ok) : ∃ l1 l2 h1 h2, BoxIs s l1 l2 h1 h2 ∧ Box s l1 l2 h1 h2 := by
  have S := shdIs s
  rw [hs.yes] at S
  obtain ⟨x1, X1⟩ := lo_of hs.a1.fin hs.a1.fin
  obtain ⟨x2, X2⟩ := lo_of hs.a2.fin hs.a2.fin
  obtain ⟨y1, Y1⟩ := hi_of hs.a1.fin hs.a1.fin
  obtain ⟨y2, Y2⟩ := hi_of hs.a2.fin hs.a2.fin
  obtain ⟨u1, U1⟩ := lo_of X1.fin hs.b1.fin
  obtain ⟨u2, U2⟩ := lo_of X2.fin hs.b2.fin
  obtain ⟨v1, V1⟩ := hi_of Y1.fin hs.b1.fin
  obtain ⟨v2, V2⟩ := hi_of Y2.fin hs.b2.fin
  obtain ⟨l1, L1⟩ := lo_of U1.fin hs.c1.fin
  obtain ⟨l2, L2⟩ := lo_of U2.fin hs.c2.fin
  obtain ⟨h1, H1⟩ := hi_of V1.fin hs.c1.fin
  obtain ⟨h2, H2⟩ := hi_of V2.fin hs.c2.fin
  refine ⟨l1, l2, h1, h2, box_of S ⟨fun w => cornersOf_i s w⟩ (join_of X1.op X2.op (by simp)) (join_of Y1.op Y2.op (by simp)) (join_of U1.op U2.op (by simp)) (join_of V1.op V2.op (by simp)) (join_of L1.op L2.op (by simp)) (join_of H1.op H2.op (by simp)), ?_⟩
  have := X1.l1; have := X2.l1; have := Y1.g1; have := Y2.g1
  have := U1.l1; have := U1.l2; have := U2.l1; have := U2.l2; have := V1.g1; have := V1.g2; have := V2.g1; have := V2.g2
  have := L1.l1; have := L1.l2; have := L2.l1; have := L2.l2; have := H1.g1; have := H1.g2; have := H2.g1; have := H2.g2
  exact ⟨L1.fin, L2.fin, H1.fin, H2.fin, by omega, by omega, by omega, by omega, by omega, by omega, by omega, by omega, by omega, by omega, by omega, by omega⟩

structure AreaIs (s : Shd) (z : Nat) : Prop where
  call : ∀ w : World, Calls Try.prog 16 #[.agg #[.complex .f32 s.a1 s.a2, .complex .f32 s.b1 s.b2, .complex .f32 s.c1 s.c2, .float .f32 s.r, .float .f32 s.g, .float .f32 s.b, .float .f32 s.k]] w fun e w' => e = .returned (.float .f32 z) ∧ Below w.heap.size w w'
set_option maxHeartbeats 2000000 in
theorem area_of {s : Shd} {x n m z : Nat} (S : ShdIs s true) (X : SideIs s.a1 s.a2 s.b1 s.b2 s.c1 s.c2 x) (hn : Op.negFloat .f32 x = n) (M : Max2 x n m) (P : Op2 31 1056964608 m z) : AreaIs s z := ⟨fun w => by
  have q1 := M.run Try.prog
  have q2 := fun w => run_negf Try.prog w .f32 x
  rw [hn] at q2
  go_enter Try.func16, Try.ntmps16
  go_wp2_with fail
  refine (S.call _).mono ?_
  rintro e w1 ⟨rfl, hb1⟩
  have HS : Hid (Blk w1 w.heap.size #[.complex .f32 s.a1 s.a2, .complex .f32 s.b1 s.b2, .complex .f32 s.c1 s.c2, .float .f32 s.r, .float .f32 s.g, .float .f32 s.b, .float .f32 s.k] 37) := Blk.belowAt hb1 (Blk.newAt rfl)
  have hB1 : Below w.heap.size w w1 := by (repeat' (first | (with_reducible exact Below.refl _ _) | (with_reducible assumption) | (with_reducible refine Below.alloc ?_ ?_ _) | (with_reducible refine Below.drew ?_) | (with_reducible refine Below.setCell ?_ ?_ _) | (with_reducible refine Below.trans ?_ (Below.mono (by assumption) ?_)) | (with_reducible exact Nat.le_refl _) | omega | (simp only [World.size_alloc, World.size_setCell, World.size_drew]; omega) | (simp; omega) | (simp; done)))
  have HB : Hid (Below w.heap.size w w1) := hB1
  have hl := HS.out.lt
  clear hb1 hB1
  (have d0 := Blk.cellAt (i := 0) HS.out rfl; have d1 := Blk.cellAt (i := 1) HS.out rfl; have d2 := Blk.cellAt (i := 2) HS.out rfl; have d3 := Blk.cellAt (i := 3) HS.out rfl; have d4 := Blk.cellAt (i := 4) HS.out rfl; have d5 := Blk.cellAt (i := 5) HS.out rfl; have d6 := Blk.cellAt (i := 6) HS.out rfl; simp only [List.getElem_toArray, List.getElem_cons_zero, List.getElem_cons_succ] at d0 d1 d2 d3 d4 d5 d6)
  go_wp2_with (first | simp only [q1] | simp only [q2] | (go_at_call 10; (with_reducible refine (X.call _).mono ?_); rintro e w2 ⟨rfl, rfl⟩) | (go_at_call 31; (with_reducible refine (P.call _).mono ?_); rintro e w2 ⟨rfl, rfl⟩))
  go_ret
  exact ⟨rfl, HB.out⟩⟩
theorem areaIs {s : Shd} (hs : s.Ok) : ∃ z, AreaIs s z ∧ Fin32 z ∧ 0 ≤ valOf F32 z := by
  have S := shdIs s
  rw [hs.yes] at S
  have X := sideIs hs.a1.inb hs.a2.inb hs.b1.inb hs.b2.inb hs.c1.inb hs.c2.inb
  have hx := side_cl s.a1 s.a2 s.b1 s.b2 s.c1 s.c2
  generalize sideW s.a1 s.a2 s.b1 s.b2 s.c1 s.c2 = x at X hx
  obtain ⟨e1, e2⟩ := val_negF hx.fin hx.lt
  obtain ⟨m, m1, m2, _, m3, m4, _⟩ := max_val hx.fin e2
  have hm : 0 ≤ valOf F32 m := by omega
  have f5 : Fin32 1056964608 := fin_of_lt (by omega)
  refine ⟨_, area_of S X rfl ⟨m1⟩ (prod2 f5 m2), (clM_cl _).fin, ?_⟩
  have h5 : 0 ≤ valOf F32 1056964608 := by rw [val_of_lt (by omega)]; omega
  exact mv_nonneg (Int.mul_nonneg h5 hm)
end Go.Proofs.Ytkcfekhpppihhaa
