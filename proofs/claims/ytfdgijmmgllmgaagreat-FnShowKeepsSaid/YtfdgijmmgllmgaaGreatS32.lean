/-
  Texts Wh Wi Wj, joined.
-/
import Derived.Test.YtfdgijmmgllmgaaGreatS31
import Derived.Deep.RegionLaw
import Derived.IntWalk
namespace Go.Proofs.YtfdgijmmgllmgaaGreat
open Go.ChangeShapes Go.WideShapes Go.ChangeAt Go.RowKit Go.Joins
set_option linter.unusedSimpArgs false
set_option linter.unusedVariables false
set_option maxRecDepth 100000
attribute [local go_sem] store_f
open Ieee Go.Lib
attribute [local go_sem] store_c
/-- The head of a row that is owned. -/
theorem owns_head {W : World} {B T sz n m c : Nat} {a : Option Addr} {xs : List Value} (h : W.ownsRow B T sz (.slice a n c) n xs) (hm : m ≤ n) (hn : 0 < n) : W.ownsRow B T sz (.slice a m c) m (xs.take (m * sz)) := by
  have hl := h.1
  refine ⟨?_, ?_⟩
  · rw [List.length_take, hl]; exact Nat.min_eq_left (Nat.mul_le_mul_right _ hm)
  · rcases h.2 with ⟨e, e0⟩ | ⟨g', cap, cur, e1, hb, hg, hnc, hcm, hcs, ht⟩
    · omega
    · cases e1
      refine .inr ⟨g', c, cur, rfl, hb, hg, by omega, hcm, hcs, ?_⟩
      rw [← ht, List.take_take, Nat.min_eq_left (Nat.mul_le_mul_right _ hm)]
theorem LieAt.drop {W : World} {g : Nat} {xs : List Value} (h : LieAt W g 0 xs) (k : Nat) : LieAt W g k (xs.drop k) := fun j u hj => by
  rw [List.getElem?_drop] at hj
  have := h (k + j) u hj
  rwa [Nat.zero_add] at this
theorem DoBx.setSh {w W w5 : World} {B : Nat} {s : Sho} {N M K N0 c0 j N' c' : Nat} {e : Evw} {L : List Shd} {ys : List Value} {a a0 a' b l : Option Addr} {ca cb cl : Nat} (h : DoBx w W B s N M K e a b l ca cb cl) (hB : B ≤ w.heap.size) (h0 : W.ownsRow B 36 7 (.slice a0 N0 c0) j ys) (hg : W.grownBy w5 (Value.slice a0 N0 c0).ownBlock)
    (ho : w5.ownsRow B 36 7 (.slice a' N' c') N' (shCells L)) :
    DoBx w (w5.setCell ⟨w.heap.size, 5, Option.none⟩ (.slice a' N' c')) B { s with shs := L } N' M K e a' b l c' cb cl := by
  have hs := hg.size
  have h3 := h.size
  have X5 := blk_keep hg h0 h.x (by decide)
  have Y5 := blk_keep hg h0 h.y (by decide)
  have Z5 := blk_keep hg h0 h.z (by decide)
  have B5 := owns_keep hg h0 h.own.bd (by decide)
  have L5 := owns_keep hg h0 h.own.lg (by decide)
  have O5 : ShoOwn w5 B { s with shs := L } N' M K a' b l c' cb cl := ⟨ho, B5, L5⟩
  exact ⟨Blk.setAt rfl X5 rfl, Y5.other (by dsimp only; omega), Z5.other (by dsimp only; omega), O5.setP X5, (h.below.trans (below_keep hg h0 (by omega))).setCell (by dsimp only; omega) _, by simp; omega, fun P cs h' => (blk_keep hg h0 (h.keep P cs h') (by decide)).other (by have := h'.lt; dsimp only; omega)⟩
theorem DoBx.setBd {w W w5 : World} {B : Nat} {s : Sho} {N M K N0 c0 j M' c' : Nat} {e : Evw} {L : List Bw} {ys : List Value} {a a0 b' b l : Option Addr} {ca cb cl : Nat} (h : DoBx w W B s N M K e a b l ca cb cl) (hB : B ≤ w.heap.size) (h0 : W.ownsRow B 59 2 (.slice a0 N0 c0) j ys) (hg : W.grownBy w5 (Value.slice a0 N0 c0).ownBlock)
    (ho : w5.ownsRow B 59 2 (.slice b' M' c') M' (bwCells L)) :
    DoBx w (w5.setCell ⟨w.heap.size, 9, Option.none⟩ (.slice b' M' c')) B { s with bds := L } N M' K e a b' l ca c' cl := by
  have hs := hg.size
  have h3 := h.size
  have X5 := blk_keep hg h0 h.x (by decide)
  have Y5 := blk_keep hg h0 h.y (by decide)
  have Z5 := blk_keep hg h0 h.z (by decide)
  have S5 := owns_keep hg h0 h.own.sh (by decide)
  have L5 := owns_keep hg h0 h.own.lg (by decide)
  have O5 : ShoOwn w5 B { s with bds := L } N M' K a b' l ca c' cl := ⟨S5, ho, L5⟩
  exact ⟨Blk.setAt rfl X5 rfl, Y5.other (by dsimp only; omega), Z5.other (by dsimp only; omega), O5.setP X5, (h.below.trans (below_keep hg h0 (by omega))).setCell (by dsimp only; omega) _, by simp; omega, fun P cs h' => (blk_keep hg h0 (h.keep P cs h') (by decide)).other (by have := h'.lt; dsimp only; omega)⟩
/-- Where a row's rest lies. -/
theorem rest_at {W : World} {g n c sz : Nat} {xs : List Value} (h : LieAt W g 0 xs) (hc : c = n → (xs.drop (n * sz)) = []) : ∃ A : Addr, (if c = n then some (⟨g, 0, Option.none⟩ : Addr) else some ⟨g, n * sz, Option.none⟩) = some A ∧ Hid (∀ t u, (xs.drop (n * sz))[t]? = some u → W.cell? (A.add t) = some u) := by
  by_cases h' : c = n
  · refine ⟨⟨g, 0, Option.none⟩, by simp [h'], fun t u hu => ?_⟩
    rw [hc h'] at hu
    simp at hu
  · refine ⟨⟨g, n * sz, Option.none⟩, by simp [h'], fun t u hu => ?_⟩
    rw [Go.WideShapes.add_plain]
    exact h.drop _ t u hu
set_option maxHeartbeats 32000000 in
theorem doS_take {s : Sho} {N M K n : Nat} (hn : n < M) (hNM : N = M) (hs : s.shs.length = N) (hm : s.bds.length = M) (hM : M ≤ 8) : DoS 77 s N M K ⟨2, n, 0, 0, shd0, lit0⟩ { s with shs := s.shs.take n ++ s.shs.drop (n + 1), bds := s.bds.take n ++ s.bds.drop (n + 1) } (N - 1) (M - 1) true := ⟨fun w B a b l ca cb cl hr hB => by
  subst hNM
  obtain ⟨i0, hi, hz0, hz1, hz2⟩ := info_parts infoShd
  obtain ⟨j0, hj, hy0, hy1, hy2⟩ := info_parts infoB
  obtain ⟨p, HP⟩ := rowOf hr.sh (by omega)
  obtain ⟨g, HG⟩ := rowOf hr.bd (by omega)
  obtain rfl := HP.at_
  obtain rfl := HG.at_
  have D0 := Lib.hid (DoBx.start w B s N N K ⟨2, n, 0, 0, shd0, lit0⟩ (some ⟨p, 0, Option.none⟩) (some ⟨g, 0, Option.none⟩) l ca cb cl hr hB)
  obtain ⟨qa1, qa2⟩ := owns_cap hr.sh (by omega)
  obtain ⟨qb1, qb2⟩ := owns_cap hr.bd (by omega)
  have HLS := Lib.hid hs
  have HLB := Lib.hid hm
  have hk0 : (0 : Int) ≤ (n : Int) := by omega
  have hd : decide ((N : Int) ≤ (n : Int)) = false := by simp; omega
  clear HG HP hr hs hm
  go_enter Tryz.func77, Tryz.ntmps77
  go_wp2_with fail
  generalize hX : ((w.alloc (.cells #[.int .i64 s.size, .float .f32 s.step, .float .f32 s.lit.r, .float .f32 s.lit.g, .float .f32 s.lit.b, .slice (some ⟨p, 0, Option.none⟩) N ca, .int .i64 s.kind, .complex .f32 s.g1 s.g2, .float .f32 0, .slice (some ⟨g, 0, Option.none⟩) N cb, .int .i64 s.ticks, .slice l K cl] 34)).alloc (.cells #[.int .i64 (⟨2, n, 0, 0, shd0, lit0⟩ : Evw).kind, .int .i64 (⟨2, n, 0, 0, shd0, lit0⟩ : Evw).n, .complex .f32 (⟨2, n, 0, 0, shd0, lit0⟩ : Evw).z1 (⟨2, n, 0, 0, shd0, lit0⟩ : Evw).z2, .complex .f32 (⟨2, n, 0, 0, shd0, lit0⟩ : Evw).s.a1 (⟨2, n, 0, 0, shd0, lit0⟩ : Evw).s.a2, .complex .f32 (⟨2, n, 0, 0, shd0, lit0⟩ : Evw).s.b1 (⟨2, n, 0, 0, shd0, lit0⟩ : Evw).s.b2, .complex .f32 (⟨2, n, 0, 0, shd0, lit0⟩ : Evw).s.c1 (⟨2, n, 0, 0, shd0, lit0⟩ : Evw).s.c2, .float .f32 (⟨2, n, 0, 0, shd0, lit0⟩ : Evw).s.r, .float .f32 (⟨2, n, 0, 0, shd0, lit0⟩ : Evw).s.g, .float .f32 (⟨2, n, 0, 0, shd0, lit0⟩ : Evw).s.b, .float .f32 (⟨2, n, 0, 0, shd0, lit0⟩ : Evw).s.k, .float .f32 (⟨2, n, 0, 0, shd0, lit0⟩ : Evw).l.r, .float .f32 (⟨2, n, 0, 0, shd0, lit0⟩ : Evw).l.g, .float .f32 (⟨2, n, 0, 0, shd0, lit0⟩ : Evw).l.b] 38)).alloc (.cells #[.int .i64 0, .float .f32 0, .float .f32 0, .float .f32 0, .float .f32 0, .slice Option.none 0 0, .int .i64 0, .complex .f32 0 0, .float .f32 0, .slice Option.none 0 0, .int .i64 0, .slice Option.none 0 0] 34) = X at *
  clear hX
  (have q0 := Blk.cellAt (i := 0) D0.out.y rfl; have q1 := Blk.cellAt (i := 1) D0.out.y rfl; have q2 := Blk.cellAt (i := 2) D0.out.y rfl; have q3 := Blk.cellAt (i := 3) D0.out.y rfl; have q4 := Blk.cellAt (i := 4) D0.out.y rfl; have q5 := Blk.cellAt (i := 5) D0.out.y rfl; have q6 := Blk.cellAt (i := 6) D0.out.y rfl; have q7 := Blk.cellAt (i := 7) D0.out.y rfl; have q8 := Blk.cellAt (i := 8) D0.out.y rfl; have q9 := Blk.cellAt (i := 9) D0.out.y rfl; have q10 := Blk.cellAt (i := 10) D0.out.y rfl; have q11 := Blk.cellAt (i := 11) D0.out.y rfl; have q12 := Blk.cellAt (i := 12) D0.out.y rfl; simp only [List.getElem_toArray, List.getElem_cons_zero, List.getElem_cons_succ] at q0 q1 q2 q3 q4 q5 q6 q7 q8 q9 q10 q11 q12)
  (have k0 := Blk.cellAt (i := 0) D0.out.x rfl; have k1 := Blk.cellAt (i := 1) D0.out.x rfl; have k2 := Blk.cellAt (i := 2) D0.out.x rfl; have k3 := Blk.cellAt (i := 3) D0.out.x rfl; have k4 := Blk.cellAt (i := 4) D0.out.x rfl; have k5 := Blk.cellAt (i := 5) D0.out.x rfl; have k6 := Blk.cellAt (i := 6) D0.out.x rfl; have k7 := Blk.cellAt (i := 7) D0.out.x rfl; have k8 := Blk.cellAt (i := 8) D0.out.x rfl; have k9 := Blk.cellAt (i := 9) D0.out.x rfl; have k10 := Blk.cellAt (i := 10) D0.out.x rfl; have k11 := Blk.cellAt (i := 11) D0.out.x rfl; simp only [List.getElem_toArray, List.getElem_cons_zero, List.getElem_cons_succ] at k0 k1 k2 k3 k4 k5 k6 k7 k8 k9 k10 k11)
  have f5 := D0.out.x.free 5
  have ly := D0.out.y.lt
  have lx := D0.out.x.lt
  have t1 : (n : Int) ≤ (ca : Int) := by omega
  have t2 : (n : Int) + 1 ≤ (N : Int) := by omega
  have t4 : (0 : Int) ≤ (n : Int) + 1 := by omega
  have hw : IntKind.i64.wrap ((n : Int) + 1) = (n : Int) + 1 := IntWalk.i64_in _ (by omega)
  have ht : ((n : Int) + 1).toNat = n + 1 := by omega
  have hlS : (shCells s.shs).length = N * 7 := by rw [shCells_len, HLS.out]
  have hlB : (bwCells s.bds).length = N * 2 := by rw [bwCells_len, HLB.out]
  have hlieS : LieAt X p 0 (shCells s.shs) := by
    obtain ⟨p', HP⟩ := rowOf D0.out.own.sh (by omega)
    obtain rfl : p = p' := by have := HP.at_; simpa using this
    exact HP.lie
  obtain ⟨A, hA, hsrc⟩ := rest_at (n := n + 1) (c := ca) (sz := 7) hlieS (fun e => List.drop_eq_nil_of_le (by rw [hlS]; exact Nat.mul_le_mul_right _ (by omega)))
  have hown : X.drew.ownsRow B 36 7 (.slice (some ⟨p, 0, Option.none⟩) n ca) n ((shCells s.shs).take (n * 7)) := (owns_head D0.out.own.sh (by omega) (by omega)).drew
  have s2 : Hid (((shCells s.shs).drop ((n + 1) * 7)).length = (N - (n + 1)) * 7) := by show _ = _; rw [List.length_drop, hlS, Nat.sub_mul]
  have s3 : Hid (∀ u ∈ (shCells s.shs).drop ((n + 1) * 7), u.oneCell' = true) := fun u hu => sh_one _ u (List.mem_of_mem_drop hu)
  clear hlieS
  go_still_tail 11, (by kernel_rfl)
  change wpList _ _ _ _ _ X.drew
  go_wp2_with (at_builtin; go_loud (refine wpList_append_own _ rfl _ _ 27 rfl B 36 i0 (.agg #[.complex .f32 0 0, .complex .f32 0 0, .complex .f32 0 0, .float .f32 0, .float .f32 0, .float .f32 0, .float .f32 0]) 7 40 Tryz.underlying27 hi hz0 hz1 hz2 rfl (by decide) (.slice (some ⟨p, 0, Option.none⟩) n ca) n ((shCells s.shs).take (n * 7)) rfl hown A (N - (n + 1)) (ca - (n + 1)) ((shCells s.shs).drop ((n + 1) * 7)) rfl s2.out (fun j u hu => hsrc.out j u hu) s3.out (by unfold maxLen; omega) (by omega) (by have := D0.out.size; show B ≤ X.heap.size; omega) ?_))
  intro v5 w5 hown5 hgrow _
  obtain ⟨a5, c5, rfl⟩ := slice_form (m := 0) hown5
  have eN : n + (N - (n + 1)) = N - 1 := by omega
  rw [eN] at hown5
  rw [← sh_cut] at hown5
  have DB := Lib.hid ((D0.out.drew hB).setSh hB hown hgrow hown5)
  have hX5 := blk_keep hgrow hown (D0.out.drew hB).x (by decide)
  have hY5 := blk_keep hgrow hown (D0.out.drew hB).y (by decide)
  have d5 := Blk.cellAt (i := 5) hX5 rfl
  simp only [List.getElem_toArray, List.getElem_cons_zero, List.getElem_cons_succ] at d5
  have g5 := hX5.free 5
  have l5 := hX5.lt
  (try rw [show n + (N - (n + 1)) = N - 1 by omega])
  clear hX5 hY5 hown5 hgrow hown hsrc hA s2 s3 D0 f5 k0 k1 k2 k3 k4 k5 k6 k7 k8 k9 k10 k11 q0 q1 q2 q3 q4 q5 q6 q7 q8 q9 q10 q11 q12 ly lx t1
  go_wp2_with fail
  clear d5 g5 l5
  generalize w5.setCell ⟨w.heap.size, 5, Option.none⟩ (.slice a5 (N - 1) c5) = Z at *
  (have q0 := Blk.cellAt (i := 0) DB.out.y rfl; have q1 := Blk.cellAt (i := 1) DB.out.y rfl; have q2 := Blk.cellAt (i := 2) DB.out.y rfl; have q3 := Blk.cellAt (i := 3) DB.out.y rfl; have q4 := Blk.cellAt (i := 4) DB.out.y rfl; have q5 := Blk.cellAt (i := 5) DB.out.y rfl; have q6 := Blk.cellAt (i := 6) DB.out.y rfl; have q7 := Blk.cellAt (i := 7) DB.out.y rfl; have q8 := Blk.cellAt (i := 8) DB.out.y rfl; have q9 := Blk.cellAt (i := 9) DB.out.y rfl; have q10 := Blk.cellAt (i := 10) DB.out.y rfl; have q11 := Blk.cellAt (i := 11) DB.out.y rfl; have q12 := Blk.cellAt (i := 12) DB.out.y rfl; simp only [List.getElem_toArray, List.getElem_cons_zero, List.getElem_cons_succ] at q0 q1 q2 q3 q4 q5 q6 q7 q8 q9 q10 q11 q12)
  have ly := DB.out.y.lt
  have lx := DB.out.x.lt
  have t1 : (n : Int) ≤ (cb : Int) := by omega
  have hlieB : LieAt Z g 0 (bwCells s.bds) := by
    obtain ⟨p', HP⟩ := rowOf DB.out.own.bd (by omega)
    obtain rfl : g = p' := by have := HP.at_; simpa using this
    exact HP.lie
  obtain ⟨A2, hA2, hsrc2⟩ := rest_at (n := n + 1) (c := cb) (sz := 2) hlieB (fun e => List.drop_eq_nil_of_le (by rw [hlB]; exact Nat.mul_le_mul_right _ (by omega)))
  have hown2 : Z.drew.ownsRow B 59 2 (.slice (some ⟨g, 0, Option.none⟩) n cb) n ((bwCells s.bds).take (n * 2)) := (owns_head DB.out.own.bd (by omega) (by omega)).drew
  have s4 : Hid (((bwCells s.bds).drop ((n + 1) * 2)).length = (N - (n + 1)) * 2) := by show _ = _; rw [List.length_drop, hlB, Nat.sub_mul]
  have s5 : Hid (∀ u ∈ (bwCells s.bds).drop ((n + 1) * 2), u.oneCell' = true) := fun u hu => bw_one _ u (List.mem_of_mem_drop hu)
  clear hlieB
  go_still_tail 9, (by kernel_rfl)
  change wpList _ _ _ _ _ Z.drew
  go_wp2_with (at_builtin; go_loud (refine wpList_append_own _ rfl _ _ 29 rfl B 59 j0 (.agg #[.complex .f32 0 0, .complex .f32 0 0]) 2 16 Tryz.underlying29 hj hy0 hy1 hy2 rfl (by decide) (.slice (some ⟨g, 0, Option.none⟩) n cb) n ((bwCells s.bds).take (n * 2)) rfl hown2 A2 (N - (n + 1)) (cb - (n + 1)) ((bwCells s.bds).drop ((n + 1) * 2)) rfl s4.out (fun j u hu => hsrc2.out j u hu) s5.out (by unfold maxLen; omega) (by omega) (by have := DB.out.size; show B ≤ Z.heap.size; omega) ?_))
  intro v7 w7 hown7 hgrow7 _
  obtain ⟨b7, c7, rfl⟩ := slice_form (m := 0) hown7
  have eN2 : n + (N - (n + 1)) = N - 1 := by omega
  (try rw [eN2] at hown7)
  rw [← bw_cut] at hown7
  have DC := Lib.hid ((DB.out.drew hB).setBd hB hown2 hgrow7 hown7)
  have hX7 := blk_keep hgrow7 hown2 (DB.out.drew hB).x (by decide)
  have d9 := Blk.cellAt (i := 9) hX7 rfl
  simp only [List.getElem_toArray, List.getElem_cons_zero, List.getElem_cons_succ] at d9
  have g9 := hX7.free 9
  have l7 := hX7.lt
  (try rw [show n + (N - (n + 1)) = N - 1 by omega])
  clear hX7 hown7 hgrow7 hown2 hsrc2 hA2 s4 s5 DB q0 q1 q2 q3 q4 q5 q6 q7 q8 q9 q10 q11 q12 ly lx t1
  have sC := DC.out.size
  (have k0 := Blk.cellAt (i := 0) DC.out.x rfl; have k1 := Blk.cellAt (i := 1) DC.out.x rfl; have k2 := Blk.cellAt (i := 2) DC.out.x rfl; have k3 := Blk.cellAt (i := 3) DC.out.x rfl; have k4 := Blk.cellAt (i := 4) DC.out.x rfl; have k5 := Blk.cellAt (i := 5) DC.out.x rfl; have k6 := Blk.cellAt (i := 6) DC.out.x rfl; have k7 := Blk.cellAt (i := 7) DC.out.x rfl; have k8 := Blk.cellAt (i := 8) DC.out.x rfl; have k9 := Blk.cellAt (i := 9) DC.out.x rfl; have k10 := Blk.cellAt (i := 10) DC.out.x rfl; have k11 := Blk.cellAt (i := 11) DC.out.x rfl; simp only [List.getElem_toArray, List.getElem_cons_zero, List.getElem_cons_succ] at k0 k1 k2 k3 k4 k5 k6 k7 k8 k9 k10 k11)
  (have q0 := Blk.cellAt (i := 0) DC.out.z rfl; have q1 := Blk.cellAt (i := 1) DC.out.z rfl; have q2 := Blk.cellAt (i := 2) DC.out.z rfl; have q3 := Blk.cellAt (i := 3) DC.out.z rfl; have q4 := Blk.cellAt (i := 4) DC.out.z rfl; have q5 := Blk.cellAt (i := 5) DC.out.z rfl; have q6 := Blk.cellAt (i := 6) DC.out.z rfl; have q7 := Blk.cellAt (i := 7) DC.out.z rfl; have q8 := Blk.cellAt (i := 8) DC.out.z rfl; have q9 := Blk.cellAt (i := 9) DC.out.z rfl; have q10 := Blk.cellAt (i := 10) DC.out.z rfl; have q11 := Blk.cellAt (i := 11) DC.out.z rfl; simp only [List.getElem_toArray, List.getElem_cons_zero, List.getElem_cons_succ] at q0 q1 q2 q3 q4 q5 q6 q7 q8 q9 q10 q11)
  (have h0 := DC.out.z.free 0; have h1 := DC.out.z.free 1; have h2 := DC.out.z.free 2; have h3 := DC.out.z.free 3; have h4 := DC.out.z.free 4; have h5 := DC.out.z.free 5; have h6 := DC.out.z.free 6; have h7 := DC.out.z.free 7; have h8 := DC.out.z.free 8; have h9 := DC.out.z.free 9; have h10 := DC.out.z.free 10; have h11 := DC.out.z.free 11)
  have l8 := DC.out.z.lt
  have P5 := Lib.hid (put_z (t := { s with shs := s.shs.take n ++ s.shs.drop (n + 1), bds := s.bds.take n ++ s.bds.drop (n + 1) }) (x' := .slice a5 (N - 1) c5) (y' := .slice b7 (N - 1) c7) (z' := .slice l K cl) DC.out.z)
  go_wp2_with fail
  (have e0 := Blk.cellAt (i := 0) P5.out rfl; have e1 := Blk.cellAt (i := 1) P5.out rfl; have e2 := Blk.cellAt (i := 2) P5.out rfl; have e3 := Blk.cellAt (i := 3) P5.out rfl; have e4 := Blk.cellAt (i := 4) P5.out rfl; have e5 := Blk.cellAt (i := 5) P5.out rfl; have e6 := Blk.cellAt (i := 6) P5.out rfl; have e7 := Blk.cellAt (i := 7) P5.out rfl; have e8 := Blk.cellAt (i := 8) P5.out rfl; have e9 := Blk.cellAt (i := 9) P5.out rfl; have e10 := Blk.cellAt (i := 10) P5.out rfl; have e11 := Blk.cellAt (i := 11) P5.out rfl; simp only [List.getElem_toArray, List.getElem_cons_zero, List.getElem_cons_succ] at e0 e1 e2 e3 e4 e5 e6 e7 e8 e9 e10 e11)
  refine bodyPost_ret (v := .tuple #[.agg #[.int .i64 s.size, .float .f32 s.step, .float .f32 s.lit.r, .float .f32 s.lit.g, .float .f32 s.lit.b, .slice a5 (N - 1) c5, .int .i64 s.kind, .complex .f32 s.g1 s.g2, .float .f32 0, .slice b7 (N - 1) c7, .int .i64 s.ticks, .slice l K cl], .bool true]) (by simp [results, Tryz.results77, go_sem, e0, e1, e2, e3, e4, e5, e6, e7, e8, e9, e10, e11]) rfl ⟨_, _, _, _, do_out DC.out.z DC.out.own DC.out.below hB sC DC.out.keep⟩⟩
end Go.Proofs.YtfdgijmmgllmgaaGreat
namespace Go.Proofs.YtfdgijmmgllmgaaGreat
open Go.ChangeShapes Go.WideShapes Go.ChangeAt Go.RowKit Go.Joins
set_option linter.unusedSimpArgs false
set_option linter.unusedVariables false
set_option maxRecDepth 100000
attribute [local go_sem] store_f
open Ieee Go.Lib
attribute [local go_sem] store_c
structure WaitOut (w : World) (r : Ending) (w' : World) (t : Sho) (N M K : Nat) (a b l : Option Addr) (ca cb cl : Nat) : Prop where
  ret : r = .returned (.tuple #[.agg #[.int .i64 t.size, .float .f32 t.step, .float .f32 t.lit.r, .float .f32 t.lit.g, .float .f32 t.lit.b, .slice a N ca, .int .i64 t.kind, .complex .f32 t.g1 t.g2, .float .f32 0, .slice b M cb, .int .i64 t.ticks, .slice l K cl], .bool true])
  bd : LiesZ w' b (bwCells t.bds)
  below : Below w.heap.size w w'
structure WaitS (F : FuncId) (s t : Sho) (N M K n : Nat) : Prop where
  call : ∀ (w : World) (a b l : Option Addr) (ca cb cl : Nat), LiesZ w b (bwCells s.bds) → Calls Tryz.prog F #[.agg #[.int .i64 s.size, .float .f32 s.step, .float .f32 s.lit.r, .float .f32 s.lit.g, .float .f32 s.lit.b, .slice a N ca, .int .i64 s.kind, .complex .f32 s.g1 s.g2, .float .f32 0, .slice b M cb, .int .i64 s.ticks, .slice l K cl], .int .i64 n] w fun r w' => ∃ b' cb', WaitOut w r w' t N M K a b' l ca cb' cl
/-- The show after j ticks. -/
def Sho.at_ (s : Sho) (L : Nat → List Bw) (j : Nat) : Sho := { s with bds := L j, ticks := s.ticks + j }
structure WaitSt (w : World) (s : Sho) (N M K : Nat) (a l : Option Addr) (ca cl : Nat) (wr : World) : Prop where
  run : ∃ (b : Option Addr) (cb : Nat), Blk wr w.heap.size #[.int .i64 s.size, .float .f32 s.step, .float .f32 s.lit.r, .float .f32 s.lit.g, .float .f32 s.lit.b, .slice a N ca, .int .i64 s.kind, .complex .f32 s.g1 s.g2, .float .f32 0, .slice b M cb, .int .i64 s.ticks, .slice l K cl] 34 ∧ LiesZ wr b (bwCells s.bds)
  res : Blk wr (w.heap.size + 1) #[.int .i64 0, .float .f32 0, .float .f32 0, .float .f32 0, .float .f32 0, .slice Option.none 0 0, .int .i64 0, .complex .f32 0 0, .float .f32 0, .slice Option.none 0 0, .int .i64 0, .slice Option.none 0 0] 34
  below : Below w.heap.size w wr
set_option maxHeartbeats 32000000 in
theorem waitS {s : Sho} {L : Nat → List Bw} {N M K n : Nat} (h0 : L 0 = s.bds) (hn : n ≤ 64) (t0 : 0 ≤ s.ticks) (t2 : s.ticks ≤ 300) (H : ∀ j, j < n → StepTuM 140 s.kind s.g1 s.g2 0 M (L j) (L (j + 1))) : WaitS 111 s (s.at_ L n) N M K n := ⟨fun w a b l ca cb cl hr => by
  have HH := Lib.hid H
  have e0 : s.at_ L 0 = s := by unfold Sho.at_; rw [h0]; simp
  have ST : Hid (WaitSt w (s.at_ L 0) N M K a l ca cl ((w.alloc (.cells #[.int .i64 s.size, .float .f32 s.step, .float .f32 s.lit.r, .float .f32 s.lit.g, .float .f32 s.lit.b, .slice a N ca, .int .i64 s.kind, .complex .f32 s.g1 s.g2, .float .f32 0, .slice b M cb, .int .i64 s.ticks, .slice l K cl] 34)).alloc (.cells #[.int .i64 0, .float .f32 0, .float .f32 0, .float .f32 0, .float .f32 0, .slice Option.none 0 0, .int .i64 0, .complex .f32 0 0, .float .f32 0, .slice Option.none 0 0, .int .i64 0, .slice Option.none 0 0] 34))) := by
    rw [e0]
    exact ⟨⟨b, cb, (Blk.new _ _ _).alloc, hr.alloc.alloc⟩, Blk.newAt (by simp), ((Below.refl _ _).alloc (Nat.le_refl _) _).alloc (by simp) _⟩
  clear hr H h0 e0
  go_enter Tryz.func111, Tryz.ntmps111
  go_wp2_with fail
  generalize (w.alloc (.cells #[.int .i64 s.size, .float .f32 s.step, .float .f32 s.lit.r, .float .f32 s.lit.g, .float .f32 s.lit.b, .slice a N ca, .int .i64 s.kind, .complex .f32 s.g1 s.g2, .float .f32 0, .slice b M cb, .int .i64 s.ticks, .slice l K cl] 34)).alloc (.cells #[.int .i64 0, .float .f32 0, .float .f32 0, .float .f32 0, .float .f32 0, .slice Option.none 0 0, .int .i64 0, .complex .f32 0 0, .float .f32 0, .slice Option.none 0 0, .int .i64 0, .slice Option.none 0 0] 34) = Z at *
  go_loopw [6] (fun i wr => ∃ j : Nat, j ≤ n ∧ i = .int .i64 j ∧ WaitSt w (s.at_ L j) N M K a l ca cl wr) (fun i _ => n - (intOf i).toNat)
  case atStart => exact ⟨0, by omega, rfl, ST.out⟩
  case round =>
    obtain ⟨j, hj, rfl, hst⟩ := hrel
    clear ST
    obtain ⟨⟨b3, cb3, hP, hI⟩, hres, hbel⟩ := hst
    have P3 := Lib.hid hP
    have I3 := Lib.hid hI
    have R3 := Lib.hid hres
    have G3 := Lib.hid hbel
    have lP := hP.lt
    have lR := hres.lt
    simp only [Sho.at_] at hP
    (have p0 := Blk.cellAt (i := 0) hP rfl; have p1 := Blk.cellAt (i := 1) hP rfl; have p2 := Blk.cellAt (i := 2) hP rfl; have p3 := Blk.cellAt (i := 3) hP rfl; have p4 := Blk.cellAt (i := 4) hP rfl; have p5 := Blk.cellAt (i := 5) hP rfl; have p6 := Blk.cellAt (i := 6) hP rfl; have p7 := Blk.cellAt (i := 7) hP rfl; have p8 := Blk.cellAt (i := 8) hP rfl; have p9 := Blk.cellAt (i := 9) hP rfl; have p10 := Blk.cellAt (i := 10) hP rfl; have p11 := Blk.cellAt (i := 11) hP rfl; simp only [List.getElem_toArray, List.getElem_cons_zero, List.getElem_cons_succ] at p0 p1 p2 p3 p4 p5 p6 p7 p8 p9 p10 p11)
    clear hP hI hres hbel
    by_cases hlt : j < n
    · have D := HH.out j hlt
      go_wp2_with fail
      refine (D.call _ _ _ (bwIn_of_lies I3.out)).mono ?_
      rintro r w4 ⟨b4, cb4, ⟨rfl, hI4, hb⟩⟩
      have P4 := P3.out.below hb
      have R4 := Lib.hid (R3.out.below hb)
      have I4 := Lib.hid hI4
      have G4 : Hid (Below w.heap.size w w4) := G3.out.trans (hb.mono G3.out.size)
      clear hb hI4 P3 R3 I3 G3 D p0 p1 p2 p3 p4 p5 p6 p7 p8 p9 p10 p11 lP lR
      have PA := P4.alloc (o := .cells #[.int .i64 s.kind, .complex .f32 s.g1 s.g2, .float .f32 0, .slice b4 M cb4] 31)
      have P5 := Lib.hid PA
      simp only [Sho.at_] at PA
      (have p0 := Blk.cellAt (i := 0) PA rfl; have p1 := Blk.cellAt (i := 1) PA rfl; have p2 := Blk.cellAt (i := 2) PA rfl; have p3 := Blk.cellAt (i := 3) PA rfl; have p4 := Blk.cellAt (i := 4) PA rfl; have p5 := Blk.cellAt (i := 5) PA rfl; have p6 := Blk.cellAt (i := 6) PA rfl; have p7 := Blk.cellAt (i := 7) PA rfl; have p8 := Blk.cellAt (i := 8) PA rfl; have p9 := Blk.cellAt (i := 9) PA rfl; have p10 := Blk.cellAt (i := 10) PA rfl; have p11 := Blk.cellAt (i := 11) PA rfl; simp only [List.getElem_toArray, List.getElem_cons_zero, List.getElem_cons_succ] at p0 p1 p2 p3 p4 p5 p6 p7 p8 p9 p10 p11)
      (have f0 := PA.free 0; have f1 := PA.free 1; have f2 := PA.free 2; have f3 := PA.free 3; have f4 := PA.free 4; have f5 := PA.free 5; have f6 := PA.free 6; have f7 := PA.free 7; have f8 := PA.free 8; have f9 := PA.free 9; have f10 := PA.free 10; have f11 := PA.free 11)
      have lP := PA.lt
      clear PA P4
      go_wp2_with fail
      go_roundw
      case rel =>
        refine ⟨j + 1, by omega, by go_num, ?_⟩
        rw [show s.at_ L (j + 1) = { s with bds := L (j + 1), ticks := s.ticks + ↑j + 1 } from by unfold Sho.at_; congr 1; omega]
        have hg := grownBy_set (o := 10) (v := .int .i64 (s.ticks + ↑j + 1)) (grownBy_set (o := 9) (v := .slice b4 M cb4) (grownBy_set (o := 8) (v := .float .f32 0) (grownBy_set (o := 7) (v := .complex .f32 s.g1 s.g2) (grownBy_set (o := 6) (v := .int .i64 s.kind) (grownBy_refl (w4.alloc (.cells #[.int .i64 s.kind, .complex .f32 s.g1 s.g2, .float .f32 0, .slice b4 M cb4] 31)) w.heap.size)))))
        have RS := ((((P5.out.set (i := 6) (v := .int .i64 s.kind)).set (i := 7) (v := .complex .f32 s.g1 s.g2)).set (i := 8) (v := .float .f32 0)).set (i := 9) (v := .slice b4 M cb4)).set (i := 10) (v := .int .i64 (s.ticks + ↑j + 1))
        simp only [List.setIfInBounds_toArray, List.set_cons_zero, List.set_cons_succ, Sho.at_] at RS
        refine ⟨⟨b4, cb4, RS, (lies_of_bwIn I4.out).alloc.grownAt hg p1 (fun h0 => ?_)⟩, R4.out.alloc.grown hg (by omega), ?_⟩
        · obtain ⟨u, e, hu⟩ := bw_at1 _ h0; exact ⟨u, e, hu _⟩
        · exact (((((G4.out.alloc G4.out.size _).setCell (by dsimp only; omega) _).setCell (by dsimp only; omega) _).setCell (by dsimp only; omega) _).setCell (by dsimp only; omega) _).setCell (by dsimp only; omega) _
      case measure => simp [intOf]; omega
    · have hjn : j = n := by omega
      subst hjn
      have R4 := R3.out
      (have q0 := Blk.cellAt (i := 0) R4 rfl; have q1 := Blk.cellAt (i := 1) R4 rfl; have q2 := Blk.cellAt (i := 2) R4 rfl; have q3 := Blk.cellAt (i := 3) R4 rfl; have q4 := Blk.cellAt (i := 4) R4 rfl; have q5 := Blk.cellAt (i := 5) R4 rfl; have q6 := Blk.cellAt (i := 6) R4 rfl; have q7 := Blk.cellAt (i := 7) R4 rfl; have q8 := Blk.cellAt (i := 8) R4 rfl; have q9 := Blk.cellAt (i := 9) R4 rfl; have q10 := Blk.cellAt (i := 10) R4 rfl; have q11 := Blk.cellAt (i := 11) R4 rfl; simp only [List.getElem_toArray, List.getElem_cons_zero, List.getElem_cons_succ] at q0 q1 q2 q3 q4 q5 q6 q7 q8 q9 q10 q11)
      (have h0 := R4.free 0; have h1 := R4.free 1; have h2 := R4.free 2; have h3 := R4.free 3; have h4 := R4.free 4; have h5 := R4.free 5; have h6 := R4.free 6; have h7 := R4.free 7; have h8 := R4.free 8; have h9 := R4.free 9; have h10 := R4.free 10; have h11 := R4.free 11)
      have P5 := Lib.hid (put_z (t := s.at_ L j) (x' := .slice a N ca) (y' := .slice b3 M cb3) (z' := .slice l K cl) R4)
      clear R4
      simp only [Sho.at_] at P5
      go_wp2_with fail
      (have e0 := Blk.cellAt (i := 0) P5.out rfl; have e1 := Blk.cellAt (i := 1) P5.out rfl; have e2 := Blk.cellAt (i := 2) P5.out rfl; have e3 := Blk.cellAt (i := 3) P5.out rfl; have e4 := Blk.cellAt (i := 4) P5.out rfl; have e5 := Blk.cellAt (i := 5) P5.out rfl; have e6 := Blk.cellAt (i := 6) P5.out rfl; have e7 := Blk.cellAt (i := 7) P5.out rfl; have e8 := Blk.cellAt (i := 8) P5.out rfl; have e9 := Blk.cellAt (i := 9) P5.out rfl; have e10 := Blk.cellAt (i := 10) P5.out rfl; have e11 := Blk.cellAt (i := 11) P5.out rfl; simp only [List.getElem_toArray, List.getElem_cons_zero, List.getElem_cons_succ] at e0 e1 e2 e3 e4 e5 e6 e7 e8 e9 e10 e11)
      refine bodyPost_ret (v := .tuple #[.agg #[.int .i64 (s.at_ L j).size, .float .f32 (s.at_ L j).step, .float .f32 (s.at_ L j).lit.r, .float .f32 (s.at_ L j).lit.g, .float .f32 (s.at_ L j).lit.b, .slice a N ca, .int .i64 (s.at_ L j).kind, .complex .f32 (s.at_ L j).g1 (s.at_ L j).g2, .float .f32 0, .slice b3 M cb3, .int .i64 (s.at_ L j).ticks, .slice l K cl], .bool true]) (by simp [results, Tryz.results111, go_sem, Sho.at_, e0, e1, e2, e3, e4, e5, e6, e7, e8, e9, e10, e11]) rfl ⟨b3, cb3, ⟨rfl, I3.out.grownAt grown12 q1 (fun h0 => ?_), ?_⟩⟩
      · obtain ⟨u, e, hu⟩ := bw_at1 _ h0; exact ⟨u, e, hu _⟩
      · exact below12 G3.out (by omega)⟩
end Go.Proofs.YtfdgijmmgllmgaaGreat
namespace Go.Proofs.YtfdgijmmgllmgaaGreat
open Go.ChangeShapes Go.WideShapes Go.ChangeAt Go.RowKit Go.Joins
set_option linter.unusedSimpArgs false
set_option linter.unusedVariables false
set_option maxRecDepth 100000
attribute [local go_sem] store_f
open Ieee Go.Lib
attribute [local go_sem] store_c
/-- Beads that lie somewhere do not lie where events lie. -/
theorem bd_apart {W : World} {B : Nat} {K cl : Nat} {b l : Option Addr} {L : List Bw} {E : List Evw} (hb : LiesZ W b (bwCells L)) (hl : W.ownsRow B 38 13 (.slice l K cl) K (evCells E)) (hE : E.length = K) (hK : 0 < K ∨ L = []) : ∀ g, l = some ⟨g, 0, Option.none⟩ → b = some ⟨g, 0, Option.none⟩ → L = [] := fun g e1 e2 => by
  subst e1
  subst e2
  rcases hK with hK | hK
  · rcases hb with h | ⟨g', e, h⟩
    · exact flat_nil (f := Bw.cells) (m := 2) (by omega) (fun _ => rfl) h
    · cases e
      cases L with
      | nil => rfl
      | cons x L =>
        exfalso
        have h1 := h 0 (.complex .f32 x.a1 x.a2) rfl
        cases E with
        | nil => simp at hE; omega
        | cons y E =>
          have h2 := hl.cellAt 0 (by omega)
          rw [Nat.zero_add] at h1
          rw [h1] at h2
          have h3 : (evCells (y :: E))[0]? = some (.int .i64 y.kind) := rfl
          rw [h3] at h2
          cases h2
  · exact hK
set_option maxHeartbeats 32000000 in
theorem doS_wait {s : Sho} {L : Nat → List Bw} {N M K n : Nat} (Wt : WaitS 111 s (s.at_ L n) N M K n) (hE : s.log.length = K) (hK : 0 < K ∨ L n = []) : DoS 77 s N M K ⟨7, n, 0, 0, shd0, lit0⟩ (s.at_ L n) N M true := ⟨fun w B a b l ca cb cl hr hB => by
  have D0 := Lib.hid (DoBx.start w B s N M K ⟨7, n, 0, 0, shd0, lit0⟩ a b l ca cb cl hr hB)
  clear hr
  go_enter Tryz.func77, Tryz.ntmps77
  go_wp2_with fail
  generalize ((w.alloc (.cells #[.int .i64 s.size, .float .f32 s.step, .float .f32 s.lit.r, .float .f32 s.lit.g, .float .f32 s.lit.b, .slice a N ca, .int .i64 s.kind, .complex .f32 s.g1 s.g2, .float .f32 0, .slice b M cb, .int .i64 s.ticks, .slice l K cl] 34)).alloc (.cells #[.int .i64 (⟨7, n, 0, 0, shd0, lit0⟩ : Evw).kind, .int .i64 (⟨7, n, 0, 0, shd0, lit0⟩ : Evw).n, .complex .f32 (⟨7, n, 0, 0, shd0, lit0⟩ : Evw).z1 (⟨7, n, 0, 0, shd0, lit0⟩ : Evw).z2, .complex .f32 (⟨7, n, 0, 0, shd0, lit0⟩ : Evw).s.a1 (⟨7, n, 0, 0, shd0, lit0⟩ : Evw).s.a2, .complex .f32 (⟨7, n, 0, 0, shd0, lit0⟩ : Evw).s.b1 (⟨7, n, 0, 0, shd0, lit0⟩ : Evw).s.b2, .complex .f32 (⟨7, n, 0, 0, shd0, lit0⟩ : Evw).s.c1 (⟨7, n, 0, 0, shd0, lit0⟩ : Evw).s.c2, .float .f32 (⟨7, n, 0, 0, shd0, lit0⟩ : Evw).s.r, .float .f32 (⟨7, n, 0, 0, shd0, lit0⟩ : Evw).s.g, .float .f32 (⟨7, n, 0, 0, shd0, lit0⟩ : Evw).s.b, .float .f32 (⟨7, n, 0, 0, shd0, lit0⟩ : Evw).s.k, .float .f32 (⟨7, n, 0, 0, shd0, lit0⟩ : Evw).l.r, .float .f32 (⟨7, n, 0, 0, shd0, lit0⟩ : Evw).l.g, .float .f32 (⟨7, n, 0, 0, shd0, lit0⟩ : Evw).l.b] 38)).alloc (.cells #[.int .i64 0, .float .f32 0, .float .f32 0, .float .f32 0, .float .f32 0, .slice Option.none 0 0, .int .i64 0, .complex .f32 0 0, .float .f32 0, .slice Option.none 0 0, .int .i64 0, .slice Option.none 0 0] 34) = X at *
  refine (Wt.call _ _ _ _ _ _ _ D0.out.own.in_.bd).mono ?_
  rintro r w1 ⟨b1, cb1, ⟨rfl, hbd, hb⟩⟩
  have Z1 := D0.out.z.below hb
  have S1 := Lib.hid (ownsBelow hb D0.out.own.sh)
  have L1 := Lib.hid (ownsBelow hb D0.out.own.lg)
  have I1 := Lib.hid hbd
  have sX := D0.out.size
  have s1 := hb.size
  have G1 : Hid (Below B w w1) := D0.out.below.trans (hb.mono (by omega))
  have K1 : Hid (∀ P cs, Blk w P cs 34 → Blk w1 P cs 34) := fun P cs h' => (D0.out.keep P cs h').below hb
  clear hb hbd D0 Wt
  have IB := Lib.hid (bd_apart I1.out L1.out hE hK)
  (have q0 := Blk.cellAt (i := 0) Z1 rfl; have q1 := Blk.cellAt (i := 1) Z1 rfl; have q2 := Blk.cellAt (i := 2) Z1 rfl; have q3 := Blk.cellAt (i := 3) Z1 rfl; have q4 := Blk.cellAt (i := 4) Z1 rfl; have q5 := Blk.cellAt (i := 5) Z1 rfl; have q6 := Blk.cellAt (i := 6) Z1 rfl; have q7 := Blk.cellAt (i := 7) Z1 rfl; have q8 := Blk.cellAt (i := 8) Z1 rfl; have q9 := Blk.cellAt (i := 9) Z1 rfl; have q10 := Blk.cellAt (i := 10) Z1 rfl; have q11 := Blk.cellAt (i := 11) Z1 rfl; simp only [List.getElem_toArray, List.getElem_cons_zero, List.getElem_cons_succ] at q0 q1 q2 q3 q4 q5 q6 q7 q8 q9 q10 q11)
  (have h0 := Z1.free 0; have h1 := Z1.free 1; have h2 := Z1.free 2; have h3 := Z1.free 3; have h4 := Z1.free 4; have h5 := Z1.free 5; have h6 := Z1.free 6; have h7 := Z1.free 7; have h8 := Z1.free 8; have h9 := Z1.free 9; have h10 := Z1.free 10; have h11 := Z1.free 11)
  have l8 := Z1.lt
  have P5 := Lib.hid (put_z (t := s.at_ L n) (x' := .slice a N ca) (y' := .slice b1 M cb1) (z' := .slice l K cl) Z1)
  have OS := Lib.hid (owns_other (grown12 (W := w1) (P := w.heap.size + 1 + 1) (u0 := .int .i64 (s.at_ L n).size) (u1 := .float .f32 (s.at_ L n).step) (u2 := .float .f32 (s.at_ L n).lit.r) (u3 := .float .f32 (s.at_ L n).lit.g) (u4 := .float .f32 (s.at_ L n).lit.b) (u5 := .slice a N ca) (u6 := .int .i64 (s.at_ L n).kind) (u7 := .complex .f32 (s.at_ L n).g1 (s.at_ L n).g2) (u8 := .float .f32 0) (u9 := .slice b1 M cb1) (u10 := .int .i64 (s.at_ L n).ticks) (u11 := .slice l K cl)) S1.out (owns_blk S1.out Z1 (by decide)))
  have OL := Lib.hid (owns_other (grown12 (W := w1) (P := w.heap.size + 1 + 1) (u0 := .int .i64 (s.at_ L n).size) (u1 := .float .f32 (s.at_ L n).step) (u2 := .float .f32 (s.at_ L n).lit.r) (u3 := .float .f32 (s.at_ L n).lit.g) (u4 := .float .f32 (s.at_ L n).lit.b) (u5 := .slice a N ca) (u6 := .int .i64 (s.at_ L n).kind) (u7 := .complex .f32 (s.at_ L n).g1 (s.at_ L n).g2) (u8 := .float .f32 0) (u9 := .slice b1 M cb1) (u10 := .int .i64 (s.at_ L n).ticks) (u11 := .slice l K cl)) L1.out (owns_blk L1.out Z1 (by decide)))
  clear Z1
  go_wp2_with fail
  (have e0 := Blk.cellAt (i := 0) P5.out rfl; have e1 := Blk.cellAt (i := 1) P5.out rfl; have e2 := Blk.cellAt (i := 2) P5.out rfl; have e3 := Blk.cellAt (i := 3) P5.out rfl; have e4 := Blk.cellAt (i := 4) P5.out rfl; have e5 := Blk.cellAt (i := 5) P5.out rfl; have e6 := Blk.cellAt (i := 6) P5.out rfl; have e7 := Blk.cellAt (i := 7) P5.out rfl; have e8 := Blk.cellAt (i := 8) P5.out rfl; have e9 := Blk.cellAt (i := 9) P5.out rfl; have e10 := Blk.cellAt (i := 10) P5.out rfl; have e11 := Blk.cellAt (i := 11) P5.out rfl; simp only [List.getElem_toArray, List.getElem_cons_zero, List.getElem_cons_succ] at e0 e1 e2 e3 e4 e5 e6 e7 e8 e9 e10 e11)
  refine bodyPost_ret (v := .tuple #[.agg #[.int .i64 (s.at_ L n).size, .float .f32 (s.at_ L n).step, .float .f32 (s.at_ L n).lit.r, .float .f32 (s.at_ L n).lit.g, .float .f32 (s.at_ L n).lit.b, .slice a N ca, .int .i64 (s.at_ L n).kind, .complex .f32 (s.at_ L n).g1 (s.at_ L n).g2, .float .f32 0, .slice b1 M cb1, .int .i64 (s.at_ L n).ticks, .slice l K cl], .bool true]) (by simp [results, Tryz.results77, go_sem, e0, e1, e2, e3, e4, e5, e6, e7, e8, e9, e10, e11]) rfl ⟨a, b1, ca, cb1, ⟨rfl, OS.out, I1.out.grownAt grown12 q1 (fun h0 => ?_), IB.out, OL.out, below12 G1.out (by omega), by simp; omega, fun P cs h' => (K1.out P cs h').grown grown12 (by have := h'.lt; omega)⟩⟩
  obtain ⟨u, e, hu⟩ := bw_at1 _ h0; exact ⟨u, e, hu _⟩⟩
end Go.Proofs.YtfdgijmmgllmgaaGreat
