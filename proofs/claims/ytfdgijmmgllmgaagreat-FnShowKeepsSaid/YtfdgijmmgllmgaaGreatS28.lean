/-
  Texts Tz Wa Wb, joined.
-/
import Derived.Test.YtfdgijmmgllmgaaGreatS27
import Derived.Test.YtfdgijmmgllmgaaGreatS26
namespace Go.Proofs.YtfdgijmmgllmgaaGreat
open Go.ChangeShapes Go.WideShapes Go.ChangeAt Go.RowKit Go.Joins
set_option linter.unusedSimpArgs false
set_option linter.unusedVariables false
set_option maxRecDepth 100000
attribute [local go_sem] store_f
open Ieee Go.Lib
theorem ptOf_self (p : PtW) : ptOf p.2.1.ok p.2.2.ok = p := by
  apply ptW_inj
  · show valOf F32 (cleanB p.1.1) = valOf F32 p.1.1
    exact val_cleanM p.2.1.cl.fin
  · show valOf F32 (cleanB p.1.2) = valOf F32 p.1.2
    exact val_cleanM p.2.2.cl.fin
theorem actS_pt {s : Int × Bool} (h : isSymB s.1 = true) (p : PtW) : ActS' s.1 s.2 p.1.1 p.1.2 (actP s p).1.1 (actP s p).1.2 := by
  obtain ⟨h1, h2⟩ := isSymB_iff.1 h
  have h := actS_of (t := s.1.toNat) s.2 (by omega) p.2.1.ok p.2.2.ok
  rw [Int.toNat_of_nonneg h1, ptOf_self] at h
  exact h
theorem foldS_pt {kind : Int} (h0 : 0 ≤ kind) (h3 : kind ≤ 3) (p : PtW) : FoldMS kind p.1.1 p.1.2 (actP (foldS kind p) p).1.1 (actP (foldS kind p) p).1.2 (foldS kind p).1 (foldS kind p).2 := by
  have h := foldS_raw h0 h3 p.2.1.ok p.2.2.ok
  rw [ptOf_self] at h
  exact h
theorem times_kept {x k : Nat} (hx : okB x = true) (fx : Fin32 x) (hk : Keep k) : OpS 166 x k (clM (valOf F32 x * valOf F32 k)) := by
  refine timesS (R := rungOf F32 x) fx hk.fin (by have := ok_rung hx; omega) ?_
  have h := keep_mul (x := x) hk
  rw [Int.natAbs_mul, abs_val, abs_val] at h
  exact h
theorem keptS {ls : Nat} (h : ls ≤ 1065353216) : OpS 162 1065353216 ls (keptW ls) := by
  unfold keptW
  refine minusS (R := 1065353216) (fin_of_lt (by omega)) (fin_of_lt (by omega)) (by omega) ?_
  have h1 : valOf F32 ls = (magOf F32 ls : Int) := val_of_lt (by omega)
  have h2 := magOf_le F32 h
  rw [mag_unit] at h2
  rw [val_one, h1, mag_unit]; omega
theorem move_mkS {kind : Int} {g1 g2 ls k : Nat} {b : Bw} {v z p u r : PtW} {s : Int × Bool} (J1 : JoinS b.v1 b.v2 g1 g2 v.1.1 v.1.2) (J2 : JoinS b.a1 b.a2 v.1.1 v.1.2 z.1.1 z.1.2) (F : FoldMS kind z.1.1 z.1.2 p.1.1 p.1.2 s.1 s.2)
    (P : PtS v.1.1 v.1.2) (A : ActS' s.1 s.2 v.1.1 v.1.2 u.1.1 u.1.2) (D : OpS 162 1065353216 ls k) (T1 : OpS 166 u.1.1 k r.1.1) (T2 : OpS 166 u.1.2 k r.1.2) :
    MoveS kind g1 g2 ls b (wd (p, if decide (¬ (s.1 = 0 ∧ s.2 = false)) then r else u)) := by
  by_cases h : s.1 = 0 ∧ s.2 = false
  · have e : decide (¬ (s.1 = 0 ∧ s.2 = false)) = false := by simp [h]
    rw [e]
    exact move_s (c := ⟨p.1.1, p.1.2, u.1.1, u.1.2⟩) (t := s.1) (f := s.2) ⟨J1, J2, F, P, A, D, fun _ _ => ⟨rfl, rfl⟩, fun hh => absurd h hh, fun hh => absurd h hh⟩
  · have e : decide (¬ (s.1 = 0 ∧ s.2 = false)) = true := decide_eq_true h
    rw [e]
    exact move_s (c := ⟨p.1.1, p.1.2, r.1.1, r.1.2⟩) (t := s.1) (f := s.2) ⟨J1, J2, F, P, A, D, fun h1 h2 => absurd ⟨h1, h2⟩ h, fun _ => T1, fun _ => T2⟩
theorem move_of_s {kind : Int} {g : PtW} {ls V G A : Nat} {b : PtW × PtW} (h0 : 0 ≤ kind) (h3 : kind ≤ 3) (hl : ls ≤ 1065353216) (hg : Lim G g) (hv : Lim V b.2) (ha : Lim A b.1) (h : A + (V + G) < 1600) : MoveS kind g.1.1 g.1.2 ls (wd b) (wd (bstep kind g (keptW ls) b)) := by
  have F := foldS_pt h0 h3 (sumP b.1 (sumP b.2 g))
  have F2 := foldIs h0 h3 (sumP b.1 (sumP b.2 g))
  have hk := kept_keep hl
  obtain ⟨_, hs⟩ := lim_sum hv hg (by omega)
  have J1 := join_lim hv hg (by omega)
  have J2 := join_lim ha hs h
  have hA := actS_pt (syms_range kind h0 h3 _ F2.mem) (sumP b.2 g)
  rw [bstep_eq, hits_eq]
  have hP := prodP_1 (prodP_of (p := actP (foldS kind (sumP b.1 (sumP b.2 g))) (sumP b.2 g)) hk).1
  have T1 := times_kept (actP (foldS kind (sumP b.1 (sumP b.2 g))) (sumP b.2 g)).2.1.ok (actP (foldS kind (sumP b.1 (sumP b.2 g))) (sumP b.2 g)).2.1.cl.fin hk
  have T2 := times_kept (actP (foldS kind (sumP b.1 (sumP b.2 g))) (sumP b.2 g)).2.2.ok (actP (foldS kind (sumP b.1 (sumP b.2 g))) (sumP b.2 g)).2.2.cl.fin hk
  have e1 := congrArg Prod.fst hP
  have e2 := congrArg Prod.snd hP
  dsimp only at e1 e2
  exact move_mkS (b := wd b) J1 J2 F (ptS (sumP b.2 g).2.1.ok (sumP b.2 g).2.2.ok) hA (keptS hl) (r := prodP (actP (foldS kind (sumP b.1 (sumP b.2 g))) (sumP b.2 g)) (keptW ls)) (by rw [e1]; exact T1) (by rw [e2]; exact T2)
end Go.Proofs.YtfdgijmmgllmgaaGreat
namespace Go.Proofs.YtfdgijmmgllmgaaGreat
open Go.ChangeShapes Go.WideShapes Go.ChangeAt Go.RowKit Go.Joins
set_option linter.unusedSimpArgs false
set_option linter.unusedVariables false
set_option maxRecDepth 100000
attribute [local go_sem] store_f
open Ieee Go.Lib
attribute [local go_sem] store_c run_equalIn_c run_equalIn_g
structure PartS (x : Nat) : Prop where
  call : ∀ w : World, Calls Tryz.prog 135 #[.float .f32 x] w fun e w' => e = .returned (.bool true) ∧ Below w.heap.size w w'
structure ShdS (s : Shd) : Prop where
  call : ∀ w : World, Calls Tryz.prog 106 #[.agg #[.complex .f32 s.a1 s.a2, .complex .f32 s.b1 s.b2, .complex .f32 s.c1 s.c2, .float .f32 s.r, .float .f32 s.g, .float .f32 s.b, .float .f32 s.k]] w fun e w' => e = .returned (.bool true) ∧ Below w.heap.size w w'
theorem ColB_ok {c : Lit} (h : c.Ok) : c.isB = true := parts_col (.inl h.r) (.inl h.g) (.inl h.b)
theorem colS_ok {c : Lit} (h : c.Ok) : ColS c true := by
  have k := colS_of h.w
  rwa [ColB_ok h] at k
/-- What lasts through IsShard. -/
structure ShdBox (w W : World) (s : Shd) : Prop where
  x : Blk W w.heap.size #[.complex .f32 s.a1 s.a2, .complex .f32 s.b1 s.b2, .complex .f32 s.c1 s.c2, .float .f32 s.r, .float .f32 s.g, .float .f32 s.b, .float .f32 s.k] 36
  below : Below w.heap.size w W
theorem ShdBox.mono {w W W1 : World} {s : Shd} (h : ShdBox w W s) (hb : Below W.heap.size W W1) : ShdBox w W1 s := ⟨h.x.below hb, h.below.trans (hb.mono h.below.size)⟩
set_option maxHeartbeats 8000000 in
theorem shdS_of {s : Shd} (P1 : PtS s.a1 s.a2) (P2 : PtS s.b1 s.b2) (P3 : PtS s.c1 s.c2) (C : ColS ⟨s.r, s.g, s.b⟩ true) (K : PartS s.k) : ShdS s := ⟨fun w => by
  have B0 : Hid (ShdBox w (w.alloc (.cells #[.complex .f32 s.a1 s.a2, .complex .f32 s.b1 s.b2, .complex .f32 s.c1 s.c2, .float .f32 s.r, .float .f32 s.g, .float .f32 s.b, .float .f32 s.k] 36)) s) := ⟨Blk.new _ _ _, (Below.refl _ _).alloc (Nat.le_refl _) _⟩
  go_enter Tryz.func106, Tryz.ntmps106
  go_wp2_with fail
  refine (P1.call _).mono ?_
  rintro r w1 ⟨rfl, hb⟩
  have B1 := Lib.hid (B0.out.mono hb)
  clear hb B0 P1
  have l1 := B1.out.x.lt
  have c1 := Blk.cellAt (i := 1) B1.out.x rfl
  simp only [List.getElem_toArray, List.getElem_cons_zero, List.getElem_cons_succ] at c1
  go_wp2_with fail
  refine (P2.call _).mono ?_
  rintro r w2 ⟨rfl, hb⟩
  have B2 := Lib.hid (B1.out.mono hb)
  clear hb B1 P2 c1 l1
  have l1 := B2.out.x.lt
  have c1 := Blk.cellAt (i := 2) B2.out.x rfl
  simp only [List.getElem_toArray, List.getElem_cons_zero, List.getElem_cons_succ] at c1
  go_wp2_with fail
  refine (P3.call _).mono ?_
  rintro r w3 ⟨rfl, hb⟩
  have B3 := Lib.hid (B2.out.mono hb)
  clear hb B2 P3 c1 l1
  have l1 := B3.out.x.lt
  have c3 := Blk.cellAt (i := 3) B3.out.x rfl
  have c4 := Blk.cellAt (i := 4) B3.out.x rfl
  have c5 := Blk.cellAt (i := 5) B3.out.x rfl
  simp only [List.getElem_toArray, List.getElem_cons_zero, List.getElem_cons_succ] at c3 c4 c5
  go_wp2_with fail
  refine (C.call _).mono ?_
  rintro r w4 ⟨rfl, hb⟩
  have B4 := Lib.hid (B3.out.mono hb)
  clear hb B3 C c3 c4 c5 l1
  have l1 := B4.out.x.lt
  have c1 := Blk.cellAt (i := 6) B4.out.x rfl
  simp only [List.getElem_toArray, List.getElem_cons_zero, List.getElem_cons_succ] at c1
  go_wp2_with fail
  refine (K.call _).mono ?_
  rintro r w5 ⟨rfl, hb⟩
  have B5 := Lib.hid (B4.out.mono hb)
  clear hb B4 K c1 l1
  go_wp2
  go_ret
  exact ⟨rfl, B5.out.below⟩⟩
theorem partS_ok {x : Nat} (h : x ≤ 1065353216) : PartS x := ⟨fun w => by
  have k := l2Part_s x (by omega) w
  rwa [part_share (.inl h)] at k⟩
theorem shdS {s : Shd} (h : s.Drawn) : ShdS s := shdS_of (ptS h.a1 h.a2) (ptS h.b1 h.b2) (ptS h.c1 h.c2) (colS_ok ⟨h.r, h.g, h.b⟩) (partS_ok h.k)
structure BareS (v : Value) (n z s l : Bool) : Prop where
  call : ∀ w : World, Calls Tryz.prog 108 #[v, .bool n, .bool z, .bool s, .bool l] w fun e w' => e = .returned (.bool true) ∧ Below w.heap.size w w'
theorem eq_shd0 (w : World) : (Op.equalIn 10000 36 (.agg #[.complex .f32 0 0, .complex .f32 0 0, .complex .f32 0 0, .float .f32 0, .float .f32 0, .float .f32 0, .float .f32 0]) (.agg #[.complex .f32 0 0, .complex .f32 0 0, .complex .f32 0 0, .float .f32 0, .float .f32 0, .float .f32 0, .float .f32 0])).run Tryz.prog w = .ok true w := run_eq_shd shd0_fin w
theorem eq_col0 (w : World) : (Op.equalIn 10000 26 (.agg #[.float .f32 0, .float .f32 0, .float .f32 0]) (.agg #[.float .f32 0, .float .f32 0, .float .f32 0])).run Tryz.prog w = .ok true w := run_eq_colD fin0 fin0 fin0 9998 w
set_option maxHeartbeats 8000000 in
theorem bare_ftt (k : Int) (z1 z2 : Nat) (s : Shd) : BareS (.agg #[.int .i64 (⟨k, 0, z1, z2, s, lit0⟩ : Evw).kind, .int .i64 (⟨k, 0, z1, z2, s, lit0⟩ : Evw).n, .complex .f32 (⟨k, 0, z1, z2, s, lit0⟩ : Evw).z1 (⟨k, 0, z1, z2, s, lit0⟩ : Evw).z2, .complex .f32 (⟨k, 0, z1, z2, s, lit0⟩ : Evw).s.a1 (⟨k, 0, z1, z2, s, lit0⟩ : Evw).s.a2, .complex .f32 (⟨k, 0, z1, z2, s, lit0⟩ : Evw).s.b1 (⟨k, 0, z1, z2, s, lit0⟩ : Evw).s.b2, .complex .f32 (⟨k, 0, z1, z2, s, lit0⟩ : Evw).s.c1 (⟨k, 0, z1, z2, s, lit0⟩ : Evw).s.c2, .float .f32 (⟨k, 0, z1, z2, s, lit0⟩ : Evw).s.r, .float .f32 (⟨k, 0, z1, z2, s, lit0⟩ : Evw).s.g, .float .f32 (⟨k, 0, z1, z2, s, lit0⟩ : Evw).s.b, .float .f32 (⟨k, 0, z1, z2, s, lit0⟩ : Evw).s.k, .float .f32 (⟨k, 0, z1, z2, s, lit0⟩ : Evw).l.r, .float .f32 (⟨k, 0, z1, z2, s, lit0⟩ : Evw).l.g, .float .f32 (⟨k, 0, z1, z2, s, lit0⟩ : Evw).l.b]) false true true false := ⟨fun w => by
  have op := eq_col0
  simp only [lit0]
  go_enter Tryz.func108, Tryz.ntmps108
  go_wp2
  go_ret
  exact ⟨rfl, by (repeat' (first | (with_reducible exact Below.refl _ _) | (with_reducible assumption) | (with_reducible refine Below.alloc ?_ ?_ _) | (with_reducible refine Below.drew ?_) | (with_reducible refine Below.setCell ?_ ?_ _) | (with_reducible refine Below.trans ?_ (Below.mono (by assumption) ?_)) | (with_reducible exact Nat.le_refl _) | omega | (simp only [World.size_alloc, World.size_setCell, World.size_drew]; omega) | (simp; omega) | (simp; done)))⟩⟩
set_option maxHeartbeats 8000000 in
theorem bare_tff (k n : Int) : BareS (.agg #[.int .i64 (⟨k, n, 0, 0, shd0, lit0⟩ : Evw).kind, .int .i64 (⟨k, n, 0, 0, shd0, lit0⟩ : Evw).n, .complex .f32 (⟨k, n, 0, 0, shd0, lit0⟩ : Evw).z1 (⟨k, n, 0, 0, shd0, lit0⟩ : Evw).z2, .complex .f32 (⟨k, n, 0, 0, shd0, lit0⟩ : Evw).s.a1 (⟨k, n, 0, 0, shd0, lit0⟩ : Evw).s.a2, .complex .f32 (⟨k, n, 0, 0, shd0, lit0⟩ : Evw).s.b1 (⟨k, n, 0, 0, shd0, lit0⟩ : Evw).s.b2, .complex .f32 (⟨k, n, 0, 0, shd0, lit0⟩ : Evw).s.c1 (⟨k, n, 0, 0, shd0, lit0⟩ : Evw).s.c2, .float .f32 (⟨k, n, 0, 0, shd0, lit0⟩ : Evw).s.r, .float .f32 (⟨k, n, 0, 0, shd0, lit0⟩ : Evw).s.g, .float .f32 (⟨k, n, 0, 0, shd0, lit0⟩ : Evw).s.b, .float .f32 (⟨k, n, 0, 0, shd0, lit0⟩ : Evw).s.k, .float .f32 (⟨k, n, 0, 0, shd0, lit0⟩ : Evw).l.r, .float .f32 (⟨k, n, 0, 0, shd0, lit0⟩ : Evw).l.g, .float .f32 (⟨k, n, 0, 0, shd0, lit0⟩ : Evw).l.b]) true false false false := ⟨fun w => by
  have op := eq_col0
  have op2 := eq_shd0
  have e0 := order_self fin0
  simp only [lit0, shd0]
  go_enter Tryz.func108, Tryz.ntmps108
  go_wp2
  go_ret
  exact ⟨rfl, by (repeat' (first | (with_reducible exact Below.refl _ _) | (with_reducible assumption) | (with_reducible refine Below.alloc ?_ ?_ _) | (with_reducible refine Below.drew ?_) | (with_reducible refine Below.setCell ?_ ?_ _) | (with_reducible refine Below.trans ?_ (Below.mono (by assumption) ?_)) | (with_reducible exact Nat.le_refl _) | omega | (simp only [World.size_alloc, World.size_setCell, World.size_drew]; omega) | (simp; omega) | (simp; done)))⟩⟩
set_option maxHeartbeats 8000000 in
theorem bare_fff (k : Int) (c : Lit) : BareS (.agg #[.int .i64 (⟨k, 0, 0, 0, shd0, c⟩ : Evw).kind, .int .i64 (⟨k, 0, 0, 0, shd0, c⟩ : Evw).n, .complex .f32 (⟨k, 0, 0, 0, shd0, c⟩ : Evw).z1 (⟨k, 0, 0, 0, shd0, c⟩ : Evw).z2, .complex .f32 (⟨k, 0, 0, 0, shd0, c⟩ : Evw).s.a1 (⟨k, 0, 0, 0, shd0, c⟩ : Evw).s.a2, .complex .f32 (⟨k, 0, 0, 0, shd0, c⟩ : Evw).s.b1 (⟨k, 0, 0, 0, shd0, c⟩ : Evw).s.b2, .complex .f32 (⟨k, 0, 0, 0, shd0, c⟩ : Evw).s.c1 (⟨k, 0, 0, 0, shd0, c⟩ : Evw).s.c2, .float .f32 (⟨k, 0, 0, 0, shd0, c⟩ : Evw).s.r, .float .f32 (⟨k, 0, 0, 0, shd0, c⟩ : Evw).s.g, .float .f32 (⟨k, 0, 0, 0, shd0, c⟩ : Evw).s.b, .float .f32 (⟨k, 0, 0, 0, shd0, c⟩ : Evw).s.k, .float .f32 (⟨k, 0, 0, 0, shd0, c⟩ : Evw).l.r, .float .f32 (⟨k, 0, 0, 0, shd0, c⟩ : Evw).l.g, .float .f32 (⟨k, 0, 0, 0, shd0, c⟩ : Evw).l.b]) false false false true := ⟨fun w => by
  have op2 := eq_shd0
  have e0 := order_self fin0
  simp only [shd0]
  go_enter Tryz.func108, Tryz.ntmps108
  go_wp2
  go_ret
  exact ⟨rfl, by (repeat' (first | (with_reducible exact Below.refl _ _) | (with_reducible assumption) | (with_reducible refine Below.alloc ?_ ?_ _) | (with_reducible refine Below.drew ?_) | (with_reducible refine Below.setCell ?_ ?_ _) | (with_reducible refine Below.trans ?_ (Below.mono (by assumption) ?_)) | (with_reducible exact Nat.le_refl _) | omega | (simp only [World.size_alloc, World.size_setCell, World.size_drew]; omega) | (simp; omega) | (simp; done)))⟩⟩
set_option maxHeartbeats 8000000 in
theorem bare_ftf (k : Int) (z1 z2 : Nat) : BareS (.agg #[.int .i64 (⟨k, 0, z1, z2, shd0, lit0⟩ : Evw).kind, .int .i64 (⟨k, 0, z1, z2, shd0, lit0⟩ : Evw).n, .complex .f32 (⟨k, 0, z1, z2, shd0, lit0⟩ : Evw).z1 (⟨k, 0, z1, z2, shd0, lit0⟩ : Evw).z2, .complex .f32 (⟨k, 0, z1, z2, shd0, lit0⟩ : Evw).s.a1 (⟨k, 0, z1, z2, shd0, lit0⟩ : Evw).s.a2, .complex .f32 (⟨k, 0, z1, z2, shd0, lit0⟩ : Evw).s.b1 (⟨k, 0, z1, z2, shd0, lit0⟩ : Evw).s.b2, .complex .f32 (⟨k, 0, z1, z2, shd0, lit0⟩ : Evw).s.c1 (⟨k, 0, z1, z2, shd0, lit0⟩ : Evw).s.c2, .float .f32 (⟨k, 0, z1, z2, shd0, lit0⟩ : Evw).s.r, .float .f32 (⟨k, 0, z1, z2, shd0, lit0⟩ : Evw).s.g, .float .f32 (⟨k, 0, z1, z2, shd0, lit0⟩ : Evw).s.b, .float .f32 (⟨k, 0, z1, z2, shd0, lit0⟩ : Evw).s.k, .float .f32 (⟨k, 0, z1, z2, shd0, lit0⟩ : Evw).l.r, .float .f32 (⟨k, 0, z1, z2, shd0, lit0⟩ : Evw).l.g, .float .f32 (⟨k, 0, z1, z2, shd0, lit0⟩ : Evw).l.b]) false true false false := ⟨fun w => by
  have op := eq_col0
  have op2 := eq_shd0
  simp only [shd0, lit0]
  go_enter Tryz.func108, Tryz.ntmps108
  go_wp2
  go_ret
  exact ⟨rfl, by (repeat' (first | (with_reducible exact Below.refl _ _) | (with_reducible assumption) | (with_reducible refine Below.alloc ?_ ?_ _) | (with_reducible refine Below.drew ?_) | (with_reducible refine Below.setCell ?_ ?_ _) | (with_reducible refine Below.trans ?_ (Below.mono (by assumption) ?_)) | (with_reducible exact Nat.le_refl _) | omega | (simp only [World.size_alloc, World.size_setCell, World.size_drew]; omega) | (simp; omega) | (simp; done)))⟩⟩
set_option maxHeartbeats 8000000 in
theorem bare_ttf (k n : Int) (z1 z2 : Nat) : BareS (.agg #[.int .i64 (⟨k, n, z1, z2, shd0, lit0⟩ : Evw).kind, .int .i64 (⟨k, n, z1, z2, shd0, lit0⟩ : Evw).n, .complex .f32 (⟨k, n, z1, z2, shd0, lit0⟩ : Evw).z1 (⟨k, n, z1, z2, shd0, lit0⟩ : Evw).z2, .complex .f32 (⟨k, n, z1, z2, shd0, lit0⟩ : Evw).s.a1 (⟨k, n, z1, z2, shd0, lit0⟩ : Evw).s.a2, .complex .f32 (⟨k, n, z1, z2, shd0, lit0⟩ : Evw).s.b1 (⟨k, n, z1, z2, shd0, lit0⟩ : Evw).s.b2, .complex .f32 (⟨k, n, z1, z2, shd0, lit0⟩ : Evw).s.c1 (⟨k, n, z1, z2, shd0, lit0⟩ : Evw).s.c2, .float .f32 (⟨k, n, z1, z2, shd0, lit0⟩ : Evw).s.r, .float .f32 (⟨k, n, z1, z2, shd0, lit0⟩ : Evw).s.g, .float .f32 (⟨k, n, z1, z2, shd0, lit0⟩ : Evw).s.b, .float .f32 (⟨k, n, z1, z2, shd0, lit0⟩ : Evw).s.k, .float .f32 (⟨k, n, z1, z2, shd0, lit0⟩ : Evw).l.r, .float .f32 (⟨k, n, z1, z2, shd0, lit0⟩ : Evw).l.g, .float .f32 (⟨k, n, z1, z2, shd0, lit0⟩ : Evw).l.b]) true true false false := ⟨fun w => by
  have op := eq_col0
  have op2 := eq_shd0
  simp only [shd0, lit0]
  go_enter Tryz.func108, Tryz.ntmps108
  go_wp2
  go_ret
  exact ⟨rfl, by (repeat' (first | (with_reducible exact Below.refl _ _) | (with_reducible assumption) | (with_reducible refine Below.alloc ?_ ?_ _) | (with_reducible refine Below.drew ?_) | (with_reducible refine Below.setCell ?_ ?_ _) | (with_reducible refine Below.trans ?_ (Below.mono (by assumption) ?_)) | (with_reducible exact Nat.le_refl _) | omega | (simp only [World.size_alloc, World.size_setCell, World.size_drew]; omega) | (simp; omega) | (simp; done)))⟩⟩
structure EvBox (w W : World) (e : Evw) : Prop where
  x : Blk W w.heap.size #[.int .i64 e.kind, .int .i64 e.n, .complex .f32 e.z1 e.z2, .complex .f32 e.s.a1 e.s.a2, .complex .f32 e.s.b1 e.s.b2, .complex .f32 e.s.c1 e.s.c2, .float .f32 e.s.r, .float .f32 e.s.g, .float .f32 e.s.b, .float .f32 e.s.k, .float .f32 e.l.r, .float .f32 e.l.g, .float .f32 e.l.b] 38
  below : Below w.heap.size w W
theorem EvBox.mono {w W W1 : World} {e : Evw} (h : EvBox w W e) (hb : Below W.heap.size W W1) : EvBox w W1 e := ⟨h.x.below hb, h.below.trans (hb.mono h.below.size)⟩
set_option maxHeartbeats 8000000 in
theorem evS_light {c : Lit} (C : ColS c true) : EvIs 76 ⟨3, 0, 0, 0, shd0, c⟩ true := ⟨fun w => by
  have BR := bare_fff 3 c
  have B0 : Hid (EvBox w (w.alloc (.cells #[.int .i64 (⟨3, 0, 0, 0, shd0, c⟩ : Evw).kind, .int .i64 (⟨3, 0, 0, 0, shd0, c⟩ : Evw).n, .complex .f32 (⟨3, 0, 0, 0, shd0, c⟩ : Evw).z1 (⟨3, 0, 0, 0, shd0, c⟩ : Evw).z2, .complex .f32 (⟨3, 0, 0, 0, shd0, c⟩ : Evw).s.a1 (⟨3, 0, 0, 0, shd0, c⟩ : Evw).s.a2, .complex .f32 (⟨3, 0, 0, 0, shd0, c⟩ : Evw).s.b1 (⟨3, 0, 0, 0, shd0, c⟩ : Evw).s.b2, .complex .f32 (⟨3, 0, 0, 0, shd0, c⟩ : Evw).s.c1 (⟨3, 0, 0, 0, shd0, c⟩ : Evw).s.c2, .float .f32 (⟨3, 0, 0, 0, shd0, c⟩ : Evw).s.r, .float .f32 (⟨3, 0, 0, 0, shd0, c⟩ : Evw).s.g, .float .f32 (⟨3, 0, 0, 0, shd0, c⟩ : Evw).s.b, .float .f32 (⟨3, 0, 0, 0, shd0, c⟩ : Evw).s.k, .float .f32 (⟨3, 0, 0, 0, shd0, c⟩ : Evw).l.r, .float .f32 (⟨3, 0, 0, 0, shd0, c⟩ : Evw).l.g, .float .f32 (⟨3, 0, 0, 0, shd0, c⟩ : Evw).l.b] 38)) ⟨3, 0, 0, 0, shd0, c⟩) := ⟨Blk.new _ _ _, (Below.refl _ _).alloc (Nat.le_refl _) _⟩
  go_enter Tryz.func76, Tryz.ntmps76
  go_wp2_with fail
  refine (C.call _).mono ?_
  rintro r w1 ⟨rfl, hb⟩
  have B1 := Lib.hid (B0.out.mono hb)
  clear hb B0 C
  have l1 := B1.out.x.lt
  (have c0 := Blk.cellAt (i := 0) B1.out.x rfl; have c1 := Blk.cellAt (i := 1) B1.out.x rfl; have c2 := Blk.cellAt (i := 2) B1.out.x rfl; have c3 := Blk.cellAt (i := 3) B1.out.x rfl; have c4 := Blk.cellAt (i := 4) B1.out.x rfl; have c5 := Blk.cellAt (i := 5) B1.out.x rfl; have c6 := Blk.cellAt (i := 6) B1.out.x rfl; have c7 := Blk.cellAt (i := 7) B1.out.x rfl; have c8 := Blk.cellAt (i := 8) B1.out.x rfl; have c9 := Blk.cellAt (i := 9) B1.out.x rfl; have c10 := Blk.cellAt (i := 10) B1.out.x rfl; have c11 := Blk.cellAt (i := 11) B1.out.x rfl; have c12 := Blk.cellAt (i := 12) B1.out.x rfl; simp only [List.getElem_toArray, List.getElem_cons_zero, List.getElem_cons_succ] at c0 c1 c2 c3 c4 c5 c6 c7 c8 c9 c10 c11 c12)
  go_wp2_with fail
  refine (BR.call _).mono ?_
  rintro r w2 ⟨rfl, hb⟩
  have B2 := Lib.hid (B1.out.mono hb)
  clear hb B1 BR
  go_wp2
  go_ret
  exact ⟨rfl, B2.out.below⟩⟩
end Go.Proofs.YtfdgijmmgllmgaaGreat
namespace Go.Proofs.YtfdgijmmgllmgaaGreat
open Go.ChangeShapes Go.WideShapes Go.ChangeAt Go.RowKit Go.Joins
set_option linter.unusedSimpArgs false
set_option linter.unusedVariables false
set_option maxRecDepth 100000
attribute [local go_sem] store_f
open Ieee Go.Lib
attribute [local go_sem] store_c run_equalIn_c run_equalIn_g
set_option maxHeartbeats 8000000 in
theorem evS_add {s : Shd} {z1 z2 : Nat} (S : ShdS s) (P : PtS z1 z2) : EvIs 76 ⟨1, 0, z1, z2, s, lit0⟩ true := ⟨fun w => by
  have BR := bare_ftt 1 z1 z2 s
  have B0 : Hid (EvBox w (w.alloc (.cells #[.int .i64 (⟨1, 0, z1, z2, s, lit0⟩ : Evw).kind, .int .i64 (⟨1, 0, z1, z2, s, lit0⟩ : Evw).n, .complex .f32 (⟨1, 0, z1, z2, s, lit0⟩ : Evw).z1 (⟨1, 0, z1, z2, s, lit0⟩ : Evw).z2, .complex .f32 (⟨1, 0, z1, z2, s, lit0⟩ : Evw).s.a1 (⟨1, 0, z1, z2, s, lit0⟩ : Evw).s.a2, .complex .f32 (⟨1, 0, z1, z2, s, lit0⟩ : Evw).s.b1 (⟨1, 0, z1, z2, s, lit0⟩ : Evw).s.b2, .complex .f32 (⟨1, 0, z1, z2, s, lit0⟩ : Evw).s.c1 (⟨1, 0, z1, z2, s, lit0⟩ : Evw).s.c2, .float .f32 (⟨1, 0, z1, z2, s, lit0⟩ : Evw).s.r, .float .f32 (⟨1, 0, z1, z2, s, lit0⟩ : Evw).s.g, .float .f32 (⟨1, 0, z1, z2, s, lit0⟩ : Evw).s.b, .float .f32 (⟨1, 0, z1, z2, s, lit0⟩ : Evw).s.k, .float .f32 (⟨1, 0, z1, z2, s, lit0⟩ : Evw).l.r, .float .f32 (⟨1, 0, z1, z2, s, lit0⟩ : Evw).l.g, .float .f32 (⟨1, 0, z1, z2, s, lit0⟩ : Evw).l.b] 38)) ⟨1, 0, z1, z2, s, lit0⟩) := ⟨Blk.new _ _ _, (Below.refl _ _).alloc (Nat.le_refl _) _⟩
  go_enter Tryz.func76, Tryz.ntmps76
  go_wp2_with fail
  refine (S.call _).mono ?_
  rintro r w1 ⟨rfl, hb⟩
  have B1 := Lib.hid (B0.out.mono hb)
  clear hb B0 S
  have l1 := B1.out.x.lt
  (have c0 := Blk.cellAt (i := 0) B1.out.x rfl; have c1 := Blk.cellAt (i := 1) B1.out.x rfl; have c2 := Blk.cellAt (i := 2) B1.out.x rfl; have c3 := Blk.cellAt (i := 3) B1.out.x rfl; have c4 := Blk.cellAt (i := 4) B1.out.x rfl; have c5 := Blk.cellAt (i := 5) B1.out.x rfl; have c6 := Blk.cellAt (i := 6) B1.out.x rfl; have c7 := Blk.cellAt (i := 7) B1.out.x rfl; have c8 := Blk.cellAt (i := 8) B1.out.x rfl; have c9 := Blk.cellAt (i := 9) B1.out.x rfl; have c10 := Blk.cellAt (i := 10) B1.out.x rfl; have c11 := Blk.cellAt (i := 11) B1.out.x rfl; have c12 := Blk.cellAt (i := 12) B1.out.x rfl; simp only [List.getElem_toArray, List.getElem_cons_zero, List.getElem_cons_succ] at c0 c1 c2 c3 c4 c5 c6 c7 c8 c9 c10 c11 c12)
  go_wp2_with fail
  refine (P.call _).mono ?_
  rintro r w2 ⟨rfl, hb⟩
  have B2 := Lib.hid (B1.out.mono hb)
  clear hb B1 P l1 c0 c1 c2 c3 c4 c5 c6 c7 c8 c9 c10 c11 c12
  have l1 := B2.out.x.lt
  (have c0 := Blk.cellAt (i := 0) B2.out.x rfl; have c1 := Blk.cellAt (i := 1) B2.out.x rfl; have c2 := Blk.cellAt (i := 2) B2.out.x rfl; have c3 := Blk.cellAt (i := 3) B2.out.x rfl; have c4 := Blk.cellAt (i := 4) B2.out.x rfl; have c5 := Blk.cellAt (i := 5) B2.out.x rfl; have c6 := Blk.cellAt (i := 6) B2.out.x rfl; have c7 := Blk.cellAt (i := 7) B2.out.x rfl; have c8 := Blk.cellAt (i := 8) B2.out.x rfl; have c9 := Blk.cellAt (i := 9) B2.out.x rfl; have c10 := Blk.cellAt (i := 10) B2.out.x rfl; have c11 := Blk.cellAt (i := 11) B2.out.x rfl; have c12 := Blk.cellAt (i := 12) B2.out.x rfl; simp only [List.getElem_toArray, List.getElem_cons_zero, List.getElem_cons_succ] at c0 c1 c2 c3 c4 c5 c6 c7 c8 c9 c10 c11 c12)
  go_wp2_with fail
  refine (BR.call _).mono ?_
  rintro r w3 ⟨rfl, hb⟩
  have B3 := Lib.hid (B2.out.mono hb)
  clear hb B2 BR l1 c0 c1 c2 c3 c4 c5 c6 c7 c8 c9 c10 c11 c12
  go_wp2
  go_ret
  exact ⟨rfl, B3.out.below⟩⟩
set_option maxHeartbeats 8000000 in
theorem evS_take {n : Int} (L : LieM n 0 7 true) : EvIs 76 ⟨2, n, 0, 0, shd0, lit0⟩ true := ⟨fun w => by
  have BR := bare_tff 2 n
  have B0 : Hid (EvBox w (w.alloc (.cells #[.int .i64 (⟨2, n, 0, 0, shd0, lit0⟩ : Evw).kind, .int .i64 (⟨2, n, 0, 0, shd0, lit0⟩ : Evw).n, .complex .f32 (⟨2, n, 0, 0, shd0, lit0⟩ : Evw).z1 (⟨2, n, 0, 0, shd0, lit0⟩ : Evw).z2, .complex .f32 (⟨2, n, 0, 0, shd0, lit0⟩ : Evw).s.a1 (⟨2, n, 0, 0, shd0, lit0⟩ : Evw).s.a2, .complex .f32 (⟨2, n, 0, 0, shd0, lit0⟩ : Evw).s.b1 (⟨2, n, 0, 0, shd0, lit0⟩ : Evw).s.b2, .complex .f32 (⟨2, n, 0, 0, shd0, lit0⟩ : Evw).s.c1 (⟨2, n, 0, 0, shd0, lit0⟩ : Evw).s.c2, .float .f32 (⟨2, n, 0, 0, shd0, lit0⟩ : Evw).s.r, .float .f32 (⟨2, n, 0, 0, shd0, lit0⟩ : Evw).s.g, .float .f32 (⟨2, n, 0, 0, shd0, lit0⟩ : Evw).s.b, .float .f32 (⟨2, n, 0, 0, shd0, lit0⟩ : Evw).s.k, .float .f32 (⟨2, n, 0, 0, shd0, lit0⟩ : Evw).l.r, .float .f32 (⟨2, n, 0, 0, shd0, lit0⟩ : Evw).l.g, .float .f32 (⟨2, n, 0, 0, shd0, lit0⟩ : Evw).l.b] 38)) ⟨2, n, 0, 0, shd0, lit0⟩) := ⟨Blk.new _ _ _, (Below.refl _ _).alloc (Nat.le_refl _) _⟩
  go_enter Tryz.func76, Tryz.ntmps76
  go_wp2_with fail
  refine (L.call _).mono ?_
  rintro r w1 ⟨rfl, hb⟩
  have B1 := Lib.hid (B0.out.mono hb)
  clear hb B0 L
  have l1 := B1.out.x.lt
  (have c0 := Blk.cellAt (i := 0) B1.out.x rfl; have c1 := Blk.cellAt (i := 1) B1.out.x rfl; have c2 := Blk.cellAt (i := 2) B1.out.x rfl; have c3 := Blk.cellAt (i := 3) B1.out.x rfl; have c4 := Blk.cellAt (i := 4) B1.out.x rfl; have c5 := Blk.cellAt (i := 5) B1.out.x rfl; have c6 := Blk.cellAt (i := 6) B1.out.x rfl; have c7 := Blk.cellAt (i := 7) B1.out.x rfl; have c8 := Blk.cellAt (i := 8) B1.out.x rfl; have c9 := Blk.cellAt (i := 9) B1.out.x rfl; have c10 := Blk.cellAt (i := 10) B1.out.x rfl; have c11 := Blk.cellAt (i := 11) B1.out.x rfl; have c12 := Blk.cellAt (i := 12) B1.out.x rfl; simp only [List.getElem_toArray, List.getElem_cons_zero, List.getElem_cons_succ] at c0 c1 c2 c3 c4 c5 c6 c7 c8 c9 c10 c11 c12)
  go_wp2_with fail
  refine (BR.call _).mono ?_
  rintro r w2 ⟨rfl, hb⟩
  have B2 := Lib.hid (B1.out.mono hb)
  clear hb B1 BR l1 c0 c1 c2 c3 c4 c5 c6 c7 c8 c9 c10 c11 c12
  go_wp2
  go_ret
  exact ⟨rfl, B2.out.below⟩⟩
set_option maxHeartbeats 8000000 in
theorem evS_mirrors {n : Int} (L : LieM n 0 3 true) : EvIs 76 ⟨4, n, 0, 0, shd0, lit0⟩ true := ⟨fun w => by
  have BR := bare_tff 4 n
  have B0 : Hid (EvBox w (w.alloc (.cells #[.int .i64 (⟨4, n, 0, 0, shd0, lit0⟩ : Evw).kind, .int .i64 (⟨4, n, 0, 0, shd0, lit0⟩ : Evw).n, .complex .f32 (⟨4, n, 0, 0, shd0, lit0⟩ : Evw).z1 (⟨4, n, 0, 0, shd0, lit0⟩ : Evw).z2, .complex .f32 (⟨4, n, 0, 0, shd0, lit0⟩ : Evw).s.a1 (⟨4, n, 0, 0, shd0, lit0⟩ : Evw).s.a2, .complex .f32 (⟨4, n, 0, 0, shd0, lit0⟩ : Evw).s.b1 (⟨4, n, 0, 0, shd0, lit0⟩ : Evw).s.b2, .complex .f32 (⟨4, n, 0, 0, shd0, lit0⟩ : Evw).s.c1 (⟨4, n, 0, 0, shd0, lit0⟩ : Evw).s.c2, .float .f32 (⟨4, n, 0, 0, shd0, lit0⟩ : Evw).s.r, .float .f32 (⟨4, n, 0, 0, shd0, lit0⟩ : Evw).s.g, .float .f32 (⟨4, n, 0, 0, shd0, lit0⟩ : Evw).s.b, .float .f32 (⟨4, n, 0, 0, shd0, lit0⟩ : Evw).s.k, .float .f32 (⟨4, n, 0, 0, shd0, lit0⟩ : Evw).l.r, .float .f32 (⟨4, n, 0, 0, shd0, lit0⟩ : Evw).l.g, .float .f32 (⟨4, n, 0, 0, shd0, lit0⟩ : Evw).l.b] 38)) ⟨4, n, 0, 0, shd0, lit0⟩) := ⟨Blk.new _ _ _, (Below.refl _ _).alloc (Nat.le_refl _) _⟩
  go_enter Tryz.func76, Tryz.ntmps76
  go_wp2_with fail
  refine (L.call _).mono ?_
  rintro r w1 ⟨rfl, hb⟩
  have B1 := Lib.hid (B0.out.mono hb)
  clear hb B0 L
  have l1 := B1.out.x.lt
  (have c0 := Blk.cellAt (i := 0) B1.out.x rfl; have c1 := Blk.cellAt (i := 1) B1.out.x rfl; have c2 := Blk.cellAt (i := 2) B1.out.x rfl; have c3 := Blk.cellAt (i := 3) B1.out.x rfl; have c4 := Blk.cellAt (i := 4) B1.out.x rfl; have c5 := Blk.cellAt (i := 5) B1.out.x rfl; have c6 := Blk.cellAt (i := 6) B1.out.x rfl; have c7 := Blk.cellAt (i := 7) B1.out.x rfl; have c8 := Blk.cellAt (i := 8) B1.out.x rfl; have c9 := Blk.cellAt (i := 9) B1.out.x rfl; have c10 := Blk.cellAt (i := 10) B1.out.x rfl; have c11 := Blk.cellAt (i := 11) B1.out.x rfl; have c12 := Blk.cellAt (i := 12) B1.out.x rfl; simp only [List.getElem_toArray, List.getElem_cons_zero, List.getElem_cons_succ] at c0 c1 c2 c3 c4 c5 c6 c7 c8 c9 c10 c11 c12)
  go_wp2_with fail
  refine (BR.call _).mono ?_
  rintro r w2 ⟨rfl, hb⟩
  have B2 := Lib.hid (B1.out.mono hb)
  clear hb B1 BR l1 c0 c1 c2 c3 c4 c5 c6 c7 c8 c9 c10 c11 c12
  go_wp2
  go_ret
  exact ⟨rfl, B2.out.below⟩⟩
set_option maxHeartbeats 8000000 in
theorem evS_gravity {z1 z2 : Nat} (P : PtS z1 z2) : EvIs 76 ⟨5, 0, z1, z2, shd0, lit0⟩ true := ⟨fun w => by
  have BR := bare_ftf 5 z1 z2
  have B0 : Hid (EvBox w (w.alloc (.cells #[.int .i64 (⟨5, 0, z1, z2, shd0, lit0⟩ : Evw).kind, .int .i64 (⟨5, 0, z1, z2, shd0, lit0⟩ : Evw).n, .complex .f32 (⟨5, 0, z1, z2, shd0, lit0⟩ : Evw).z1 (⟨5, 0, z1, z2, shd0, lit0⟩ : Evw).z2, .complex .f32 (⟨5, 0, z1, z2, shd0, lit0⟩ : Evw).s.a1 (⟨5, 0, z1, z2, shd0, lit0⟩ : Evw).s.a2, .complex .f32 (⟨5, 0, z1, z2, shd0, lit0⟩ : Evw).s.b1 (⟨5, 0, z1, z2, shd0, lit0⟩ : Evw).s.b2, .complex .f32 (⟨5, 0, z1, z2, shd0, lit0⟩ : Evw).s.c1 (⟨5, 0, z1, z2, shd0, lit0⟩ : Evw).s.c2, .float .f32 (⟨5, 0, z1, z2, shd0, lit0⟩ : Evw).s.r, .float .f32 (⟨5, 0, z1, z2, shd0, lit0⟩ : Evw).s.g, .float .f32 (⟨5, 0, z1, z2, shd0, lit0⟩ : Evw).s.b, .float .f32 (⟨5, 0, z1, z2, shd0, lit0⟩ : Evw).s.k, .float .f32 (⟨5, 0, z1, z2, shd0, lit0⟩ : Evw).l.r, .float .f32 (⟨5, 0, z1, z2, shd0, lit0⟩ : Evw).l.g, .float .f32 (⟨5, 0, z1, z2, shd0, lit0⟩ : Evw).l.b] 38)) ⟨5, 0, z1, z2, shd0, lit0⟩) := ⟨Blk.new _ _ _, (Below.refl _ _).alloc (Nat.le_refl _) _⟩
  go_enter Tryz.func76, Tryz.ntmps76
  go_wp2_with fail
  refine (P.call _).mono ?_
  rintro r w1 ⟨rfl, hb⟩
  have B1 := Lib.hid (B0.out.mono hb)
  clear hb B0 P
  have l1 := B1.out.x.lt
  (have c0 := Blk.cellAt (i := 0) B1.out.x rfl; have c1 := Blk.cellAt (i := 1) B1.out.x rfl; have c2 := Blk.cellAt (i := 2) B1.out.x rfl; have c3 := Blk.cellAt (i := 3) B1.out.x rfl; have c4 := Blk.cellAt (i := 4) B1.out.x rfl; have c5 := Blk.cellAt (i := 5) B1.out.x rfl; have c6 := Blk.cellAt (i := 6) B1.out.x rfl; have c7 := Blk.cellAt (i := 7) B1.out.x rfl; have c8 := Blk.cellAt (i := 8) B1.out.x rfl; have c9 := Blk.cellAt (i := 9) B1.out.x rfl; have c10 := Blk.cellAt (i := 10) B1.out.x rfl; have c11 := Blk.cellAt (i := 11) B1.out.x rfl; have c12 := Blk.cellAt (i := 12) B1.out.x rfl; simp only [List.getElem_toArray, List.getElem_cons_zero, List.getElem_cons_succ] at c0 c1 c2 c3 c4 c5 c6 c7 c8 c9 c10 c11 c12)
  go_wp2_with fail
  refine (BR.call _).mono ?_
  rintro r w2 ⟨rfl, hb⟩
  have B2 := Lib.hid (B1.out.mono hb)
  clear hb B1 BR l1 c0 c1 c2 c3 c4 c5 c6 c7 c8 c9 c10 c11 c12
  go_wp2
  go_ret
  exact ⟨rfl, B2.out.below⟩⟩
set_option maxHeartbeats 8000000 in
theorem evS_push {n : Int} {z1 z2 : Nat} (L : LieM n 0 7 true) (P : PtS z1 z2) : EvIs 76 ⟨6, n, z1, z2, shd0, lit0⟩ true := ⟨fun w => by
  have BR := bare_ttf 6 n z1 z2
  have B0 : Hid (EvBox w (w.alloc (.cells #[.int .i64 (⟨6, n, z1, z2, shd0, lit0⟩ : Evw).kind, .int .i64 (⟨6, n, z1, z2, shd0, lit0⟩ : Evw).n, .complex .f32 (⟨6, n, z1, z2, shd0, lit0⟩ : Evw).z1 (⟨6, n, z1, z2, shd0, lit0⟩ : Evw).z2, .complex .f32 (⟨6, n, z1, z2, shd0, lit0⟩ : Evw).s.a1 (⟨6, n, z1, z2, shd0, lit0⟩ : Evw).s.a2, .complex .f32 (⟨6, n, z1, z2, shd0, lit0⟩ : Evw).s.b1 (⟨6, n, z1, z2, shd0, lit0⟩ : Evw).s.b2, .complex .f32 (⟨6, n, z1, z2, shd0, lit0⟩ : Evw).s.c1 (⟨6, n, z1, z2, shd0, lit0⟩ : Evw).s.c2, .float .f32 (⟨6, n, z1, z2, shd0, lit0⟩ : Evw).s.r, .float .f32 (⟨6, n, z1, z2, shd0, lit0⟩ : Evw).s.g, .float .f32 (⟨6, n, z1, z2, shd0, lit0⟩ : Evw).s.b, .float .f32 (⟨6, n, z1, z2, shd0, lit0⟩ : Evw).s.k, .float .f32 (⟨6, n, z1, z2, shd0, lit0⟩ : Evw).l.r, .float .f32 (⟨6, n, z1, z2, shd0, lit0⟩ : Evw).l.g, .float .f32 (⟨6, n, z1, z2, shd0, lit0⟩ : Evw).l.b] 38)) ⟨6, n, z1, z2, shd0, lit0⟩) := ⟨Blk.new _ _ _, (Below.refl _ _).alloc (Nat.le_refl _) _⟩
  go_enter Tryz.func76, Tryz.ntmps76
  go_wp2_with fail
  refine (L.call _).mono ?_
  rintro r w1 ⟨rfl, hb⟩
  have B1 := Lib.hid (B0.out.mono hb)
  clear hb B0 L
  have l1 := B1.out.x.lt
  (have c0 := Blk.cellAt (i := 0) B1.out.x rfl; have c1 := Blk.cellAt (i := 1) B1.out.x rfl; have c2 := Blk.cellAt (i := 2) B1.out.x rfl; have c3 := Blk.cellAt (i := 3) B1.out.x rfl; have c4 := Blk.cellAt (i := 4) B1.out.x rfl; have c5 := Blk.cellAt (i := 5) B1.out.x rfl; have c6 := Blk.cellAt (i := 6) B1.out.x rfl; have c7 := Blk.cellAt (i := 7) B1.out.x rfl; have c8 := Blk.cellAt (i := 8) B1.out.x rfl; have c9 := Blk.cellAt (i := 9) B1.out.x rfl; have c10 := Blk.cellAt (i := 10) B1.out.x rfl; have c11 := Blk.cellAt (i := 11) B1.out.x rfl; have c12 := Blk.cellAt (i := 12) B1.out.x rfl; simp only [List.getElem_toArray, List.getElem_cons_zero, List.getElem_cons_succ] at c0 c1 c2 c3 c4 c5 c6 c7 c8 c9 c10 c11 c12)
  go_wp2_with fail
  refine (P.call _).mono ?_
  rintro r w2 ⟨rfl, hb⟩
  have B2 := Lib.hid (B1.out.mono hb)
  clear hb B1 P l1 c0 c1 c2 c3 c4 c5 c6 c7 c8 c9 c10 c11 c12
  have l1 := B2.out.x.lt
  (have c0 := Blk.cellAt (i := 0) B2.out.x rfl; have c1 := Blk.cellAt (i := 1) B2.out.x rfl; have c2 := Blk.cellAt (i := 2) B2.out.x rfl; have c3 := Blk.cellAt (i := 3) B2.out.x rfl; have c4 := Blk.cellAt (i := 4) B2.out.x rfl; have c5 := Blk.cellAt (i := 5) B2.out.x rfl; have c6 := Blk.cellAt (i := 6) B2.out.x rfl; have c7 := Blk.cellAt (i := 7) B2.out.x rfl; have c8 := Blk.cellAt (i := 8) B2.out.x rfl; have c9 := Blk.cellAt (i := 9) B2.out.x rfl; have c10 := Blk.cellAt (i := 10) B2.out.x rfl; have c11 := Blk.cellAt (i := 11) B2.out.x rfl; have c12 := Blk.cellAt (i := 12) B2.out.x rfl; simp only [List.getElem_toArray, List.getElem_cons_zero, List.getElem_cons_succ] at c0 c1 c2 c3 c4 c5 c6 c7 c8 c9 c10 c11 c12)
  go_wp2_with fail
  refine (BR.call _).mono ?_
  rintro r w3 ⟨rfl, hb⟩
  have B3 := Lib.hid (B2.out.mono hb)
  clear hb B2 BR l1 c0 c1 c2 c3 c4 c5 c6 c7 c8 c9 c10 c11 c12
  go_wp2
  go_ret
  exact ⟨rfl, B3.out.below⟩⟩
set_option maxHeartbeats 8000000 in
theorem evS_wait {n : Int} (L : LieM n 1 32 true) : EvIs 76 ⟨7, n, 0, 0, shd0, lit0⟩ true := ⟨fun w => by
  have BR := bare_tff 7 n
  have B0 : Hid (EvBox w (w.alloc (.cells #[.int .i64 (⟨7, n, 0, 0, shd0, lit0⟩ : Evw).kind, .int .i64 (⟨7, n, 0, 0, shd0, lit0⟩ : Evw).n, .complex .f32 (⟨7, n, 0, 0, shd0, lit0⟩ : Evw).z1 (⟨7, n, 0, 0, shd0, lit0⟩ : Evw).z2, .complex .f32 (⟨7, n, 0, 0, shd0, lit0⟩ : Evw).s.a1 (⟨7, n, 0, 0, shd0, lit0⟩ : Evw).s.a2, .complex .f32 (⟨7, n, 0, 0, shd0, lit0⟩ : Evw).s.b1 (⟨7, n, 0, 0, shd0, lit0⟩ : Evw).s.b2, .complex .f32 (⟨7, n, 0, 0, shd0, lit0⟩ : Evw).s.c1 (⟨7, n, 0, 0, shd0, lit0⟩ : Evw).s.c2, .float .f32 (⟨7, n, 0, 0, shd0, lit0⟩ : Evw).s.r, .float .f32 (⟨7, n, 0, 0, shd0, lit0⟩ : Evw).s.g, .float .f32 (⟨7, n, 0, 0, shd0, lit0⟩ : Evw).s.b, .float .f32 (⟨7, n, 0, 0, shd0, lit0⟩ : Evw).s.k, .float .f32 (⟨7, n, 0, 0, shd0, lit0⟩ : Evw).l.r, .float .f32 (⟨7, n, 0, 0, shd0, lit0⟩ : Evw).l.g, .float .f32 (⟨7, n, 0, 0, shd0, lit0⟩ : Evw).l.b] 38)) ⟨7, n, 0, 0, shd0, lit0⟩) := ⟨Blk.new _ _ _, (Below.refl _ _).alloc (Nat.le_refl _) _⟩
  go_enter Tryz.func76, Tryz.ntmps76
  go_wp2_with fail
  refine (L.call _).mono ?_
  rintro r w1 ⟨rfl, hb⟩
  have B1 := Lib.hid (B0.out.mono hb)
  clear hb B0 L
  have l1 := B1.out.x.lt
  (have c0 := Blk.cellAt (i := 0) B1.out.x rfl; have c1 := Blk.cellAt (i := 1) B1.out.x rfl; have c2 := Blk.cellAt (i := 2) B1.out.x rfl; have c3 := Blk.cellAt (i := 3) B1.out.x rfl; have c4 := Blk.cellAt (i := 4) B1.out.x rfl; have c5 := Blk.cellAt (i := 5) B1.out.x rfl; have c6 := Blk.cellAt (i := 6) B1.out.x rfl; have c7 := Blk.cellAt (i := 7) B1.out.x rfl; have c8 := Blk.cellAt (i := 8) B1.out.x rfl; have c9 := Blk.cellAt (i := 9) B1.out.x rfl; have c10 := Blk.cellAt (i := 10) B1.out.x rfl; have c11 := Blk.cellAt (i := 11) B1.out.x rfl; have c12 := Blk.cellAt (i := 12) B1.out.x rfl; simp only [List.getElem_toArray, List.getElem_cons_zero, List.getElem_cons_succ] at c0 c1 c2 c3 c4 c5 c6 c7 c8 c9 c10 c11 c12)
  go_wp2_with fail
  refine (BR.call _).mono ?_
  rintro r w2 ⟨rfl, hb⟩
  have B2 := Lib.hid (B1.out.mono hb)
  clear hb B1 BR l1 c0 c1 c2 c3 c4 c5 c6 c7 c8 c9 c10 c11 c12
  go_wp2
  go_ret
  exact ⟨rfl, B2.out.below⟩⟩
set_option maxHeartbeats 8000000 in
theorem evS_take_no {n : Int} (L : LieM n 0 7 false) : EvIs 76 ⟨2, n, 0, 0, shd0, lit0⟩ false := ⟨fun w => by
  have B0 : Hid (EvBox w (w.alloc (.cells #[.int .i64 (⟨2, n, 0, 0, shd0, lit0⟩ : Evw).kind, .int .i64 (⟨2, n, 0, 0, shd0, lit0⟩ : Evw).n, .complex .f32 (⟨2, n, 0, 0, shd0, lit0⟩ : Evw).z1 (⟨2, n, 0, 0, shd0, lit0⟩ : Evw).z2, .complex .f32 (⟨2, n, 0, 0, shd0, lit0⟩ : Evw).s.a1 (⟨2, n, 0, 0, shd0, lit0⟩ : Evw).s.a2, .complex .f32 (⟨2, n, 0, 0, shd0, lit0⟩ : Evw).s.b1 (⟨2, n, 0, 0, shd0, lit0⟩ : Evw).s.b2, .complex .f32 (⟨2, n, 0, 0, shd0, lit0⟩ : Evw).s.c1 (⟨2, n, 0, 0, shd0, lit0⟩ : Evw).s.c2, .float .f32 (⟨2, n, 0, 0, shd0, lit0⟩ : Evw).s.r, .float .f32 (⟨2, n, 0, 0, shd0, lit0⟩ : Evw).s.g, .float .f32 (⟨2, n, 0, 0, shd0, lit0⟩ : Evw).s.b, .float .f32 (⟨2, n, 0, 0, shd0, lit0⟩ : Evw).s.k, .float .f32 (⟨2, n, 0, 0, shd0, lit0⟩ : Evw).l.r, .float .f32 (⟨2, n, 0, 0, shd0, lit0⟩ : Evw).l.g, .float .f32 (⟨2, n, 0, 0, shd0, lit0⟩ : Evw).l.b] 38)) ⟨2, n, 0, 0, shd0, lit0⟩) := ⟨Blk.new _ _ _, (Below.refl _ _).alloc (Nat.le_refl _) _⟩
  go_enter Tryz.func76, Tryz.ntmps76
  go_wp2_with fail
  refine (L.call _).mono ?_
  rintro r w1 ⟨rfl, hb⟩
  have B1 := Lib.hid (B0.out.mono hb)
  clear hb B0 L
  have l1 := B1.out.x.lt
  (have c0 := Blk.cellAt (i := 0) B1.out.x rfl; have c1 := Blk.cellAt (i := 1) B1.out.x rfl; have c2 := Blk.cellAt (i := 2) B1.out.x rfl; have c3 := Blk.cellAt (i := 3) B1.out.x rfl; have c4 := Blk.cellAt (i := 4) B1.out.x rfl; have c5 := Blk.cellAt (i := 5) B1.out.x rfl; have c6 := Blk.cellAt (i := 6) B1.out.x rfl; have c7 := Blk.cellAt (i := 7) B1.out.x rfl; have c8 := Blk.cellAt (i := 8) B1.out.x rfl; have c9 := Blk.cellAt (i := 9) B1.out.x rfl; have c10 := Blk.cellAt (i := 10) B1.out.x rfl; have c11 := Blk.cellAt (i := 11) B1.out.x rfl; have c12 := Blk.cellAt (i := 12) B1.out.x rfl; simp only [List.getElem_toArray, List.getElem_cons_zero, List.getElem_cons_succ] at c0 c1 c2 c3 c4 c5 c6 c7 c8 c9 c10 c11 c12)
  go_wp2
  go_ret
  exact ⟨rfl, B1.out.below⟩⟩
set_option maxHeartbeats 8000000 in
theorem evS_push_no {n : Int} {z1 z2 : Nat} (L : LieM n 0 7 false) : EvIs 76 ⟨6, n, z1, z2, shd0, lit0⟩ false := ⟨fun w => by
  have B0 : Hid (EvBox w (w.alloc (.cells #[.int .i64 (⟨6, n, z1, z2, shd0, lit0⟩ : Evw).kind, .int .i64 (⟨6, n, z1, z2, shd0, lit0⟩ : Evw).n, .complex .f32 (⟨6, n, z1, z2, shd0, lit0⟩ : Evw).z1 (⟨6, n, z1, z2, shd0, lit0⟩ : Evw).z2, .complex .f32 (⟨6, n, z1, z2, shd0, lit0⟩ : Evw).s.a1 (⟨6, n, z1, z2, shd0, lit0⟩ : Evw).s.a2, .complex .f32 (⟨6, n, z1, z2, shd0, lit0⟩ : Evw).s.b1 (⟨6, n, z1, z2, shd0, lit0⟩ : Evw).s.b2, .complex .f32 (⟨6, n, z1, z2, shd0, lit0⟩ : Evw).s.c1 (⟨6, n, z1, z2, shd0, lit0⟩ : Evw).s.c2, .float .f32 (⟨6, n, z1, z2, shd0, lit0⟩ : Evw).s.r, .float .f32 (⟨6, n, z1, z2, shd0, lit0⟩ : Evw).s.g, .float .f32 (⟨6, n, z1, z2, shd0, lit0⟩ : Evw).s.b, .float .f32 (⟨6, n, z1, z2, shd0, lit0⟩ : Evw).s.k, .float .f32 (⟨6, n, z1, z2, shd0, lit0⟩ : Evw).l.r, .float .f32 (⟨6, n, z1, z2, shd0, lit0⟩ : Evw).l.g, .float .f32 (⟨6, n, z1, z2, shd0, lit0⟩ : Evw).l.b] 38)) ⟨6, n, z1, z2, shd0, lit0⟩) := ⟨Blk.new _ _ _, (Below.refl _ _).alloc (Nat.le_refl _) _⟩
  go_enter Tryz.func76, Tryz.ntmps76
  go_wp2_with fail
  refine (L.call _).mono ?_
  rintro r w1 ⟨rfl, hb⟩
  have B1 := Lib.hid (B0.out.mono hb)
  clear hb B0 L
  have l1 := B1.out.x.lt
  (have c0 := Blk.cellAt (i := 0) B1.out.x rfl; have c1 := Blk.cellAt (i := 1) B1.out.x rfl; have c2 := Blk.cellAt (i := 2) B1.out.x rfl; have c3 := Blk.cellAt (i := 3) B1.out.x rfl; have c4 := Blk.cellAt (i := 4) B1.out.x rfl; have c5 := Blk.cellAt (i := 5) B1.out.x rfl; have c6 := Blk.cellAt (i := 6) B1.out.x rfl; have c7 := Blk.cellAt (i := 7) B1.out.x rfl; have c8 := Blk.cellAt (i := 8) B1.out.x rfl; have c9 := Blk.cellAt (i := 9) B1.out.x rfl; have c10 := Blk.cellAt (i := 10) B1.out.x rfl; have c11 := Blk.cellAt (i := 11) B1.out.x rfl; have c12 := Blk.cellAt (i := 12) B1.out.x rfl; simp only [List.getElem_toArray, List.getElem_cons_zero, List.getElem_cons_succ] at c0 c1 c2 c3 c4 c5 c6 c7 c8 c9 c10 c11 c12)
  go_wp2
  go_ret
  exact ⟨rfl, B1.out.below⟩⟩
theorem evS_of {e : Ev} (h : e.Ok) : EvIs 76 e.w e.yes := by
  cases e with
  | add s z => exact evS_add (shdS h.1) (ptS z.2.1.ok z.2.2.ok)
  | take n =>
    by_cases hn : n < 8
    · rw [show (Ev.take n).yes = true from decide_eq_true hn]; exact evS_take (lieM_yes (by omega) (by omega))
    · rw [show (Ev.take n).yes = false from decide_eq_false hn]; exact evS_take_no (lieM_no (by omega))
  | light c => exact evS_light (colS_ok h)
  | mirrors k => have h' : k ≤ 3 := h; exact evS_mirrors (lieM_yes (by omega) (by omega))
  | gravity z => exact evS_gravity (ptS z.2.1.ok z.2.2.ok)
  | push n z =>
    by_cases hn : n < 8
    · rw [show (Ev.push n z).yes = true from decide_eq_true hn]; exact evS_push (lieM_yes (by omega) (by omega)) (ptS z.2.1.ok z.2.2.ok)
    · rw [show (Ev.push n z).yes = false from decide_eq_false hn]; exact evS_push_no (lieM_no (by omega))
  | wait n => have h' : 1 ≤ n ∧ n ≤ 6 := h; exact evS_wait (lieM_yes (by omega) (by omega))
structure AresS (l : List Shd) (N : Nat) : Prop where
  call : ∀ (w : World) (a : Option Addr) (cap : Nat), LiesZ w a (shCells l) → Calls Tryz.prog 104 #[.slice a N cap] w fun r w' => r = .returned (.bool true) ∧ Below w.heap.size w w'
set_option maxHeartbeats 16000000 in
theorem aresS {l : List Shd} {N : Nat} (hl : l.length = N) (hn : N ≤ 12) (hok : ∀ s ∈ l, s.Drawn) : AresS l N := ⟨fun w a cap hr => by
  have HK : Hid (∀ j, j < N → ShdS (l.getD j default)) := fun j hj => shdS (hok _ (by simp [List.getD, show j < l.length by omega]))
  have HR := Lib.hid hr
  have HL := Lib.hid hl
  have hd : decide ((N : Int) ≤ 12) = true := by simp; omega
  clear hr hok hl
  go_enter Tryz.func104, Tryz.ntmps104
  go_wp2_with fail
  go_loopw [7] (fun i wr => ∃ j : Nat, j ≤ N ∧ i = .int .i64 j ∧ Below w.heap.size w wr) (fun i _ => N - (intOf i).toNat)
  case atStart => exact ⟨0, by omega, rfl, Below.refl _ _⟩
  case round =>
    obtain ⟨j, hj, rfl, hbel⟩ := hrel
    have HB : Hid (Below w.heap.size w wr) := hbel
    have hbs := hbel.size
    by_cases hlt : j < N
    · have K := HK.out j hlt
      rcases HR.out with hnil | ⟨g, rfl, hR⟩
      · exfalso; have := HL.out; rw [sh_nil hnil] at this; simp at this; omega
      have EA := shAt (hR.below hbel) (k := j) (by have := HL.out; omega)
      rw [Nat.zero_add] at EA
      obtain ⟨e, he⟩ : ∃ e, l.getD j default = e := ⟨_, rfl⟩
      rw [he] at EA K
      obtain ⟨c0, c1, c2, c3, c4, c5, c6⟩ := EA
      clear hbel hR he
      go_wp2_with fail
      refine (K.call _).mono ?_
      rintro r w2 ⟨rfl, hb⟩
      have HB2 : Hid (Below w.heap.size w w2) := (HB.out.alloc (by omega) _).trans (hb.mono (by simp; omega))
      clear hb c0 c1 c2 c3 c4 c5 c6
      go_wp2
      go_roundw
      case rel => exact ⟨j + 1, by omega, by go_num, HB2.out⟩
      case measure => simp [intOf]; omega
    · have hjm : j = N := by omega
      subst hjm
      clear hbel
      go_wp2
      go_ret
      exact ⟨rfl, HB.out⟩⟩
end Go.Proofs.YtfdgijmmgllmgaaGreat
