/-
  Texts of this proof, joined: Ty, Tz, Ten, Tlo.
-/
import Derived.Test.YtekkgpanmccdgaaK22
import Derived.Test.YtekkgpanmccdgaaK13
import Derived.Test.YtekkgpanmccdgaaK14
import Derived.Test.YtekkgpanmccdgaaK20
/-
  A run of the model: RunTumble.
-/
namespace Go.Proofs.Ytekkgpanmccdgaa
open Go.ChangeShapes Go.WideShapes Go.ChangeAt Go.RowKit Go.Joins
set_option linter.unusedSimpArgs false
set_option linter.unusedVariables false
set_option maxRecDepth 100000
attribute [local go_sem] store_f
open Ieee Go.Lib
attribute [local go_sem] store_c

/-- What a run of the model rests on. -/
structure RunsS (kind : Int) (g1 g2 ls n N : Nat) (L : Nat → List Bw) : Prop where
  few : N ≤ 8
  less : n ≤ 64
  len : ∀ j, j ≤ n → (L j).length = N
  ist : IsT 68 kind g1 g2 ls N (L 0)
  step : ∀ j, j < n → StepM 70 kind g1 g2 ls N (L j) (L (j + 1))
set_option maxHeartbeats 32000000 in
theorem runSM {kind : Int} {g1 g2 ls n N : Nat} {L : Nat → List Bw} (K : RunsS kind g1 g2 ls n N L) : RunM 25 kind g1 g2 ls n N (L 0) (L n) := ⟨fun w a cap hr => by
  have CT := copyS (kind := kind) (g1 := g1) (g2 := g2) (ls := ls) (K.len 0 (Nat.zero_le _)) K.few
  have IT := K.ist
  have HV := Lib.hid K.step
  have hn := K.few
  have hn2 := K.less
  have HL := Lib.hid K.len
  have YR := fun w => l1In_s n 0 64 w
  rw [lieB_yes (by omega) (by omega)] at YR
  have HR := Lib.hid hr
  clear K hr
  go_enter Try.func25, Try.ntmps25
  go_wp2_with fail
  generalize hX : (w.alloc (.cells #[.int .i64 kind, .complex .f32 g1 g2, .float .f32 ls, .slice a N cap] 39)).alloc (.cells #[.int .i64 0, .complex .f32 0 0, .float .f32 0, .slice Option.none 0 0] 39) = X
  have M0 : Hid (Blk X w.heap.size #[.int .i64 kind, .complex .f32 g1 g2, .float .f32 ls, .slice a N cap] 39) := by rw [← hX]; exact (Blk.new _ _ _).alloc
  have R0 : Hid (Blk X (w.heap.size + 1) #[.int .i64 0, .complex .f32 0 0, .float .f32 0, .slice Option.none 0 0] 39) := by rw [← hX]; exact Blk.newAt (by simp)
  have B0 : Hid (BwIn X a (L 0)) := by rw [← hX]; exact HR.out.alloc.alloc
  have G0 : Hid (Below w.heap.size w X) := by rw [← hX]; show Below w.heap.size w _; (repeat' (first | (with_reducible exact Below.refl _ _) | (with_reducible assumption) | (with_reducible refine Below.alloc ?_ ?_ _) | (with_reducible refine Below.drew ?_) | (with_reducible refine Below.setCell ?_ ?_ _) | (with_reducible refine Below.trans ?_ (Below.mono (by assumption) ?_)) | (with_reducible exact Nat.le_refl _) | omega | (simp only [World.size_alloc, World.size_setCell, World.size_drew]; omega) | (simp; omega) | (simp; done)))
  have sX : w.heap.size + 2 ≤ X.heap.size := by rw [← hX]; simp
  clear hX
  refine (CT.call _ _ _ B0.out).mono ?_
  rintro e w1 ⟨a1, ct, ⟨rfl, hown, hb⟩⟩
  have M1 := Lib.hid (M0.out.below hb)
  have R1 := Lib.hid (R0.out.below hb)
  have B1 : Hid (BwIn w1 a (L 0)) := B0.out.below hb
  have HL0 := Lib.hid (HL.out 0 (Nat.zero_le _))
  have O1 : Hid (BwIn w1 a1 (L 0)) := by
    have h2 := hown
    rw [← HL0.out] at h2
    exact bwIn_of h2
  have G1 : Hid (Below w.heap.size w w1) := G0.out.trans (hb.mono (by omega))
  have s1 := hb.size
  clear hb hown M0 R0 B0 G0 CT
  (have m0 := Blk.cellAt (i := 0) M1.out rfl; have m1 := Blk.cellAt (i := 1) M1.out rfl; have m2 := Blk.cellAt (i := 2) M1.out rfl; have m3 := Blk.cellAt (i := 3) M1.out rfl; simp only [List.getElem_toArray, List.getElem_cons_zero, List.getElem_cons_succ] at m0 m1 m2 m3)
  have l0 := M1.out.lt
  go_wp2_with fail
  generalize hV : w1.alloc (.cells #[.int .i64 kind, .complex .f32 g1 g2, .float .f32 ls, .slice a1 N ct] 39) = V
  have M2 : Hid (Blk V w.heap.size #[.int .i64 kind, .complex .f32 g1 g2, .float .f32 ls, .slice a N cap] 39) := by rw [← hV]; exact M1.out.alloc
  have R2 : Hid (Blk V (w.heap.size + 1) #[.int .i64 0, .complex .f32 0 0, .float .f32 0, .slice Option.none 0 0] 39) := by rw [← hV]; exact R1.out.alloc
  have D2 : Hid (Blk V w1.heap.size #[.int .i64 kind, .complex .f32 g1 g2, .float .f32 ls, .slice a1 N ct] 39) := by rw [← hV]; exact Blk.new _ _ _
  have B2 : Hid (BwIn V a (L 0)) := by rw [← hV]; exact B1.out.alloc
  have O2 : Hid (BwIn V a1 (L 0)) := by rw [← hV]; exact O1.out.alloc
  have G2 : Hid (Below w.heap.size w V) := by rw [← hV]; exact G1.out.alloc (by omega) _
  have sV : w1.heap.size < V.heap.size := by rw [← hV]; simp
  clear hV M1 R1 B1 O1 G1 m0 m1 m2 m3 l0
  generalize w1.heap.size = tb at *
  refine (IT.call _ _ _ B2.out).mono ?_
  rintro e w2 ⟨rfl, hb⟩
  have R3 := Lib.hid (R2.out.below hb)
  have D3 := Lib.hid (D2.out.below hb)
  have O3 : Hid (BwIn w2 a1 (L 0)) := O2.out.below hb
  have G3 : Hid (Below w.heap.size w w2) := G2.out.trans (hb.mono (by omega))
  have s3 := hb.size
  clear hb M2 R2 D2 O2 B2 G2 IT
  have htb : w.heap.size + 2 ≤ tb := by omega
  go_wp2_with fail
  refine (YR _).mono ?_
  rintro e w3 ⟨rfl, hb⟩
  have R6 := Lib.hid (R3.out.below hb)
  have D6 := Lib.hid (D3.out.below hb)
  have O6 : Hid (BwIn w3 a1 (L 0)) := O3.out.below hb
  have G6 : Hid (Below w.heap.size w w3) := G3.out.trans (hb.mono (by omega))
  have s6 := hb.size
  clear hb R3 D3 O3 G3 YR
  go_wp2_with fail
  go_loopw [7] (fun i wr => ∃ (j : Nat) (aj : Option Addr) (cj : Nat), j ≤ n ∧ i = .int .i64 j ∧ Blk wr tb #[.int .i64 kind, .complex .f32 g1 g2, .float .f32 ls, .slice aj N cj] 39 ∧ BwIn wr aj (L j) ∧ w3.grownBy wr (some tb)) (fun i _ => n - (intOf i).toNat)
  case atStart => exact ⟨0, a1, ct, by omega, rfl, D6.out, O6.out, grownBy_refl _ _⟩
  case round =>
    obtain ⟨j, aj, cj, hj, rfl, hD, hO, hgr⟩ := hrel
    have GR := Lib.hid hgr
    have DR := Lib.hid hD
    have OR := Lib.hid hO
    have hsz := hgr.size
    clear hD hO hgr
    by_cases hlt : j < n
    · have KV := HV.out j hlt
      (have d0 := Blk.cellAt (i := 0) DR.out rfl; have d1 := Blk.cellAt (i := 1) DR.out rfl; have d2 := Blk.cellAt (i := 2) DR.out rfl; have d3 := Blk.cellAt (i := 3) DR.out rfl; simp only [List.getElem_toArray, List.getElem_cons_zero, List.getElem_cons_succ] at d0 d1 d2 d3)
      have l1 := DR.out.lt
      go_wp2_with fail
      refine (KV.call _ _ _ OR.out).mono ?_
      rintro e w7 ⟨a2, c2, ⟨rfl, hrow, hb⟩⟩
      have hbs := hb.size
      have DY := Lib.hid (DR.out.below hb)
      have OY := Lib.hid hrow
      have GY : Hid (w3.grownBy w7 (some tb)) := grownBy_trans GR.out ⟨hb.os, hb.tape, hb.output, hb.size, fun i hi _ => hb.block i hi⟩
      clear hb hrow DR OR GR d0 d1 d2 d3 l1 KV
      (have d0 := Blk.cellAt (i := 0) DY.out rfl; have d1 := Blk.cellAt (i := 1) DY.out rfl; have d2 := Blk.cellAt (i := 2) DY.out rfl; have d3 := Blk.cellAt (i := 3) DY.out rfl; simp only [List.getElem_toArray, List.getElem_cons_zero, List.getElem_cons_succ] at d0 d1 d2 d3)
      have P0 := Lib.hid d0
      have f0 := DY.out.free 0
      have f1 := DY.out.free 1
      have f2 := DY.out.free 2
      have f3 := DY.out.free 3
      have l1 := DY.out.lt
      have RS : Blk ((((w7.setCell ⟨tb, 0, Option.none⟩ (.int .i64 kind)).setCell ⟨tb, 1, Option.none⟩ (.complex .f32 g1 g2)).setCell ⟨tb, 2, Option.none⟩ (.float .f32 ls)).setCell ⟨tb, 3, Option.none⟩ (.slice a2 N c2)) tb #[.int .i64 kind, .complex .f32 g1 g2, .float .f32 ls, .slice a2 N c2] 39 := Blk.setAt rfl (Blk.setAt rfl (Blk.setAt rfl (Blk.setAt rfl DY.out rfl) rfl) rfl) rfl
      have HRS := Lib.hid RS
      clear RS
      go_wp2_with fail
      go_roundw
      case rel => exact ⟨j + 1, a2, c2, by omega, by go_num, HRS.out.alloc, (OY.out.grownAt grown_set4 P0.out).alloc, grown_alloc (grownBy_trans GY.out grown_set4) _⟩
      case measure => simp [intOf]; omega
    · have hjN : j = n := by omega
      subst hjN
      have R7 : Hid (Blk wr (w.heap.size + 1) #[.int .i64 0, .complex .f32 0 0, .float .f32 0, .slice Option.none 0 0] 39) := R6.out.grown GR.out (by omega)
      have G7 : Hid (Below w.heap.size w wr) := G6.out.trans (below_of_grown GR.out (by omega) (by omega))
      clear D6 R6 O6 G6 GR
      (have d0 := Blk.cellAt (i := 0) DR.out rfl; have d1 := Blk.cellAt (i := 1) DR.out rfl; have d2 := Blk.cellAt (i := 2) DR.out rfl; have d3 := Blk.cellAt (i := 3) DR.out rfl; simp only [List.getElem_toArray, List.getElem_cons_zero, List.getElem_cons_succ] at d0 d1 d2 d3)
      (have r0 := Blk.cellAt (i := 0) R7.out rfl; have r1 := Blk.cellAt (i := 1) R7.out rfl; have r2 := Blk.cellAt (i := 2) R7.out rfl; have r3 := Blk.cellAt (i := 3) R7.out rfl; simp only [List.getElem_toArray, List.getElem_cons_zero, List.getElem_cons_succ] at r0 r1 r2 r3)
      have P0 := Lib.hid r0
      have f0 := R7.out.free 0
      have f1 := R7.out.free 1
      have f2 := R7.out.free 2
      have f3 := R7.out.free 3
      have l0 := DR.out.lt
      have l1 := R7.out.lt
      have RS := ((((R7.out.set (i := 0) (v := .int .i64 kind)).set (i := 1) (v := .complex .f32 g1 g2)).set (i := 2) (v := .float .f32 ls)).set (i := 3) (v := .slice aj N cj))
      have e0 := RS.cell 0
      have e1 := RS.cell 1
      have e2 := RS.cell 2
      have e3 := RS.cell 3
      simp only [List.setIfInBounds_toArray, List.set_cons_zero, List.set_cons_succ, List.getElem?_toArray, List.getElem?_cons_zero, List.getElem?_cons_succ] at e0 e1 e2 e3
      have E0 := Lib.hid e0
      have E1 := Lib.hid e1
      have E2 := Lib.hid e2
      have E3 := Lib.hid e3
      clear RS e0 e1 e2 e3
      go_wp2_with fail
      have e0 := E0.out
      have e1 := E1.out
      have e2 := E2.out
      have e3 := E3.out
      refine bodyPost_ret (v := .tuple #[.agg #[.int .i64 kind, .complex .f32 g1 g2, .float .f32 ls, .slice aj N cj], .bool true]) (by simp [results, Try.results25, go_sem, e0, e1, e2, e3]) rfl ⟨aj, cj, ⟨rfl, OR.out.grownAt grown_set4 P0.out, ?_⟩⟩
      exact (((G7.out.setCell (by dsimp only; omega) _).setCell (by dsimp only; omega) _).setCell (by dsimp only; omega) _).setCell (by dsimp only; omega) _⟩
end Go.Proofs.Ytekkgpanmccdgaa

/-
  The model's ticks and runs, of tumbles that are drawn.
-/
namespace Go.Proofs.Ytekkgpanmccdgaa
open Go.ChangeShapes Go.WideShapes Go.ChangeAt Go.RowKit Go.Joins
set_option linter.unusedSimpArgs false
set_option linter.unusedVariables false
set_option maxRecDepth 100000
attribute [local go_sem] store_f
open Ieee Go.Lib

theorem ptOf_self (p : PtW) : ptOf p.2.1.ok p.2.2.ok = p := by
  apply ptW_inj
  · show valOf F32 (cleanB p.1.1) = valOf F32 p.1.1
    exact val_cleanM p.2.1.cl.fin
  · show valOf F32 (cleanB p.1.2) = valOf F32 p.1.2
    exact val_cleanM p.2.2.cl.fin
theorem actS_pt {s : Int × Bool} (h : isSymB s.1 = true) (p : PtW) : ActS' s.1 s.2 p.1.1 p.1.2 (actP s p).1.1 (actP s p).1.2 := by
  obtain ⟨h1, h2⟩ := isSymB_iff.1 h
  have h := actS_of (t := s.1.toNat) s.2 (by omega) p.2.1.ok p.2.2.ok
  rw [Int.toNat_of_nonneg h1, ptOf_self] at h
  exact h
theorem foldS_pt {kind : Int} (h0 : 0 ≤ kind) (h3 : kind ≤ 3) (p : PtW) : FoldMS kind p.1.1 p.1.2 (actP (foldS kind p) p).1.1 (actP (foldS kind p) p).1.2 (foldS kind p).1 (foldS kind p).2 := by
  have h := foldS_raw h0 h3 p.2.1.ok p.2.2.ok
  rw [ptOf_self] at h
  exact h
theorem times_kept {x k : Nat} (hx : okB x = true) (fx : Fin32 x) (hk : Keep k) : OpS 138 x k (clM (valOf F32 x * valOf F32 k)) := by
  refine timesS (R := rungOf F32 x) fx hk.fin (by have := ok_rung hx; omega) ?_
  have h := keep_mul (x := x) hk
  rw [Int.natAbs_mul, abs_val, abs_val] at h
  exact h
theorem keptS {ls : Nat} (h : ls ≤ 1065353216) : OpS 137 1065353216 ls (keptW ls) := by
  unfold keptW
  refine minusS (R := 1065353216) (fin_of_lt (by omega)) (fin_of_lt (by omega)) (by omega) ?_
  have h1 : valOf F32 ls = (magOf F32 ls : Int) := val_of_lt (by omega)
  have h2 := magOf_le F32 h
  rw [mag_unit] at h2
  rw [val_one, h1, mag_unit]; omega
theorem move_mkS {kind : Int} {g1 g2 ls k : Nat} {b : Bw} {v z p u r : PtW} {s : Int × Bool} (J1 : JoinS b.v1 b.v2 g1 g2 v.1.1 v.1.2) (J2 : JoinS b.a1 b.a2 v.1.1 v.1.2 z.1.1 z.1.2) (F : FoldMS kind z.1.1 z.1.2 p.1.1 p.1.2 s.1 s.2)
    (P : PtS v.1.1 v.1.2) (A : ActS' s.1 s.2 v.1.1 v.1.2 u.1.1 u.1.2) (D : OpS 137 1065353216 ls k) (T1 : OpS 138 u.1.1 k r.1.1) (T2 : OpS 138 u.1.2 k r.1.2) :
    MoveS kind g1 g2 ls b (wd (p, if decide (¬ (s.1 = 0 ∧ s.2 = false)) then r else u)) := by
  by_cases h : s.1 = 0 ∧ s.2 = false
  · have e : decide (¬ (s.1 = 0 ∧ s.2 = false)) = false := by simp [h]
    rw [e]
    exact move_s (c := ⟨p.1.1, p.1.2, u.1.1, u.1.2⟩) (t := s.1) (f := s.2) ⟨J1, J2, F, P, A, D, fun _ _ => ⟨rfl, rfl⟩, fun hh => absurd h hh, fun hh => absurd h hh⟩
  · have e : decide (¬ (s.1 = 0 ∧ s.2 = false)) = true := decide_eq_true h
    rw [e]
    exact move_s (c := ⟨p.1.1, p.1.2, r.1.1, r.1.2⟩) (t := s.1) (f := s.2) ⟨J1, J2, F, P, A, D, fun h1 h2 => absurd ⟨h1, h2⟩ h, fun _ => T1, fun _ => T2⟩
theorem move_of_s {kind : Int} {g : PtW} {ls V G A : Nat} {b : PtW × PtW} (h0 : 0 ≤ kind) (h3 : kind ≤ 3) (hl : ls ≤ 1065353216) (hg : Lim G g) (hv : Lim V b.2) (ha : Lim A b.1) (h : A + (V + G) < 1600) : MoveS kind g.1.1 g.1.2 ls (wd b) (wd (bstep kind g (keptW ls) b)) := by
  have F := foldS_pt h0 h3 (sumP b.1 (sumP b.2 g))
  have F2 := foldIs h0 h3 (sumP b.1 (sumP b.2 g))
  have hk := kept_keep hl
  obtain ⟨_, hs⟩ := lim_sum hv hg (by omega)
  have J1 := join_lim hv hg (by omega)
  have J2 := join_lim ha hs h
  have hA := actS_pt (syms_range kind h0 h3 _ F2.mem) (sumP b.2 g)
  rw [bstep_eq, hits_eq]
  have hP := prodP_1 (prodP_of (p := actP (foldS kind (sumP b.1 (sumP b.2 g))) (sumP b.2 g)) hk).1
  have T1 := times_kept (actP (foldS kind (sumP b.1 (sumP b.2 g))) (sumP b.2 g)).2.1.ok (actP (foldS kind (sumP b.1 (sumP b.2 g))) (sumP b.2 g)).2.1.cl.fin hk
  have T2 := times_kept (actP (foldS kind (sumP b.1 (sumP b.2 g))) (sumP b.2 g)).2.2.ok (actP (foldS kind (sumP b.1 (sumP b.2 g))) (sumP b.2 g)).2.2.cl.fin hk
  have e1 := congrArg Prod.fst hP
  have e2 := congrArg Prod.snd hP
  dsimp only at e1 e2
  exact move_mkS (b := wd b) J1 J2 F (ptS (sumP b.2 g).2.1.ok (sumP b.2 g).2.2.ok) hA (keptS hl) (r := prodP (actP (foldS kind (sumP b.1 (sumP b.2 g))) (sumP b.2 g)) (keptW ls)) (by rw [e1]; exact T1) (by rw [e2]; exact T2)
theorem inW_run {kind : Int} {g : PtW} {ls : Nat} {l : List (PtW × PtW)} (B : Base kind g ls l) {j : Nat} (hj : j ≤ 24) : IsT 68 kind g.1.1 g.1.2 ls l.length (runW kind g ls l j) := by
  have hl := runL_len kind g (keptW ls) l j
  refine isTS B.k0 B.k3 (ptS g.2.1.ok g.2.2.ok) (share_le B.loss) (by have := B.loss; omega) (runW_len _ _ _ _ _) B.few (fun k hk => ?_) (fun k hk => ?_)
  · unfold runW
    rw [getD_map wd _ (by omega)]
    have h := wedS B.k0 B.k3 ((runL kind g (keptW ls) j l).getD k default).1
    rw [(run_lim B j (by omega) _ (getD_mem (by omega))).2.2] at h
    exact inWS (ptS ((runL kind g (keptW ls) j l).getD k default).1.2.1.ok ((runL kind g (keptW ls) j l).getD k default).1.2.2.ok) h
  · unfold runW
    rw [getD_map wd _ (by omega)]
    exact ptS ((runL kind g (keptW ls) j l).getD k default).2.2.1.ok ((runL kind g (keptW ls) j l).getD k default).2.2.2.ok
theorem step_run {kind : Int} {g : PtW} {ls : Nat} {l : List (PtW × PtW)} (B : Base kind g ls l) {j : Nat} (hj : j < 24) : StepM 70 kind g.1.1 g.1.2 ls l.length (runW kind g ls l j) (runW kind g ls l (j + 1)) := by
  have hl := runL_len kind g (keptW ls) l j
  refine stepS ⟨B.few, runW_len _ _ _ _ _, runW_len _ _ _ _ _, inW_run B (by omega), fun k hk => ?_⟩
  obtain ⟨h1, h2, _⟩ := run_lim B j (by omega) ((runL kind g (keptW ls) j l).getD k default) (getD_mem (by omega))
  have h := move_of_s B.k0 B.k3 B.loss B.gr h1 h2 (by omega)
  unfold runW
  rw [getD_map wd _ (by omega), getD_map wd _ (by rw [runL_len]; omega)]
  show MoveS _ _ _ _ _ (wd (((runL kind g (keptW ls) j l).map (bstep kind g (keptW ls))).getD k default))
  rw [getD_map (bstep kind g (keptW ls)) _ (by omega)]
  exact h
/-- The model's run. -/
theorem runs_s {kind : Int} {g : PtW} {ls : Nat} {l : List (PtW × PtW)} (B : Base kind g ls l) {n : Nat} (h : n ≤ 24) : RunM 25 kind g.1.1 g.1.2 ls n l.length (runW kind g ls l 0) (runW kind g ls l n) :=
  runSM (L := fun j => runW kind g ls l j) ⟨B.few, by omega, fun j _ => runW_len _ _ _ _ _, inW_run B (by omega), fun j hj => step_run B (by omega)⟩
end Go.Proofs.Ytekkgpanmccdgaa

/-
  The program's energy is no less than 0.
-/
namespace Go.Proofs.Ytekkgpanmccdgaa
open Go.ChangeShapes Go.WideShapes Go.ChangeAt Go.RowKit Go.Joins
set_option linter.unusedSimpArgs false
set_option linter.unusedVariables false
set_option maxRecDepth 100000
attribute [local go_sem] store_f
open Ieee Go.Lib
attribute [local go_sem] store_c

theorem tv_nn {T : Int} (h : 0 ≤ T) : 0 ≤ valOf F32 (clT T) := by
  have hn : ¬ (T < 0) := by omega
  unfold clT
  rw [val_cw, decide_eq_false hn]
  simp only [Bool.false_eq_true, if_false]
  split <;> omega
theorem mv_nn {T : Int} (h : 0 ≤ T) : 0 ≤ valOf F32 (clM T) := by
  have hn : ¬ (T < 0) := by omega
  unfold clM
  rw [val_cw, decide_eq_false hn]
  simp only [Bool.false_eq_true, if_false]
  split <;> omega
/-- A number that is none below 0. -/
structure NonNeg (x : Nat) : Prop where
  fin : Fin32 x
  nn : 0 ≤ valOf F32 x
theorem add_nn {x y : Nat} (hx : NonNeg x) (hy : NonNeg y) : ∃ r, Op2 63 x y r ∧ NonNeg r :=
  ⟨_, sum2 hx.fin hy.fin, (clT_cl _).fin, tv_nn (by have := hx.nn; have := hy.nn; omega)⟩
theorem sq_nn {x : Nat} (hx : Fin32 x) : ∃ r, Op2 64 x x r ∧ NonNeg r :=
  ⟨_, prod2 hx hx, (clM_cl _).fin, mv_nn (by
    rcases Int.le_total 0 (valOf F32 x) with h | h
    · exact Int.mul_nonneg h h
    · exact Int.mul_nonneg_of_nonpos_of_nonpos h h)⟩
/-- What one bead adds. -/
structure EnStep (x v1 v2 : Nat) (p q s r : Nat) : Prop where
  o1 : Op2 64 v1 v1 p
  o2 : Op2 63 x p s
  o3 : Op2 64 v2 v2 q
  o4 : Op2 63 s q r
  nn : NonNeg r
theorem en_step {x v1 v2 : Nat} (hx : NonNeg x) (h1 : Fin32 v1) (h2 : Fin32 v2) : ∃ p q s r, EnStep x v1 v2 p q s r := by
  obtain ⟨p, P, hp⟩ := sq_nn h1
  obtain ⟨q, Q, hq⟩ := sq_nn h2
  obtain ⟨s, S, hs⟩ := add_nn hx hp
  obtain ⟨r, R, hr⟩ := add_nn hs hq
  exact ⟨p, q, s, r, P, S, Q, R, hr⟩
structure EnM (kind : Int) (g1 g2 ls N : Nat) (L : List Bw) : Prop where
  call : ∀ (w : World) (a : Option Addr) (cap : Nat), BwIn w a L → Calls Try.prog 26 #[.agg #[.int .i64 kind, .complex .f32 g1 g2, .float .f32 ls, .slice a N cap]] w fun e w' => ∃ x, e = .returned (.float .f32 x) ∧ NonNeg x ∧ Below w.heap.size w w'
set_option maxHeartbeats 16000000 in
theorem enM {kind : Int} {g1 g2 ls N : Nat} {L : List Bw} (IT : IsT 19 kind g1 g2 ls N L) (hL : L.length = N) (hn : N ≤ 8) (hf : ∀ k, k < N → Fin32 (L.getD k default).v1 ∧ Fin32 (L.getD k default).v2) : EnM kind g1 g2 ls N L := ⟨fun w a cap hr => by
  have HR := Lib.hid hr
  have HF := Lib.hid hf
  have HL := Lib.hid hL
  have HZ : Hid (NonNeg 0) := ⟨fin_of_lt (by omega), by rw [val_zero]; exact Int.le_refl _⟩
  clear hr hf hL
  go_enter Try.func26, Try.ntmps26
  go_wp2_with fail
  generalize hX : w.alloc (.cells #[.int .i64 kind, .complex .f32 g1 g2, .float .f32 ls, .slice a N cap] 39) = X
  have M0 : Hid (Blk X w.heap.size #[.int .i64 kind, .complex .f32 g1 g2, .float .f32 ls, .slice a N cap] 39) := by rw [← hX]; exact Blk.new _ _ _
  have B0 : Hid (BwIn X a L) := by rw [← hX]; exact HR.out.alloc
  have G0 : Hid (Below w.heap.size w X) := by rw [← hX]; show Below w.heap.size w _; (repeat' (first | (with_reducible exact Below.refl _ _) | (with_reducible assumption) | (with_reducible refine Below.alloc ?_ ?_ _) | (with_reducible refine Below.drew ?_) | (with_reducible refine Below.setCell ?_ ?_ _) | (with_reducible refine Below.trans ?_ (Below.mono (by assumption) ?_)) | (with_reducible exact Nat.le_refl _) | omega | (simp only [World.size_alloc, World.size_setCell, World.size_drew]; omega) | (simp; omega) | (simp; done)))
  clear hX HR
  refine (IT.call _ _ _ B0.out).mono ?_
  rintro e w1 ⟨rfl, hb⟩
  have M1 := Lib.hid (M0.out.below hb)
  have B1 : Hid (BwIn w1 a L) := B0.out.below hb
  have G1 : Hid (Below w.heap.size w w1) := G0.out.trans (hb.mono G0.out.size)
  clear hb M0 B0 G0 IT
  (have m0 := Blk.cellAt (i := 0) M1.out rfl; have m1 := Blk.cellAt (i := 1) M1.out rfl; have m2 := Blk.cellAt (i := 2) M1.out rfl; have m3 := Blk.cellAt (i := 3) M1.out rfl; simp only [List.getElem_toArray, List.getElem_cons_zero, List.getElem_cons_succ] at m0 m1 m2 m3)
  have lm := M1.out.lt
  go_wp2_with fail
  go_loopw [3, 15] (fun x i wr => ∃ (k : Nat) (x0 : Nat), k ≤ N ∧ i = .int .i64 k ∧ x = .float .f32 x0 ∧ NonNeg x0 ∧ Below w1.heap.size w1 wr) (fun _ i _ => N - (intOf i).toNat)
  case atStart => exact ⟨0, 0, by omega, rfl, rfl, HZ.out, Below.refl _ _⟩
  case round =>
    obtain ⟨k, x0, hk, rfl, rfl, hnn, hbel⟩ := hrel
    clear m0 m1 m2 m3 lm
    have HB := Lib.hid hbel
    have NN := Lib.hid hnn
    have hs := hbel.size
    by_cases hlt : k < N
    · obtain ⟨f1, f2⟩ := HF.out k hlt
      rcases B1.out with hnil | ⟨g, rfl, hrow⟩
      · exfalso; have := HL.out; rw [hnil] at this; simp at this; omega
      obtain ⟨c0, c1⟩ := hrow.below hbel k (by have := HL.out; omega)
      generalize L.getD k default = b at f1 f2 c0 c1
      obtain ⟨p, q, s, r, E⟩ := en_step hnn f1 f2
      have O1 := E.o1
      have O2 := E.o2
      have O3 := E.o3
      have O4 := E.o4
      have NR := Lib.hid E.nn
      clear hrow hbel hnn f1 f2 E
      go_wp2_with fail
      generalize hY : wr.alloc (.cells #[.complex .f32 b.a1 b.a2, .complex .f32 b.v1 b.v2] 54) = Y
      have Y0 : Blk Y wr.heap.size #[.complex .f32 b.a1 b.a2, .complex .f32 b.v1 b.v2] 54 := by rw [← hY]; exact Blk.new _ _ _
      have GY : Hid (Below w1.heap.size w1 Y) := by rw [← hY]; exact HB.out.alloc hs _
      have sY := Y0.lt
      (have y0 := Blk.cellAt (i := 0) Y0 rfl; have y1 := Blk.cellAt (i := 1) Y0 rfl; simp only [List.getElem_toArray, List.getElem_cons_zero, List.getElem_cons_succ] at y0 y1)
      clear hY c0 c1 Y0
      go_quiet (fail)
      go_wp2_with (first | (go_at_call 64; (first | (with_reducible refine (O1.call _).mono ?_) | (with_reducible refine (O3.call _).mono ?_)); rintro e w7 ⟨rfl, rfl⟩) | (go_at_call 63; (first | (with_reducible refine (O2.call _).mono ?_) | (with_reducible refine (O4.call _).mono ?_)); rintro e w8 ⟨rfl, rfl⟩))
      go_roundw
      case rel => exact ⟨k + 1, r, by omega, by go_num, rfl, NR.out, GY.out.trans (below_draws _ _ _)⟩
      case measure => simp [intOf]; omega
    · have hkm : k = N := by omega
      subst hkm
      clear hbel hnn
      go_wp2
      go_ret
      exact ⟨x0, rfl, NN.out, G1.out.trans (HB.out.mono G1.out.size)⟩⟩
end Go.Proofs.Ytekkgpanmccdgaa

/-
  A tumble without gravity: its speeds grow no greater; without loss they stay.
-/
namespace Go.Proofs.Ytekkgpanmccdgaa
open Go.ChangeShapes Go.WideShapes Go.ChangeAt Go.RowKit Go.Joins
set_option linter.unusedSimpArgs false
set_option linter.unusedVariables false
set_option maxRecDepth 100000
attribute [local go_sem] store_f
open Ieee Go.Lib

theorem base_g0 {kind : Int} {g : PtW} {ls : Nat} {l : List (PtW × PtW)} (B : Base kind g ls l) : Base kind zeroP ls l :=
  ⟨B.k0, B.k3, lim_zero _, B.loss, B.few, B.all⟩
theorem base_l0 {kind : Int} {g : PtW} {ls : Nat} {l : List (PtW × PtW)} (B : Base kind g ls l) : Base kind g 0 l :=
  ⟨B.k0, B.k3, B.gr, by omega, B.few, B.all⟩
theorem step_spn {kind : Int} {k A : Nat} {b : PtW × PtW} (hk : Keep k) (hv : Lim A b.2) (h : A < 1600) : spn (bstep kind zeroP k b).2 ≤ spn b.2 := by
  rw [bstep_eq]
  rw [sum_zero hv h]
  dsimp only
  split
  · exact Nat.le_trans (spn_prod hk) (Nat.le_of_eq (spn_act _ _))
  · exact Nat.le_of_eq (spn_act _ _)
theorem step_spn_eq {kind : Int} {k A : Nat} {b : PtW × PtW} (hk : valOf F32 k = 2 ^ 149) (hf : Fin32 k) (hv : Lim A b.2) (h : A < 1600) : spn (bstep kind zeroP k b).2 = spn b.2 := by
  rw [bstep_eq]
  rw [sum_zero hv h]
  dsimp only
  split
  · rw [prod_unit hk hf]; exact spn_act _ _
  · exact spn_act _ _
theorem run_spn {kind : Int} {ls : Nat} {l : List (PtW × PtW)} (B : Base kind zeroP ls l) {i : Nat} (hi : i < l.length) : ∀ j, j ≤ 24 → spn ((runL kind zeroP (keptW ls) j l).getD i default).2 ≤ spn (l.getD i default).2
  | 0, _ => Nat.le_refl _
  | j + 1, hj => by
    have hl := runL_len kind zeroP (keptW ls) l j
    obtain ⟨h1, _, _⟩ := run_lim B j (by omega) ((runL kind zeroP (keptW ls) j l).getD i default) (getD_mem (by omega))
    rw [runL, getD_map _ _ (by omega)]
    exact Nat.le_trans (step_spn (kept_keep B.loss) h1 (by omega)) (run_spn B hi j (by omega))
theorem run_spn_eq {kind : Int} {l : List (PtW × PtW)} (B : Base kind zeroP 0 l) {i : Nat} (hi : i < l.length) : ∀ j, j ≤ 24 → spn ((runL kind zeroP (keptW 0) j l).getD i default).2 = spn (l.getD i default).2
  | 0, _ => rfl
  | j + 1, hj => by
    have hl := runL_len kind zeroP (keptW 0) l j
    obtain ⟨h1, _, _⟩ := run_lim B j (by omega) ((runL kind zeroP (keptW 0) j l).getD i default) (getD_mem (by omega))
    rw [runL, getD_map _ _ (by omega)]
    rw [step_spn_eq kept_none (kept_keep B.loss).fin h1 (by omega)]
    exact run_spn_eq B hi j (by omega)

/-- What the law asks of one bead. -/
structure Spans (b e f : Bw) (s t u : Nat) : Prop where
  sb : SpanIs b.v1 b.v2 s
  se : SpanIs e.v1 e.v2 t
  sf : SpanIs f.v1 f.v2 u
  le : (FloatKind.f32.format.order t s == some .gt) = false
  eq : (FloatKind.f32.format.order u s == some .eq) = true
/-- All that the law asks. -/
structure Lo (kind : Int) (ls n N : Nat) (L0 Le Lf : List Bw) : Prop where
  r1 : RunM 17 kind 0 0 ls n N L0 Le
  rs : RunM 25 kind 0 0 ls n N L0 Le
  r2 : RunM 17 kind 0 0 0 n N L0 Lf
  en : EnM kind 0 0 ls N Le
  sp : ∀ k, k < N → ∃ s t u, Spans (L0.getD k default) (Le.getD k default) (Lf.getD k default) s t u
  l0 : L0.length = N
  le : Le.length = N
  lf : Lf.length = N
theorem lo_of {kind : Int} {g : PtW} {ls n : Nat} {l : List (PtW × PtW)} (B : Base kind g ls l) (hn : n ≤ 24) : ∃ Le Lf, Lo kind ls n l.length (l.map wd) Le Lf := by
  have B1 := base_g0 B
  have B2 := base_l0 B1
  have R1 := runM (runs_of B1 (i := 0) (n := n) (by omega))
  have R2 := runM (runs_of B2 (i := 0) (n := n) (by omega))
  have RS := runs_s B1 hn
  rw [Nat.zero_add, runW_0] at R1 R2
  rw [runW_0] at RS
  have hl1 := runL_len kind zeroP (keptW ls) l n
  have hl2 := runL_len kind zeroP (keptW 0) l n
  have en := enM (isT (tum_run B1 (j := n) hn)) (runW_len _ _ _ _ _) B.few (fun k hk => by
    unfold runW
    rw [getD_map wd _ (by omega)]
    exact ⟨((runL kind zeroP (keptW ls) n l).getD k default).2.2.1.cl.fin, ((runL kind zeroP (keptW ls) n l).getD k default).2.2.2.cl.fin⟩)
  refine ⟨runW kind zeroP ls l n, runW kind zeroP 0 l n, R1, RS, R2, en, fun k hk => ?_, by rw [List.length_map], runW_len _ _ _ _ _, runW_len _ _ _ _ _⟩
  have h1 := run_spn B1 hk n hn
  have h2 := run_spn_eq B2 hk n hn
  unfold runW
  rw [getD_map wd _ hk, getD_map wd _ (by omega), getD_map wd _ (by omega)]
  generalize (runL kind zeroP (keptW ls) n l).getD k default = e at *
  generalize (runL kind zeroP (keptW 0) n l).getD k default = f at *
  generalize l.getD k default = b at *
  obtain ⟨s, S⟩ := spanP b.2
  obtain ⟨t, T⟩ := spanP e.2
  obtain ⟨u, U⟩ := spanP f.2
  exact ⟨s, t, u, S.is, T.is, U.is, span_le T S h1, span_eq U S h2⟩
end Go.Proofs.Ytekkgpanmccdgaa
