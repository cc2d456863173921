/-
  Texts Tx Tz Wa, joined.
-/
import Derived.Test.YtfdgijmmgllmgaaGreatDoorS25
namespace Go.Proofs.YtfdgijmmgllmgaaGreatDoor
open Go.ChangeShapes Go.WideShapes Go.ChangeAt Go.RowKit Go.Joins
set_option linter.unusedSimpArgs false
set_option linter.unusedVariables false
set_option maxRecDepth 100000
attribute [local go_sem] store_f
open Ieee Go.Lib
attribute [local go_sem] store_c
structure StepsS (kind : Int) (g1 g2 ls N : Nat) (L M : List Bw) : Prop where
  few : N ≤ 8
  len : L.length = N
  len' : M.length = N
  ist : IsT 99 kind g1 g2 ls N L
  move : ∀ k, k < N → MoveS kind g1 g2 ls (L.getD k default) (M.getD k default)
structure StepTuM (F : FuncId) (kind : Int) (g1 g2 ls N : Nat) (L M : List Bw) : Prop where
  call : ∀ (w : World) (a : Option Addr) (cap : Nat), BwIn w a L → Calls Tryz.prog F #[.agg #[.int .i64 kind, .complex .f32 g1 g2, .float .f32 ls, .slice a N cap]] w fun e w' => ∃ a' c', RunOut w e w' kind g1 g2 ls N M a' c'
set_option maxHeartbeats 32000000 in
theorem stepS {kind : Int} {g1 g2 ls N : Nat} {L M : List Bw} (K : StepsS kind g1 g2 ls N L M) : StepTuM 138 kind g1 g2 ls N L M := ⟨fun w a cap hr => by
  have CT := copyS (kind := kind) (g1 := g1) (g2 := g2) (ls := ls) K.len K.few
  have IT := K.ist
  have HV := Lib.hid K.move
  have hn := K.few
  have HL := Lib.hid K.len
  have HM := Lib.hid K.len'
  have HR := Lib.hid hr
  have HGA : Hid (0 < N → ∃ g, a = some ⟨g, 0, Option.none⟩ ∧ g < w.heap.size) := fun h => by
    rcases hr with h0 | ⟨g, e, h1⟩
    · exfalso; have := K.len; rw [h0] at this; simp at this; omega
    · exact ⟨g, e, cell_lt (h1 0 (by have := K.len; omega)).1⟩
  clear K hr
  go_enter Tryz.func138, Tryz.ntmps138
  go_wp2_with fail
  generalize hX : (w.alloc (.cells #[.int .i64 kind, .complex .f32 g1 g2, .float .f32 ls, .slice a N cap] 31)).alloc (.cells #[.int .i64 0, .complex .f32 0 0, .float .f32 0, .slice Option.none 0 0] 31) = X
  have M0 : Hid (Blk X w.heap.size #[.int .i64 kind, .complex .f32 g1 g2, .float .f32 ls, .slice a N cap] 31) := by rw [← hX]; exact (Blk.new _ _ _).alloc
  have R0 : Hid (Blk X (w.heap.size + 1) #[.int .i64 0, .complex .f32 0 0, .float .f32 0, .slice Option.none 0 0] 31) := by rw [← hX]; exact Blk.newAt (by simp)
  have B0 : Hid (BwIn X a L) := by rw [← hX]; exact HR.out.alloc.alloc
  have G0 : Hid (Below w.heap.size w X) := by rw [← hX]; show Below w.heap.size w _; (repeat' (first | (with_reducible exact Below.refl _ _) | (with_reducible assumption) | (with_reducible refine Below.alloc ?_ ?_ _) | (with_reducible refine Below.drew ?_) | (with_reducible refine Below.setCell ?_ ?_ _) | (with_reducible refine Below.trans ?_ (Below.mono (by assumption) ?_)) | (with_reducible exact Nat.le_refl _) | omega | (simp only [World.size_alloc, World.size_setCell, World.size_drew]; omega) | (simp; omega) | (simp; done)))
  have sX : w.heap.size + 2 ≤ X.heap.size := by rw [← hX]; simp
  clear hX
  refine (CT.call _ _ _ B0.out).mono ?_
  rintro e w1 ⟨a1, ct, ⟨rfl, hown, hb⟩⟩
  have M1 := Lib.hid (M0.out.below hb)
  have R1 := Lib.hid (R0.out.below hb)
  have B1 : Hid (BwIn w1 a L) := B0.out.below hb
  have G1 : Hid (Below w.heap.size w w1) := G0.out.trans (hb.mono (by omega))
  obtain ⟨gt, hgt⟩ : ∃ gt : Nat, (X.heap.size ≤ gt ∧ gt ≠ w1.heap.size ∧ (0 < N → a1 = some ⟨gt, 0, Option.none⟩ ∧ BwBlk w1 gt N (fun k => L.getD k default))) := by
    rcases ownsRow_forms hown with ⟨e, h0⟩ | ⟨g, c', e⟩
    · refine ⟨w1.heap.size + 1, by have := hb.size; omega, by omega, fun hN => ?_⟩
      exfalso
      omega
    · cases e
      exact ⟨g, (hown.lt _ rfl).1, Nat.ne_of_lt (hown.lt _ rfl).2, fun _ => ⟨rfl, bwBlk_of hown HL.out⟩⟩
  obtain ⟨hgX, hgne, hgN⟩ := hgt
  have GN := Lib.hid hgN
  have s1 := hb.size
  clear hb hown M0 R0 B0 G0 CT hgN
  (obtain ⟨m0, m1, m2, m3⟩ := blk4 (M1.out))
  have l0 := M1.out.lt
  go_wp2_with fail
  generalize hV : w1.alloc (.cells #[.int .i64 kind, .complex .f32 g1 g2, .float .f32 ls, .slice a1 N ct] 31) = V
  have M2 : Hid (Blk V w.heap.size #[.int .i64 kind, .complex .f32 g1 g2, .float .f32 ls, .slice a N cap] 31) := by rw [← hV]; exact M1.out.alloc
  have R2 : Hid (Blk V (w.heap.size + 1) #[.int .i64 0, .complex .f32 0 0, .float .f32 0, .slice Option.none 0 0] 31) := by rw [← hV]; exact R1.out.alloc
  have D2 : Hid (Blk V w1.heap.size #[.int .i64 kind, .complex .f32 g1 g2, .float .f32 ls, .slice a1 N ct] 31) := by rw [← hV]; exact Blk.new _ _ _
  have B2 : Hid (BwIn V a L) := by rw [← hV]; exact B1.out.alloc
  have G2 : Hid (Below w.heap.size w V) := by rw [← hV]; exact G1.out.alloc (by omega) _
  have N2 : Hid (0 < N → a1 = some ⟨gt, 0, Option.none⟩ ∧ BwBlk V gt N (fun k => L.getD k default) ∧ gt < w1.heap.size) := fun h => by
    have h1 := (GN.out h).2
    rw [← hV]; exact ⟨(GN.out h).1, h1.alloc, h1.lt⟩
  have sV : w1.heap.size < V.heap.size := by rw [← hV]; simp
  clear hV M1 R1 B1 G1 GN m0 m1 m2 m3 l0
  generalize w1.heap.size = tb at *
  refine (IT.call _ _ _ B2.out).mono ?_
  rintro e w3 ⟨rfl, hb⟩
  have M6 := Lib.hid (M2.out.below hb)
  have R6 := Lib.hid (R2.out.below hb)
  have D6 := Lib.hid (D2.out.below hb)
  have B6 : Hid (BwIn w3 a L) := B2.out.below hb
  have N6 : Hid (0 < N → a1 = some ⟨gt, 0, Option.none⟩ ∧ BwBlk w3 gt N (fun k => L.getD k default) ∧ gt < tb) := fun h => by
    obtain ⟨h1, h2, h3⟩ := N2.out h
    exact ⟨h1, h2.below hb, h3⟩
  have G6 : Hid (Below w.heap.size w w3) := G2.out.trans (hb.mono (by omega))
  have s3 := hb.size
  clear hb M2 R2 D2 B2 N2 G2 IT
  have htb : w.heap.size + 2 ≤ tb := by omega
  (obtain ⟨m0, m1, m2, m3⟩ := blk4 (M6.out))
  have l1 := M6.out.lt
  go_wp2_with fail
  go_loopw [18] (fun i wr => ∃ j : Nat, j ≤ N ∧ i = .int .i64 j ∧ (0 < N → BwBlk wr gt N (fun k => if k < j then M.getD k default else L.getD k default)) ∧ w3.grownBy wr (some gt)) (fun i _ => N - (intOf i).toNat)
  case atStart => exact ⟨0, by omega, rfl, fun h => by simpa using (N6.out h).2.1, grownBy_refl _ _⟩
  case round =>
    obtain ⟨j, hj, rfl, hblk, hgr⟩ := hrel
    have GR := Lib.hid hgr
    have BK := Lib.hid hblk
    have hsz := hgr.size
    clear hblk hgr m0 m1 m2 m3 l1
    by_cases hlt : j < N
    · have hN0 : 0 < N := by omega
      obtain ⟨rfl, _, hgtb⟩ := N6.out hN0
      obtain ⟨gm, rfl, hgm⟩ := HGA.out hN0
      have KV := HV.out j hlt
      have hrow : BwRow wr gm L := by
        rcases B6.out with h | ⟨g, e, h⟩
        · exfalso; have := HL.out; rw [h] at this; simp at this; omega
        · cases e
          exact h.grown GR.out (fun e => by cases e; omega)
      obtain ⟨c0, c1⟩ := hrow j (by have := HL.out; omega)
      have MR := M6.out.grown GR.out (by omega)
      have DR := D6.out.grown GR.out (by omega)
      have BJ := BK.out hN0
      generalize hb0 : L.getD j default = b at KV c0 c1
      generalize hc0 : M.getD j default = c at KV
      have HCC := Lib.hid hc0
      clear hb0 hc0 hrow
      have l1 : w.heap.size < wr.heap.size := by omega
      have HMR := Lib.hid MR
      have HDR := Lib.hid DR
      have HBJ := Lib.hid BJ
      have MA := MR.alloc (o := .cells #[.complex .f32 b.a1 b.a2, .complex .f32 b.v1 b.v2] 74)
      (obtain ⟨m0, m1, m2, m3⟩ := blk4 (MA))
      clear MA MR DR BJ
      go_wp2_with fail
      refine (KV.call _ _ _ _).mono ?_
      rintro e w7 ⟨rfl, hb⟩
      have hbs := hb.size
      simp only [World.size_alloc] at hbs
      have DY : Blk w7 tb #[.int .i64 kind, .complex .f32 g1 g2, .float .f32 ls, .slice (some ⟨gt, 0, Option.none⟩) N ct] 31 := HDR.out.alloc.below hb
      have BY : BwBlk w7 gt N (fun k => if k < j then M.getD k default else L.getD k default) := HBJ.out.alloc.below hb
      have GY : Hid (w3.grownBy w7 (some gt)) := grownBy_trans (grown_alloc GR.out _) ⟨hb.os, hb.tape, hb.output, hb.size, fun i hi _ => hb.block i hi⟩
      have HBY := Lib.hid BY
      have d3 := Blk.cellAt (i := 3) DY rfl
      simp only [List.getElem_toArray, List.getElem_cons_zero, List.getElem_cons_succ] at d3
      obtain ⟨e0, e1⟩ := BY.cell hlt
      have z0 := BY.free (j * 2)
      have z1 := BY.free (j * 2 + 1)
      simp only [Nat.lt_irrefl, if_false] at e0 e1
      generalize L.getD j default = bb at e0 e1
      have l2 : gt < w7.heap.size := by omega
      have l3 : tb < w7.heap.size := by omega
      clear hb m0 m1 m2 m3 HMR HDR HBJ c0 c1 DY BY
      have BN : BwBlk ((w7.setCell ⟨gt, j * 2, Option.none⟩ (.complex .f32 c.a1 c.a2)).setCell ⟨gt, j * 2 + 1, Option.none⟩ (.complex .f32 c.v1 c.v2)) gt N (fun k => if k < j + 1 then M.getD k default else L.getD k default) := HBY.out.set hlt (fun i _ => by
        have hcc := HCC.out
        by_cases e : i = j
        · subst e
          rw [if_pos rfl]
          show (if i < i + 1 then M.getD i default else L.getD i default) = c
          rw [if_pos (Nat.lt_succ_self _)]; exact hcc
        · rw [if_neg e]
          show (if i < j + 1 then M.getD i default else L.getD i default) = if i < j then M.getD i default else L.getD i default
          by_cases e2 : i < j
          · rw [if_pos e2, if_pos (Nat.lt_succ_of_lt e2)]
          · rw [if_neg e2, if_neg (by omega)])
      have HBN := Lib.hid BN
      have HGN : Hid (w3.grownBy ((w7.setCell ⟨gt, j * 2, Option.none⟩ (.complex .f32 c.a1 c.a2)).setCell ⟨gt, j * 2 + 1, Option.none⟩ (.complex .f32 c.v1 c.v2)) (some gt)) := grownBy_set (grownBy_set GY.out)
      clear BN
      go_wp2_with fail
      go_roundw
      case rel => exact ⟨j + 1, by omega, by go_num, fun _ => HBN.out.alloc, grown_alloc HGN.out _⟩
      case measure => simp [intOf]; omega
    · have hjN : j = N := by omega
      subst hjN
      have D7 : Hid (Blk wr tb #[.int .i64 kind, .complex .f32 g1 g2, .float .f32 ls, .slice a1 j ct] 31) := by
        by_cases h0 : 0 < j
        · exact D6.out.grown GR.out (by have := (N6.out h0).2.2; omega)
        · have hj0 : j = 0 := by omega
          exact D6.out.grown GR.out (by omega)
      have R7 : Hid (Blk wr (w.heap.size + 1) #[.int .i64 0, .complex .f32 0 0, .float .f32 0, .slice Option.none 0 0] 31) := R6.out.grown GR.out (by omega)
      have B7 : Hid (BwIn wr a1 M) := by
        by_cases h0 : 0 < j
        · refine .inr ⟨gt, (N6.out h0).1, (BK.out h0).row HM.out (fun k hk => ?_)⟩
          rw [if_pos hk]
        · exact .inl (List.eq_nil_of_length_eq_zero (by have := HM.out; omega))
      have G7 : Hid (Below w.heap.size w wr) := G6.out.trans (below_of_grown GR.out (by omega) (by omega))
      have s7 : w3.heap.size ≤ wr.heap.size := hsz
      clear D6 M6 R6 B6 N6 G6 GR BK
      (obtain ⟨d0, d1, d2, d3⟩ := blk4 (D7.out))
      (obtain ⟨r0, r1, r2, r3⟩ := blk4 (R7.out))
      have P0 := Lib.hid r0
      have f0 := R7.out.free 0
      have f1 := R7.out.free 1
      have f2 := R7.out.free 2
      have f3 := R7.out.free 3
      have l0 := D7.out.lt
      have l1 := R7.out.lt
      have RS := ((((R7.out.set (i := 0) (v := .int .i64 kind)).set (i := 1) (v := .complex .f32 g1 g2)).set (i := 2) (v := .float .f32 ls)).set (i := 3) (v := .slice a1 j ct))
      have e0 := RS.cell 0
      have e1 := RS.cell 1
      have e2 := RS.cell 2
      have e3 := RS.cell 3
      simp only [List.setIfInBounds_toArray, List.set_cons_zero, List.set_cons_succ, List.getElem?_toArray, List.getElem?_cons_zero, List.getElem?_cons_succ] at e0 e1 e2 e3
      have E0 := Lib.hid e0
      have E1 := Lib.hid e1
      have E2 := Lib.hid e2
      have E3 := Lib.hid e3
      clear RS e0 e1 e2 e3
      go_wp2_with fail
      have e0 := E0.out
      have e1 := E1.out
      have e2 := E2.out
      have e3 := E3.out
      refine bodyPost_ret (v := .tuple #[.agg #[.int .i64 kind, .complex .f32 g1 g2, .float .f32 ls, .slice a1 j ct], .bool true]) (by simp [results, Tryz.results138, go_sem, e0, e1, e2, e3]) rfl ⟨a1, ct, ⟨rfl, B7.out.grownAt grown_set4 P0.out, ?_⟩⟩
      exact (((G7.out.setCell (by dsimp only; omega) _).setCell (by dsimp only; omega) _).setCell (by dsimp only; omega) _).setCell (by dsimp only; omega) _⟩
end Go.Proofs.YtfdgijmmgllmgaaGreatDoor
namespace Go.Proofs.YtfdgijmmgllmgaaGreatDoor
open Go.ChangeShapes Go.WideShapes Go.ChangeAt Go.RowKit Go.Joins
set_option linter.unusedSimpArgs false
set_option linter.unusedVariables false
set_option maxRecDepth 100000
attribute [local go_sem] store_f
open Ieee Go.Lib
theorem ptOf_self (p : PtW) : ptOf p.2.1.ok p.2.2.ok = p := by
  apply ptW_inj
  · show valOf F32 (cleanB p.1.1) = valOf F32 p.1.1
    exact val_cleanM p.2.1.cl.fin
  · show valOf F32 (cleanB p.1.2) = valOf F32 p.1.2
    exact val_cleanM p.2.2.cl.fin
theorem actS_pt {s : Int × Bool} (h : isSymB s.1 = true) (p : PtW) : ActS' s.1 s.2 p.1.1 p.1.2 (actP s p).1.1 (actP s p).1.2 := by
  obtain ⟨h1, h2⟩ := isSymB_iff.1 h
  have h := actS_of (t := s.1.toNat) s.2 (by omega) p.2.1.ok p.2.2.ok
  rw [Int.toNat_of_nonneg h1, ptOf_self] at h
  exact h
theorem foldS_pt {kind : Int} (h0 : 0 ≤ kind) (h3 : kind ≤ 3) (p : PtW) : FoldMS kind p.1.1 p.1.2 (actP (foldS kind p) p).1.1 (actP (foldS kind p) p).1.2 (foldS kind p).1 (foldS kind p).2 := by
  have h := foldS_raw h0 h3 p.2.1.ok p.2.2.ok
  rw [ptOf_self] at h
  exact h
theorem times_kept {x k : Nat} (hx : okB x = true) (fx : Fin32 x) (hk : Keep k) : OpS 158 x k (clM (valOf F32 x * valOf F32 k)) := by
  refine timesS (R := rungOf F32 x) fx hk.fin (by have := ok_rung hx; omega) ?_
  have h := keep_mul (x := x) hk
  rw [Int.natAbs_mul, abs_val, abs_val] at h
  exact h
theorem keptS {ls : Nat} (h : ls ≤ 1065353216) : OpS 152 1065353216 ls (keptW ls) := by
  unfold keptW
  refine minusS (R := 1065353216) (fin_of_lt (by omega)) (fin_of_lt (by omega)) (by omega) ?_
  have h1 : valOf F32 ls = (magOf F32 ls : Int) := val_of_lt (by omega)
  have h2 := magOf_le F32 h
  rw [mag_unit] at h2
  rw [val_one, h1, mag_unit]; omega
theorem move_mkS {kind : Int} {g1 g2 ls k : Nat} {b : Bw} {v z p u r : PtW} {s : Int × Bool} (J1 : JoinS b.v1 b.v2 g1 g2 v.1.1 v.1.2) (J2 : JoinS b.a1 b.a2 v.1.1 v.1.2 z.1.1 z.1.2) (F : FoldMS kind z.1.1 z.1.2 p.1.1 p.1.2 s.1 s.2)
    (P : PtS v.1.1 v.1.2) (A : ActS' s.1 s.2 v.1.1 v.1.2 u.1.1 u.1.2) (D : OpS 152 1065353216 ls k) (T1 : OpS 158 u.1.1 k r.1.1) (T2 : OpS 158 u.1.2 k r.1.2) :
    MoveS kind g1 g2 ls b (wd (p, if decide (¬ (s.1 = 0 ∧ s.2 = false)) then r else u)) := by
  by_cases h : s.1 = 0 ∧ s.2 = false
  · have e : decide (¬ (s.1 = 0 ∧ s.2 = false)) = false := by simp [h]
    rw [e]
    exact move_s (c := ⟨p.1.1, p.1.2, u.1.1, u.1.2⟩) (t := s.1) (f := s.2) ⟨J1, J2, F, P, A, D, fun _ _ => ⟨rfl, rfl⟩, fun hh => absurd h hh, fun hh => absurd h hh⟩
  · have e : decide (¬ (s.1 = 0 ∧ s.2 = false)) = true := decide_eq_true h
    rw [e]
    exact move_s (c := ⟨p.1.1, p.1.2, r.1.1, r.1.2⟩) (t := s.1) (f := s.2) ⟨J1, J2, F, P, A, D, fun h1 h2 => absurd ⟨h1, h2⟩ h, fun _ => T1, fun _ => T2⟩
theorem move_of_s {kind : Int} {g : PtW} {ls V G A : Nat} {b : PtW × PtW} (h0 : 0 ≤ kind) (h3 : kind ≤ 3) (hl : ls ≤ 1065353216) (hg : Lim G g) (hv : Lim V b.2) (ha : Lim A b.1) (h : A + (V + G) < 1600) : MoveS kind g.1.1 g.1.2 ls (wd b) (wd (bstep kind g (keptW ls) b)) := by
  have F := foldS_pt h0 h3 (sumP b.1 (sumP b.2 g))
  have F2 := foldIs h0 h3 (sumP b.1 (sumP b.2 g))
  have hk := kept_keep hl
  obtain ⟨_, hs⟩ := lim_sum hv hg (by omega)
  have J1 := join_lim hv hg (by omega)
  have J2 := join_lim ha hs h
  have hA := actS_pt (syms_range kind h0 h3 _ F2.mem) (sumP b.2 g)
  rw [bstep_eq, hits_eq]
  have hP := prodP_1 (prodP_of (p := actP (foldS kind (sumP b.1 (sumP b.2 g))) (sumP b.2 g)) hk).1
  have T1 := times_kept (actP (foldS kind (sumP b.1 (sumP b.2 g))) (sumP b.2 g)).2.1.ok (actP (foldS kind (sumP b.1 (sumP b.2 g))) (sumP b.2 g)).2.1.cl.fin hk
  have T2 := times_kept (actP (foldS kind (sumP b.1 (sumP b.2 g))) (sumP b.2 g)).2.2.ok (actP (foldS kind (sumP b.1 (sumP b.2 g))) (sumP b.2 g)).2.2.cl.fin hk
  have e1 := congrArg Prod.fst hP
  have e2 := congrArg Prod.snd hP
  dsimp only at e1 e2
  exact move_mkS (b := wd b) J1 J2 F (ptS (sumP b.2 g).2.1.ok (sumP b.2 g).2.2.ok) hA (keptS hl) (r := prodP (actP (foldS kind (sumP b.1 (sumP b.2 g))) (sumP b.2 g)) (keptW ls)) (by rw [e1]; exact T1) (by rw [e2]; exact T2)
end Go.Proofs.YtfdgijmmgllmgaaGreatDoor
namespace Go.Proofs.YtfdgijmmgllmgaaGreatDoor
open Go.ChangeShapes Go.WideShapes Go.ChangeAt Go.RowKit Go.Joins
set_option linter.unusedSimpArgs false
set_option linter.unusedVariables false
set_option maxRecDepth 100000
attribute [local go_sem] store_f
open Ieee Go.Lib
attribute [local go_sem] store_c run_equalIn_c run_equalIn_g
structure PartS (x : Nat) : Prop where
  call : ∀ w : World, Calls Tryz.prog 133 #[.float .f32 x] w fun e w' => e = .returned (.bool true) ∧ Below w.heap.size w w'
structure ShdS (s : Shd) : Prop where
  call : ∀ w : World, Calls Tryz.prog 100 #[.agg #[.complex .f32 s.a1 s.a2, .complex .f32 s.b1 s.b2, .complex .f32 s.c1 s.c2, .float .f32 s.r, .float .f32 s.g, .float .f32 s.b, .float .f32 s.k]] w fun e w' => e = .returned (.bool true) ∧ Below w.heap.size w w'
theorem ColB_ok {c : Lit} (h : c.Ok) : c.isB = true := parts_col (.inl h.r) (.inl h.g) (.inl h.b)
theorem colS_ok {c : Lit} (h : c.Ok) : ColS c true := by
  have k := colS_of h.w
  rwa [ColB_ok h] at k
structure ShdBox (w W : World) (s : Shd) : Prop where
  x : Blk W w.heap.size #[.complex .f32 s.a1 s.a2, .complex .f32 s.b1 s.b2, .complex .f32 s.c1 s.c2, .float .f32 s.r, .float .f32 s.g, .float .f32 s.b, .float .f32 s.k] 36
  below : Below w.heap.size w W
theorem ShdBox.mono {w W W1 : World} {s : Shd} (h : ShdBox w W s) (hb : Below W.heap.size W W1) : ShdBox w W1 s := ⟨h.x.below hb, h.below.trans (hb.mono h.below.size)⟩
set_option maxHeartbeats 8000000 in
theorem shdS_of {s : Shd} (P1 : PtS s.a1 s.a2) (P2 : PtS s.b1 s.b2) (P3 : PtS s.c1 s.c2) (C : ColS ⟨s.r, s.g, s.b⟩ true) (K : PartS s.k) : ShdS s := ⟨fun w => by
  have B0 : Hid (ShdBox w (w.alloc (.cells #[.complex .f32 s.a1 s.a2, .complex .f32 s.b1 s.b2, .complex .f32 s.c1 s.c2, .float .f32 s.r, .float .f32 s.g, .float .f32 s.b, .float .f32 s.k] 36)) s) := ⟨Blk.new _ _ _, (Below.refl _ _).alloc (Nat.le_refl _) _⟩
  go_enter Tryz.func100, Tryz.ntmps100
  go_wp2_with fail
  refine (P1.call _).mono ?_
  rintro r w1 ⟨rfl, hb⟩
  have B1 := Lib.hid (B0.out.mono hb)
  clear hb B0 P1
  have l1 := B1.out.x.lt
  have c1 := Blk.cellAt (i := 1) B1.out.x rfl
  simp only [List.getElem_toArray, List.getElem_cons_zero, List.getElem_cons_succ] at c1
  go_wp2_with fail
  refine (P2.call _).mono ?_
  rintro r w2 ⟨rfl, hb⟩
  have B2 := Lib.hid (B1.out.mono hb)
  clear hb B1 P2 c1 l1
  have l1 := B2.out.x.lt
  have c1 := Blk.cellAt (i := 2) B2.out.x rfl
  simp only [List.getElem_toArray, List.getElem_cons_zero, List.getElem_cons_succ] at c1
  go_wp2_with fail
  refine (P3.call _).mono ?_
  rintro r w3 ⟨rfl, hb⟩
  have B3 := Lib.hid (B2.out.mono hb)
  clear hb B2 P3 c1 l1
  have l1 := B3.out.x.lt
  have c3 := Blk.cellAt (i := 3) B3.out.x rfl
  have c4 := Blk.cellAt (i := 4) B3.out.x rfl
  have c5 := Blk.cellAt (i := 5) B3.out.x rfl
  simp only [List.getElem_toArray, List.getElem_cons_zero, List.getElem_cons_succ] at c3 c4 c5
  go_wp2_with fail
  refine (C.call _).mono ?_
  rintro r w4 ⟨rfl, hb⟩
  have B4 := Lib.hid (B3.out.mono hb)
  clear hb B3 C c3 c4 c5 l1
  have l1 := B4.out.x.lt
  have c1 := Blk.cellAt (i := 6) B4.out.x rfl
  simp only [List.getElem_toArray, List.getElem_cons_zero, List.getElem_cons_succ] at c1
  go_wp2_with fail
  refine (K.call _).mono ?_
  rintro r w5 ⟨rfl, hb⟩
  have B5 := Lib.hid (B4.out.mono hb)
  clear hb B4 K c1 l1
  go_wp2
  go_ret
  exact ⟨rfl, B5.out.below⟩⟩
theorem partS_ok {x : Nat} (h : x ≤ 1065353216) : PartS x := ⟨fun w => by
  have k := l2Part_s x (by omega) w
  rwa [part_share (.inl h)] at k⟩
theorem shdS {s : Shd} (h : s.Drawn) : ShdS s := shdS_of (ptS h.a1 h.a2) (ptS h.b1 h.b2) (ptS h.c1 h.c2) (colS_ok ⟨h.r, h.g, h.b⟩) (partS_ok h.k)
structure BareS (v : Value) (n z s l : Bool) : Prop where
  call : ∀ w : World, Calls Tryz.prog 102 #[v, .bool n, .bool z, .bool s, .bool l] w fun e w' => e = .returned (.bool true) ∧ Below w.heap.size w w'
theorem eq_shd0 (w : World) : (Op.equalIn 10000 36 (.agg #[.complex .f32 0 0, .complex .f32 0 0, .complex .f32 0 0, .float .f32 0, .float .f32 0, .float .f32 0, .float .f32 0]) (.agg #[.complex .f32 0 0, .complex .f32 0 0, .complex .f32 0 0, .float .f32 0, .float .f32 0, .float .f32 0, .float .f32 0])).run Tryz.prog w = .ok true w := run_eq_shd shd0_fin w
theorem eq_col0 (w : World) : (Op.equalIn 10000 26 (.agg #[.float .f32 0, .float .f32 0, .float .f32 0]) (.agg #[.float .f32 0, .float .f32 0, .float .f32 0])).run Tryz.prog w = .ok true w := run_eq_colD fin0 fin0 fin0 9998 w
set_option maxHeartbeats 8000000 in
theorem bare_ftt (k : Int) (z1 z2 : Nat) (s : Shd) : BareS (.agg #[.int .i64 (⟨k, 0, z1, z2, s, lit0⟩ : Evw).kind, .int .i64 (⟨k, 0, z1, z2, s, lit0⟩ : Evw).n, .complex .f32 (⟨k, 0, z1, z2, s, lit0⟩ : Evw).z1 (⟨k, 0, z1, z2, s, lit0⟩ : Evw).z2, .complex .f32 (⟨k, 0, z1, z2, s, lit0⟩ : Evw).s.a1 (⟨k, 0, z1, z2, s, lit0⟩ : Evw).s.a2, .complex .f32 (⟨k, 0, z1, z2, s, lit0⟩ : Evw).s.b1 (⟨k, 0, z1, z2, s, lit0⟩ : Evw).s.b2, .complex .f32 (⟨k, 0, z1, z2, s, lit0⟩ : Evw).s.c1 (⟨k, 0, z1, z2, s, lit0⟩ : Evw).s.c2, .float .f32 (⟨k, 0, z1, z2, s, lit0⟩ : Evw).s.r, .float .f32 (⟨k, 0, z1, z2, s, lit0⟩ : Evw).s.g, .float .f32 (⟨k, 0, z1, z2, s, lit0⟩ : Evw).s.b, .float .f32 (⟨k, 0, z1, z2, s, lit0⟩ : Evw).s.k, .float .f32 (⟨k, 0, z1, z2, s, lit0⟩ : Evw).l.r, .float .f32 (⟨k, 0, z1, z2, s, lit0⟩ : Evw).l.g, .float .f32 (⟨k, 0, z1, z2, s, lit0⟩ : Evw).l.b]) false true true false := ⟨fun w => by
  have op := eq_col0
  simp only [lit0]
  go_enter Tryz.func102, Tryz.ntmps102
  go_wp2
  go_ret
  exact ⟨rfl, by (repeat' (first | (with_reducible exact Below.refl _ _) | (with_reducible assumption) | (with_reducible refine Below.alloc ?_ ?_ _) | (with_reducible refine Below.drew ?_) | (with_reducible refine Below.setCell ?_ ?_ _) | (with_reducible refine Below.trans ?_ (Below.mono (by assumption) ?_)) | (with_reducible exact Nat.le_refl _) | omega | (simp only [World.size_alloc, World.size_setCell, World.size_drew]; omega) | (simp; omega) | (simp; done)))⟩⟩
set_option maxHeartbeats 8000000 in
theorem bare_tff (k n : Int) : BareS (.agg #[.int .i64 (⟨k, n, 0, 0, shd0, lit0⟩ : Evw).kind, .int .i64 (⟨k, n, 0, 0, shd0, lit0⟩ : Evw).n, .complex .f32 (⟨k, n, 0, 0, shd0, lit0⟩ : Evw).z1 (⟨k, n, 0, 0, shd0, lit0⟩ : Evw).z2, .complex .f32 (⟨k, n, 0, 0, shd0, lit0⟩ : Evw).s.a1 (⟨k, n, 0, 0, shd0, lit0⟩ : Evw).s.a2, .complex .f32 (⟨k, n, 0, 0, shd0, lit0⟩ : Evw).s.b1 (⟨k, n, 0, 0, shd0, lit0⟩ : Evw).s.b2, .complex .f32 (⟨k, n, 0, 0, shd0, lit0⟩ : Evw).s.c1 (⟨k, n, 0, 0, shd0, lit0⟩ : Evw).s.c2, .float .f32 (⟨k, n, 0, 0, shd0, lit0⟩ : Evw).s.r, .float .f32 (⟨k, n, 0, 0, shd0, lit0⟩ : Evw).s.g, .float .f32 (⟨k, n, 0, 0, shd0, lit0⟩ : Evw).s.b, .float .f32 (⟨k, n, 0, 0, shd0, lit0⟩ : Evw).s.k, .float .f32 (⟨k, n, 0, 0, shd0, lit0⟩ : Evw).l.r, .float .f32 (⟨k, n, 0, 0, shd0, lit0⟩ : Evw).l.g, .float .f32 (⟨k, n, 0, 0, shd0, lit0⟩ : Evw).l.b]) true false false false := ⟨fun w => by
  have op := eq_col0
  have op2 := eq_shd0
  have e0 := order_self fin0
  simp only [lit0, shd0]
  go_enter Tryz.func102, Tryz.ntmps102
  go_wp2
  go_ret
  exact ⟨rfl, by (repeat' (first | (with_reducible exact Below.refl _ _) | (with_reducible assumption) | (with_reducible refine Below.alloc ?_ ?_ _) | (with_reducible refine Below.drew ?_) | (with_reducible refine Below.setCell ?_ ?_ _) | (with_reducible refine Below.trans ?_ (Below.mono (by assumption) ?_)) | (with_reducible exact Nat.le_refl _) | omega | (simp only [World.size_alloc, World.size_setCell, World.size_drew]; omega) | (simp; omega) | (simp; done)))⟩⟩
set_option maxHeartbeats 8000000 in
theorem bare_fff (k : Int) (c : Lit) : BareS (.agg #[.int .i64 (⟨k, 0, 0, 0, shd0, c⟩ : Evw).kind, .int .i64 (⟨k, 0, 0, 0, shd0, c⟩ : Evw).n, .complex .f32 (⟨k, 0, 0, 0, shd0, c⟩ : Evw).z1 (⟨k, 0, 0, 0, shd0, c⟩ : Evw).z2, .complex .f32 (⟨k, 0, 0, 0, shd0, c⟩ : Evw).s.a1 (⟨k, 0, 0, 0, shd0, c⟩ : Evw).s.a2, .complex .f32 (⟨k, 0, 0, 0, shd0, c⟩ : Evw).s.b1 (⟨k, 0, 0, 0, shd0, c⟩ : Evw).s.b2, .complex .f32 (⟨k, 0, 0, 0, shd0, c⟩ : Evw).s.c1 (⟨k, 0, 0, 0, shd0, c⟩ : Evw).s.c2, .float .f32 (⟨k, 0, 0, 0, shd0, c⟩ : Evw).s.r, .float .f32 (⟨k, 0, 0, 0, shd0, c⟩ : Evw).s.g, .float .f32 (⟨k, 0, 0, 0, shd0, c⟩ : Evw).s.b, .float .f32 (⟨k, 0, 0, 0, shd0, c⟩ : Evw).s.k, .float .f32 (⟨k, 0, 0, 0, shd0, c⟩ : Evw).l.r, .float .f32 (⟨k, 0, 0, 0, shd0, c⟩ : Evw).l.g, .float .f32 (⟨k, 0, 0, 0, shd0, c⟩ : Evw).l.b]) false false false true := ⟨fun w => by
  have op2 := eq_shd0
  have e0 := order_self fin0
  simp only [shd0]
  go_enter Tryz.func102, Tryz.ntmps102
  go_wp2
  go_ret
  exact ⟨rfl, by (repeat' (first | (with_reducible exact Below.refl _ _) | (with_reducible assumption) | (with_reducible refine Below.alloc ?_ ?_ _) | (with_reducible refine Below.drew ?_) | (with_reducible refine Below.setCell ?_ ?_ _) | (with_reducible refine Below.trans ?_ (Below.mono (by assumption) ?_)) | (with_reducible exact Nat.le_refl _) | omega | (simp only [World.size_alloc, World.size_setCell, World.size_drew]; omega) | (simp; omega) | (simp; done)))⟩⟩
set_option maxHeartbeats 8000000 in
theorem bare_ftf (k : Int) (z1 z2 : Nat) : BareS (.agg #[.int .i64 (⟨k, 0, z1, z2, shd0, lit0⟩ : Evw).kind, .int .i64 (⟨k, 0, z1, z2, shd0, lit0⟩ : Evw).n, .complex .f32 (⟨k, 0, z1, z2, shd0, lit0⟩ : Evw).z1 (⟨k, 0, z1, z2, shd0, lit0⟩ : Evw).z2, .complex .f32 (⟨k, 0, z1, z2, shd0, lit0⟩ : Evw).s.a1 (⟨k, 0, z1, z2, shd0, lit0⟩ : Evw).s.a2, .complex .f32 (⟨k, 0, z1, z2, shd0, lit0⟩ : Evw).s.b1 (⟨k, 0, z1, z2, shd0, lit0⟩ : Evw).s.b2, .complex .f32 (⟨k, 0, z1, z2, shd0, lit0⟩ : Evw).s.c1 (⟨k, 0, z1, z2, shd0, lit0⟩ : Evw).s.c2, .float .f32 (⟨k, 0, z1, z2, shd0, lit0⟩ : Evw).s.r, .float .f32 (⟨k, 0, z1, z2, shd0, lit0⟩ : Evw).s.g, .float .f32 (⟨k, 0, z1, z2, shd0, lit0⟩ : Evw).s.b, .float .f32 (⟨k, 0, z1, z2, shd0, lit0⟩ : Evw).s.k, .float .f32 (⟨k, 0, z1, z2, shd0, lit0⟩ : Evw).l.r, .float .f32 (⟨k, 0, z1, z2, shd0, lit0⟩ : Evw).l.g, .float .f32 (⟨k, 0, z1, z2, shd0, lit0⟩ : Evw).l.b]) false true false false := ⟨fun w => by
  have op := eq_col0
  have op2 := eq_shd0
  simp only [shd0, lit0]
  go_enter Tryz.func102, Tryz.ntmps102
  go_wp2
  go_ret
  exact ⟨rfl, by (repeat' (first | (with_reducible exact Below.refl _ _) | (with_reducible assumption) | (with_reducible refine Below.alloc ?_ ?_ _) | (with_reducible refine Below.drew ?_) | (with_reducible refine Below.setCell ?_ ?_ _) | (with_reducible refine Below.trans ?_ (Below.mono (by assumption) ?_)) | (with_reducible exact Nat.le_refl _) | omega | (simp only [World.size_alloc, World.size_setCell, World.size_drew]; omega) | (simp; omega) | (simp; done)))⟩⟩
set_option maxHeartbeats 8000000 in
theorem bare_ttf (k n : Int) (z1 z2 : Nat) : BareS (.agg #[.int .i64 (⟨k, n, z1, z2, shd0, lit0⟩ : Evw).kind, .int .i64 (⟨k, n, z1, z2, shd0, lit0⟩ : Evw).n, .complex .f32 (⟨k, n, z1, z2, shd0, lit0⟩ : Evw).z1 (⟨k, n, z1, z2, shd0, lit0⟩ : Evw).z2, .complex .f32 (⟨k, n, z1, z2, shd0, lit0⟩ : Evw).s.a1 (⟨k, n, z1, z2, shd0, lit0⟩ : Evw).s.a2, .complex .f32 (⟨k, n, z1, z2, shd0, lit0⟩ : Evw).s.b1 (⟨k, n, z1, z2, shd0, lit0⟩ : Evw).s.b2, .complex .f32 (⟨k, n, z1, z2, shd0, lit0⟩ : Evw).s.c1 (⟨k, n, z1, z2, shd0, lit0⟩ : Evw).s.c2, .float .f32 (⟨k, n, z1, z2, shd0, lit0⟩ : Evw).s.r, .float .f32 (⟨k, n, z1, z2, shd0, lit0⟩ : Evw).s.g, .float .f32 (⟨k, n, z1, z2, shd0, lit0⟩ : Evw).s.b, .float .f32 (⟨k, n, z1, z2, shd0, lit0⟩ : Evw).s.k, .float .f32 (⟨k, n, z1, z2, shd0, lit0⟩ : Evw).l.r, .float .f32 (⟨k, n, z1, z2, shd0, lit0⟩ : Evw).l.g, .float .f32 (⟨k, n, z1, z2, shd0, lit0⟩ : Evw).l.b]) true true false false := ⟨fun w => by
  have op := eq_col0
  have op2 := eq_shd0
  simp only [shd0, lit0]
  go_enter Tryz.func102, Tryz.ntmps102
  go_wp2
  go_ret
  exact ⟨rfl, by (repeat' (first | (with_reducible exact Below.refl _ _) | (with_reducible assumption) | (with_reducible refine Below.alloc ?_ ?_ _) | (with_reducible refine Below.drew ?_) | (with_reducible refine Below.setCell ?_ ?_ _) | (with_reducible refine Below.trans ?_ (Below.mono (by assumption) ?_)) | (with_reducible exact Nat.le_refl _) | omega | (simp only [World.size_alloc, World.size_setCell, World.size_drew]; omega) | (simp; omega) | (simp; done)))⟩⟩
structure EvBox (w W : World) (e : Evw) : Prop where
  x : Blk W w.heap.size #[.int .i64 e.kind, .int .i64 e.n, .complex .f32 e.z1 e.z2, .complex .f32 e.s.a1 e.s.a2, .complex .f32 e.s.b1 e.s.b2, .complex .f32 e.s.c1 e.s.c2, .float .f32 e.s.r, .float .f32 e.s.g, .float .f32 e.s.b, .float .f32 e.s.k, .float .f32 e.l.r, .float .f32 e.l.g, .float .f32 e.l.b] 38
  below : Below w.heap.size w W
theorem EvBox.mono {w W W1 : World} {e : Evw} (h : EvBox w W e) (hb : Below W.heap.size W W1) : EvBox w W1 e := ⟨h.x.below hb, h.below.trans (hb.mono h.below.size)⟩
set_option maxHeartbeats 8000000 in
theorem evS_light {c : Lit} (C : ColS c true) : EvIs 67 ⟨3, 0, 0, 0, shd0, c⟩ true := ⟨fun w => by
  have BR := bare_fff 3 c
  have B0 : Hid (EvBox w (w.alloc (.cells #[.int .i64 (⟨3, 0, 0, 0, shd0, c⟩ : Evw).kind, .int .i64 (⟨3, 0, 0, 0, shd0, c⟩ : Evw).n, .complex .f32 (⟨3, 0, 0, 0, shd0, c⟩ : Evw).z1 (⟨3, 0, 0, 0, shd0, c⟩ : Evw).z2, .complex .f32 (⟨3, 0, 0, 0, shd0, c⟩ : Evw).s.a1 (⟨3, 0, 0, 0, shd0, c⟩ : Evw).s.a2, .complex .f32 (⟨3, 0, 0, 0, shd0, c⟩ : Evw).s.b1 (⟨3, 0, 0, 0, shd0, c⟩ : Evw).s.b2, .complex .f32 (⟨3, 0, 0, 0, shd0, c⟩ : Evw).s.c1 (⟨3, 0, 0, 0, shd0, c⟩ : Evw).s.c2, .float .f32 (⟨3, 0, 0, 0, shd0, c⟩ : Evw).s.r, .float .f32 (⟨3, 0, 0, 0, shd0, c⟩ : Evw).s.g, .float .f32 (⟨3, 0, 0, 0, shd0, c⟩ : Evw).s.b, .float .f32 (⟨3, 0, 0, 0, shd0, c⟩ : Evw).s.k, .float .f32 (⟨3, 0, 0, 0, shd0, c⟩ : Evw).l.r, .float .f32 (⟨3, 0, 0, 0, shd0, c⟩ : Evw).l.g, .float .f32 (⟨3, 0, 0, 0, shd0, c⟩ : Evw).l.b] 38)) ⟨3, 0, 0, 0, shd0, c⟩) := ⟨Blk.new _ _ _, (Below.refl _ _).alloc (Nat.le_refl _) _⟩
  go_enter Tryz.func67, Tryz.ntmps67
  go_wp2_with fail
  refine (C.call _).mono ?_
  rintro r w1 ⟨rfl, hb⟩
  have B1 := Lib.hid (B0.out.mono hb)
  clear hb B0 C
  have l1 := B1.out.x.lt
  (obtain ⟨c0, c1, c2, c3, c4, c5, c6, c7, c8, c9, c10, c11, c12⟩ := blk13 (B1.out.x))
  go_wp2_with fail
  refine (BR.call _).mono ?_
  rintro r w2 ⟨rfl, hb⟩
  have B2 := Lib.hid (B1.out.mono hb)
  clear hb B1 BR
  go_wp2
  go_ret
  exact ⟨rfl, B2.out.below⟩⟩
end Go.Proofs.YtfdgijmmgllmgaaGreatDoor
