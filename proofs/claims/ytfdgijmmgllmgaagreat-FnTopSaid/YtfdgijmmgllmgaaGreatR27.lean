/-
  Texts Un Ur Us, joined.
-/
import Derived.Test.YtfdgijmmgllmgaaGreatR26
import Derived.Deep.RegionHeld3
import Derived.IntWalk
import Derived.Test.YtfdgijmmgllmgaaGreatR25
namespace Go.Proofs.YtfdgijmmgllmgaaGreat
open Go.ChangeShapes Go.WideShapes Go.ChangeAt Go.RowKit Go.Joins
set_option linter.unusedSimpArgs false
set_option linter.unusedVariables false
set_option maxRecDepth 100000
attribute [local go_sem] store_f
open Ieee Go.Lib
attribute [local go_sem] store_c
theorem flat_take {α : Type} (f : α → List Value) (m : Nat) (hf : ∀ x, (f x).length = m) : ∀ (l : List α) (n : Nat), (l.flatMap f).take (n * m) = (l.take n).flatMap f
  | [], n => by simp
  | x :: l, 0 => by simp
  | x :: l, n + 1 => by
    rw [List.flatMap_cons, List.take_succ_cons, List.flatMap_cons, ← flat_take f m hf l n]
    have e : (n + 1) * m = (f x).length + n * m := by rw [hf, Nat.add_mul]; omega
    rw [e, List.take_length_add_append]
theorem flat_drop {α : Type} (f : α → List Value) (m : Nat) (hf : ∀ x, (f x).length = m) : ∀ (l : List α) (n : Nat), (l.flatMap f).drop (n * m) = (l.drop n).flatMap f
  | [], n => by simp
  | x :: l, 0 => by simp
  | x :: l, n + 1 => by
    rw [List.flatMap_cons, List.drop_succ_cons, ← flat_drop f m hf l n]
    have e : (n + 1) * m = (f x).length + n * m := by rw [hf, Nat.add_mul]; omega
    rw [e, List.drop_length_add_append]
theorem sh_cut (l : List Shd) (n : Nat) : shCells (l.take n ++ l.drop (n + 1)) = (shCells l).take (n * 7) ++ (shCells l).drop ((n + 1) * 7) := by
  rw [shCells_app]
  exact congr (congrArg _ (flat_take Shd.cells 7 (fun _ => rfl) l n).symm) (flat_drop Shd.cells 7 (fun _ => rfl) l (n + 1)).symm
theorem bw_cut (l : List Bw) (n : Nat) : bwCells (l.take n ++ l.drop (n + 1)) = (bwCells l).take (n * 2) ++ (bwCells l).drop ((n + 1) * 2) := by
  rw [bwCells_app]
  exact congr (congrArg _ (flat_take Bw.cells 2 (fun _ => rfl) l n).symm) (flat_drop Bw.cells 2 (fun _ => rfl) l (n + 1)).symm
theorem owns_cap {W : World} {B T sz n c : Nat} {a : Option Addr} {xs : List Value} (h : W.ownsRow B T sz (.slice a n c) n xs) (hn : 0 < n) : n ≤ c ∧ c ≤ 9223372036854775807 := by
  rcases h.2 with ⟨_, e⟩ | ⟨g, cap, cur, e1, _, _, h1, h2, _⟩
  · omega
  · cases e1
    unfold maxLen at h2
    exact ⟨h1, h2⟩
theorem LiesZ.grownN {W w1 : World} {a : Option Addr} {xs : List Value} {g : Nat} (h : LiesZ W a xs) (hg : W.grownBy w1 (some g)) (hne : a ≠ some ⟨g, 0, Option.none⟩) : LiesZ w1 a xs := by
  rcases h with h | ⟨k, e, h⟩
  · exact .inl h
  · exact .inr ⟨k, e, h.grown hg fun e' => hne (by rw [e]; cases e'; rfl)⟩
structure TakeSt (w : World) (B P q g n N M K ca cb cl : Nat) (_a _b l : Option Addr) (s : Sho) (gcs : Array Value) (wx : World) : Prop where
  blk : Blk wx P #[.int .i64 s.size, .float .f32 s.step, .float .f32 s.lit.r, .float .f32 s.lit.g, .float .f32 s.lit.b, .slice (some ⟨q, 0, Option.none⟩) (N - 1) ca, .int .i64 s.kind, .complex .f32 s.g1 s.g2, .float .f32 0, .slice (some ⟨g, 0, Option.none⟩) M cb, .int .i64 s.ticks, .slice l K cl] 34
  box : Blk wx w.heap.size #[.int .i64 n] 156
  sh : LieAt wx q 0 (shCells (s.shs.take n ++ s.shs.drop (n + 1)))
  bd : LieAt wx g 0 (bwCells s.bds)
  gb : Blk wx g gcs 59
  lg : LiesZ wx l (evCells s.log)
  below : Below B w wx
  size : w.heap.size < wx.heap.size
set_option maxHeartbeats 32000000 in
theorem chg_take {s : Sho} {N M K n : Nat} (hn : n < M) (hNM : N = M) (hs : s.shs.length = N) (hm : s.bds.length = M) (hM : M ≤ 8) : ChgM 186 (.agg #[.int .i64 n]) s { s with shs := s.shs.take n ++ s.shs.drop (n + 1), bds := s.bds.take n ++ s.bds.drop (n + 1) } N M K (N - 1) (M - 1) true := ⟨fun w B P a b l ca cb cl hP hO hB => by
  obtain ⟨g, HG⟩ := rowOf hO.bd (by omega)
  obtain rfl := HG.at_
  obtain ⟨q, HQ⟩ := rowOf hO.sh (by omega)
  obtain rfl := HQ.at_
  have hgP : g ≠ P := fun e => owns_blk hO.bd hP (by decide) g rfl (by rw [e])
  have hqP : q ≠ P := fun e => owns_blk hO.sh hP (by decide) q rfl (by rw [e])
  have hqg : q ≠ g := fun e => owns_apart hO.sh hO.bd (by decide) (by rw [e])
  have HLG := Lib.hid (owns_apart hO.lg hO.bd (by decide))
  have HLQ := Lib.hid (owns_apart hO.lg hO.sh (by decide))
  have HLP : Hid (l ≠ some ⟨P, 0, Option.none⟩) := fun e => owns_blk hO.lg hP (by decide) P e rfl
  obtain ⟨hcb1, hcb2⟩ := owns_cap hO.bd (by omega)
  obtain ⟨hca1, hca2⟩ := owns_cap hO.sh (by omega)
  have D1 := delShd (xs := shCells s.shs) (N := N) (c := ca) (i := n) (j := n + 1) (g := q) (by rw [shCells_len, hs]) (sh_one _) (by omega) hca1 hca2 rfl (by omega)
  have D2 := delBead (xs := bwCells s.bds) (N := M) (c := cb) (i := n) (j := n + 1) (g := g) (by rw [bwCells_len, hm]) (bw_one _) (by omega) hcb1 hcb2 rfl (by omega)
  have P0 := Lib.hid hP
  have LO0 := Lib.hid (lies_of_owns hO.lg)
  have LB0 := Lib.hid HG.lie
  have LS0 := Lib.hid HQ.lie
  obtain ⟨gcs, hgb⟩ := HG.blk
  obtain ⟨qcs, hqb⟩ := HQ.blk
  have GB0 := Lib.hid hgb
  have QB0 := Lib.hid hqb
  have hgB := HG.ge
  have hqB := HQ.ge
  have hgl := HG.lt
  have hql := HQ.lt
  have hlt := hP.lt
  have C1 : Hid (∀ w : World, LieAt w q 0 (shCells s.shs) → (∀ k, w.frozen? ⟨q, k, Option.none⟩ = false) → Calls Tryz.prog 187 #[.slice (some ⟨q, 0, Option.none⟩) N ca, .int .i64 n, .int .i64 ((n : Int) + 1)] w fun e w' => DelOut w e w' N ca 7 n (n + 1) q (shCells s.shs)) := fun w h1 h2 => D1.call w h1 h2
  have C2 : Hid (∀ w : World, LieAt w g 0 (bwCells s.bds) → (∀ k, w.frozen? ⟨g, k, Option.none⟩ = false) → Calls Tryz.prog 188 #[.slice (some ⟨g, 0, Option.none⟩) M cb, .int .i64 n, .int .i64 ((n : Int) + 1)] w fun e w' => DelOut w e w' M cb 2 n (n + 1) g (bwCells s.bds)) := fun w h1 h2 => D2.call w h1 h2
  clear hP hO HG HQ hgb hqb D1 D2 hs hm hNM
  go_enter Tryz.func186, Tryz.ntmps186
  go_wp2_with fail
  generalize hX : w.alloc (.cells #[.int .i64 n] 156) = X
  have P1 : Hid (Blk X P #[.int .i64 s.size, .float .f32 s.step, .float .f32 s.lit.r, .float .f32 s.lit.g, .float .f32 s.lit.b, .slice (some ⟨q, 0, Option.none⟩) N ca, .int .i64 s.kind, .complex .f32 s.g1 s.g2, .float .f32 0, .slice (some ⟨g, 0, Option.none⟩) M cb, .int .i64 s.ticks, .slice l K cl] 34) := by rw [← hX]; exact P0.out.alloc
  have E1 : Hid (Blk X w.heap.size #[.int .i64 n] 156) := by rw [← hX]; exact Blk.new _ _ _
  have LO1 : Hid (LiesZ X l (evCells s.log)) := by rw [← hX]; exact LO0.out.alloc
  have LB1 : Hid (LieAt X g 0 (bwCells s.bds)) := by rw [← hX]; exact LB0.out.alloc
  have LS1 : Hid (LieAt X q 0 (shCells s.shs)) := by rw [← hX]; exact LS0.out.alloc
  have GB1 : Hid (Blk X g gcs 59) := by rw [← hX]; exact GB0.out.alloc
  have QB1 : Hid (Blk X q qcs 36) := by rw [← hX]; exact QB0.out.alloc
  have G1 : Hid (Below B w X) := by rw [← hX]; exact (Below.refl _ _).alloc (by omega) _
  have sX : w.heap.size < X.heap.size := by rw [← hX]; simp
  clear hX P0 LO0 LB0 LS0 GB0 QB0
  (obtain ⟨p0, p1, p2, p3, p4, p5, p6, p7, p8, p9, p10, p11⟩ := blk12 (P1.out))
  have q0 := Blk.cellAt (i := 0) E1.out rfl
  simp only [List.getElem_toArray, List.getElem_cons_zero, List.getElem_cons_succ] at q0
  have hPw : P ≠ w.heap.size := by have := E1.out; omega
  have lP : P < X.heap.size := P1.out.lt
  have hX1 : X.heap.size ≤ X.heap.size := Nat.le_refl _
  have hqw : q ≠ w.heap.size := by omega
  have hgw : g ≠ w.heap.size := by omega
  clear p0 p1 p2 p3 p4 p6 p7 p8 p9 p10 p11
  have hwr : IntKind.i64.wrap ((n : Int) + 1) = (n : Int) + 1 := IntWalk.i64_in _ (by omega)
  go_cut [17] (fun v17 wx => TakeSt w B P q g n N M K ca cb cl Option.none Option.none l s gcs wx)
  case first =>
    refine wp_region_noPanic ?_
    go_region_with (first
      | (go_at_call 187; (with_reducible refine (C1.out _ ?_ ?_).mono ?_); (next => exact LS1.out.drew); (next => exact fun k => QB1.out.drew.free k); rintro e w3 ⟨rfl, hlie, hgr⟩; have HL3 := Lib.hid hlie; have HG3 : Hid (X.grownBy w3 (some q)) := grownBy_trans (⟨rfl, rfl, rfl, Nat.le_refl _, fun _ _ _ => rfl⟩ : X.grownBy X.drew (some q)) hgr; have hbs := hgr.size; (try simp only [World.size_alloc, World.size_setCell, World.size_drew] at hbs); have P3 := Blk.grown P1.out HG3.out (fun e => hqP e.symm); have p5' := Blk.cellAt (i := 5) P3 rfl; have E3 := Blk.cellAt (i := 0) (Blk.grown E1.out HG3.out (fun e => hqw e.symm)) rfl; (simp only [List.getElem_toArray, List.getElem_cons_zero, List.getElem_cons_succ] at p5' E3); have f5' := P3.free 5; have HP3 := Lib.hid P3; clear P3 hlie hgr))
    all_goals
      refine NoPanic.normal ?_
      go_wp2_with fail
      go_meet
      refine ⟨Blk.setAt rfl HP3.out rfl, (Blk.grown E1.out HG3.out (fun e => hqw e.symm)).other (by dsimp only; omega), ?_, ?_, (Blk.grown GB1.out HG3.out (fun e => hqg e.symm)).other (by dsimp only; omega), ?_, ?_, ?_⟩
      · rw [sh_cut]; exact HL3.out.set (by dsimp only; omega)
      · exact (LB1.out.grown HG3.out (fun e => hqg (Option.some.inj e))).set (by dsimp only; omega)
      · exact (LO1.out.grownN HG3.out HLQ.out).other (fun e => HLP.out e)
      · exact (G1.out.trans (below_of_grown HG3.out (by omega) (by omega))).setCell (by dsimp only; omega) _
      · simp; omega
  case rest =>
    have Pc := Lib.hid hcut.blk
    have Ec := Lib.hid hcut.box
    have LSc := Lib.hid hcut.sh
    have LBc := Lib.hid hcut.bd
    have GBc := Lib.hid hcut.gb
    have LOc := Lib.hid hcut.lg
    have Gc := Lib.hid hcut.below
    have szc := hcut.size
    clear hcut P1 E1 LS1 LB1 GB1 QB1 LO1 G1 p5 q0
    have p9 := Blk.cellAt (i := 9) Pc.out rfl
    have q0 := Blk.cellAt (i := 0) Ec.out rfl
    simp only [List.getElem_toArray, List.getElem_cons_zero, List.getElem_cons_succ] at p9 q0
    have lPc : P < wc.heap.size := Pc.out.lt
    go_wp2_with fail
    refine wp_region_noPanic ?_
    go_region_with (first
      | (go_at_call 188; (with_reducible refine (C2.out _ ?_ ?_).mono ?_); (next => exact LBc.out.drew); (next => exact fun k => GBc.out.drew.free k); rintro e w3 ⟨rfl, hlie, hgr⟩; have HL3 := Lib.hid hlie; have HG3 : Hid (wc.grownBy w3 (some g)) := grownBy_trans (⟨rfl, rfl, rfl, Nat.le_refl _, fun _ _ _ => rfl⟩ : wc.grownBy wc.drew (some g)) hgr; have hbs := hgr.size; (try simp only [World.size_alloc, World.size_setCell, World.size_drew] at hbs); have P3 := Blk.grown Pc.out HG3.out (fun e => hgP e.symm); have p5' := Blk.cellAt (i := 9) P3 rfl; have E3 := Blk.cellAt (i := 0) (Blk.grown Ec.out HG3.out (fun e => hgw e.symm)) rfl; (simp only [List.getElem_toArray, List.getElem_cons_zero, List.getElem_cons_succ] at p5' E3); have f5' := P3.free 9; have HP3 := Lib.hid P3; clear P3 hlie hgr))
    all_goals
      refine NoPanic.normal ?_
      go_wp2
      go_ret
      refine ⟨some ⟨q, 0, Option.none⟩, some ⟨g, 0, Option.none⟩, l, ca, cb, cl, ⟨rfl, Blk.setAt rfl HP3.out rfl, ⟨?_, ?_, ?_⟩, ?_, ?_⟩⟩
      · exact Or.inr ⟨q, rfl, (LSc.out.grown HG3.out (fun e => hqg (Option.some.inj e).symm)).set (by dsimp only; omega)⟩
      · refine Or.inr ⟨g, rfl, ?_⟩
        show LieAt _ g 0 (bwCells (s.bds.take n ++ s.bds.drop (n + 1)))
        rw [bw_cut]; exact HL3.out.set (by dsimp only; omega)
      · exact (LOc.out.grownN HG3.out HLG.out).other (fun e => HLP.out e)
      · exact (Gc.out.trans (below_of_grown HG3.out (by omega) (by have := Gc.out.size; omega))).setCell (by dsimp only; omega) _
      · simp; omega⟩
end Go.Proofs.YtfdgijmmgllmgaaGreat
namespace Go.Proofs.YtfdgijmmgllmgaaGreat
open Go.ChangeShapes Go.WideShapes Go.ChangeAt Go.RowKit Go.Joins
set_option linter.unusedSimpArgs false
set_option linter.unusedVariables false
set_option maxRecDepth 100000
attribute [local go_sem] store_f
open Ieee Go.Lib
attribute [local go_sem] store_c
structure Good (S : Shw) : Prop where
  fine : Fine S
  yes : ∀ e ∈ S.log, e.yes = true
  cost : cost S.log ≤ 10
  len : S.log.length ≤ 24
theorem doE_yes {S T : Shw} {e : Ev} (F : Fine S) (h : doE S e = some T) : e.yes = true := by
  have := F.few
  unfold doE at h
  cases e <;> simp only [doB] at h <;> simp only [Ev.yes]
  all_goals (split at h; (· simp; omega); (· simp at h))
theorem good_do {S T : Shw} {e : Ev} (G : Good S) (he : e.Ok) (h : doE S e = some T) (hc : Go.Proofs.YtfdgijmmgllmgaaGreat.cost (S.log ++ [e]) ≤ 10) (hl : S.log.length ≤ 23) : Good T := by
  obtain ⟨g1, _, _⟩ := do_log h
  have hy := doE_yes G.fine h
  refine ⟨fine_do G.fine he h hc, fun x hx => ?_, by rw [g1]; exact hc, by rw [g1]; simp; omega⟩
  rw [g1] at hx
  rcases List.mem_append.1 hx with h | h
  · exact G.yes x h
  · rw [List.mem_singleton] at h; rw [h]; exact hy
theorem good_start {size step : Nat} (h1 : 1 ≤ size) (h5 : size ≤ 5) (hs : ∃ i, i < 5 ∧ step = stepB i) : Good (start size step) :=
  ⟨fine_start h1 h5 hs, fun e h => absurd h (by simp [start]), by simp [start, Go.Proofs.YtfdgijmmgllmgaaGreat.cost], by simp [start]⟩
theorem good_run {l : List Ev} : ∀ {S T : Shw}, Good S → (∀ e ∈ l, e.Ok) → runE S l = some T → Go.Proofs.YtfdgijmmgllmgaaGreat.cost (S.log ++ l) ≤ 10 → S.log.length + l.length ≤ 24 → Good T := by
  induction l with
  | nil => intro S T F _ h _ _; simp only [runE, Option.some.injEq] at h; subst h; exact F
  | cons e l ih =>
    intro S T F hl h hc hn
    simp only [runE] at h
    cases hd : doE S e with
    | none => rw [hd] at h; simp at h
    | some U =>
      rw [hd] at h
      obtain ⟨g1, _, _⟩ := do_log hd
      have hc' : Go.Proofs.YtfdgijmmgllmgaaGreat.cost (S.log ++ [e] ++ l) ≤ 10 := by simpa using hc
      rw [List.length_cons] at hn
      refine ih (good_do F (hl e (List.mem_cons_self ..)) hd ?_ (by omega)) (fun x hx => hl x (List.mem_cons_of_mem _ hx)) h (by rw [g1]; exact hc') (by rw [g1]; simp; omega)
      rw [cost_append] at hc'
      omega
theorem ticks_can {kind : Int} {g : PtW} {l : List (PtW × PtW)} {n : Nat} (h0 : 0 ≤ kind) (h3 : kind ≤ 3) (few : l.length ≤ 8) (hc : ∀ j, j < n → ∀ b ∈ runL kind g (keptW 0) j l, Can g b) : Ticks kind g.1.1 g.1.2 0 n l.length (fun j => runW kind g 0 l j) (fun j => hitsW kind g 0 l j) := by
  refine ⟨fun j hj => ?_, fun j _ => runW_len _ _ _ _ _, few⟩
  have hl := runL_len kind g (keptW 0) l j
  refine ⟨fun k hk => ?_, by rw [runW_len, runW_len], by unfold hitsW; rw [List.length_map, runW_len, hl], by rw [runW_len]; exact few⟩
  rw [runW_len] at hk
  unfold runW hitsW
  rw [getD_map wd _ (by omega), getD_map (hits kind g) _ (by omega), getD_map wd _ (by rw [runL_len]; omega)]
  show MoveM _ _ _ _ _ (wd (((runL kind g (keptW 0) j l).map (bstep kind g (keptW 0))).getD k default)) _
  rw [getD_map (bstep kind g (keptW 0)) _ (by omega)]
  exact move_of_b h0 h3 (by omega) (hc j hj _ (getD_mem (by omega)))
theorem Fine.tum {S : Shw} (F : Fine S) : TumOk S.kind S.g.1.1 S.g.1.2 0 S.bds.length (S.bds.map wd) := by
  have k3 := F.kin
  have c0 : (0 : Int) ≤ (S.kind : Int) := by omega
  have c3 : (S.kind : Int) ≤ 3 := by omega
  refine ⟨by unfold kindB; simp; omega, pt_is S.g, share_le (by omega), F.few, by simp, fun k hk => ?_, fun k hk => ?_⟩
  · rw [getD_map wd _ hk]
    have h := inWedge_p c0 c3 (S.bds.getD k default).1
    rw [(F.bds _ (getD_mem hk)).2.2.2] at h
    exact h
  · rw [getD_map wd _ hk]
    exact pt_is _
theorem Fine.can {S : Shw} (F : Fine S) (hc : cost S.log ≤ 9) {j : Nat} (hj : j < 6) : ∀ b ∈ runL S.kind S.g (keptW 0) j S.bds, Can S.g b := fun b hb => by
  have k3 := F.kin
  have hst := aB_step (n := cost S.log)
  have htop := aB_top (n := cost S.log + 1) (by omega)
  have hpm := pB_mono (vB (cost S.log)) (show j + 1 ≤ 6 by omega)
  by_cases hn : 1 ≤ cost S.log
  · exact run_far_can (by omega) (by omega) keep0 F.gr (fun b hb => (F.bds b hb).2) (by have := hst hn; omega) hb
  · have h0 : S.bds = [] := List.eq_nil_iff_forall_not_mem.2 fun b hb => hn (F.bds b hb).1
    have h1 := runL_len S.kind S.g (keptW 0) S.bds j
    have h2 : (runL S.kind S.g (keptW 0) j S.bds).length = 0 := by rw [h1, h0]; rfl
    rw [List.eq_nil_of_length_eq_zero h2] at hb
    simp at hb
theorem Fine.run {S : Shw} (F : Fine S) (hc : cost S.log ≤ 9) {n : Nat} (hn : n ≤ 6) : RunM 199 S.kind S.g.1.1 S.g.1.2 0 n S.bds.length (S.bds.map wd) ((runL S.kind S.g (keptW 0) n S.bds).map wd) := by
  have k3 := F.kin
  exact runM (ranM (ticks_can (by omega) (by omega) F.few (fun j hj => F.can hc (by omega))) (by omega) F.tum)
theorem Good.lens {S : Shw} (G : Good S) : ShoLen S.w S.bds.length S.bds.length S.log.length :=
  ⟨G.fine.len, by simp [Shw.w], by simp [Shw.w], by have := G.fine.few; omega, G.fine.few, by have := G.len; omega⟩
theorem Fine.size {S : Shw} (F : Fine S) (w : World) : Calls Tryz.prog 30 #[.int .i64 S.size] w fun e w' => e = .returned (.bool true) ∧ w' = w := by
  have h := isSize_i S.size w
  rwa [show sizeB (S.size : Int) = true by unfold sizeB; have := F.s1; have := F.s5; simp; omega] at h
theorem areDrawn {l : List Shd} {N : Nat} (hl : l.length = N) (hn : N ≤ 12) (h : ∀ s ∈ l, s.Drawn) (a : Option Addr) (cap : Nat) : AreIs a N cap l := by
  subst hl
  exact areIs hn (fun s hs => (h s hs).ok)
theorem Good.ask {S : Shw} (G : Good S) : ShAsk S.w S.bds.length S.bds.length S.log.length true := by
  have F := G.fine
  obtain ⟨i, hi, hs⟩ := F.st
  refine ⟨F.size, ?_, colYes (.inl F.lit.r) (.inl F.lit.g) (.inl F.lit.b), areDrawn F.len (by have := F.few; omega) F.shs, fun w a cap hr => (isT F.tum).call w a cap hr, fun _ => rfl, ?_, ?_, fun _ => ?_⟩
  · show StepIs S.step
    rw [hs]; exact stepIs hi
  · show (0 : Int) ≤ (S.ticks : Int); omega
  · show (S.ticks : Int) ≤ 200; have := F.ticks; have := G.len; omega
  · refine logIs (by simp [Shw.w]) G.len fun e he => ?_
    obtain ⟨x, hx, rfl⟩ := List.mem_map.1 he
    obtain ⟨v, K, _⟩ := evM_of (F.log x hx)
    rw [G.yes x hx] at K
    exact evIs K
theorem Good.is {S : Shw} (G : Good S) : ShIs 10 S.w S.bds.length S.bds.length S.log.length true := shIs G.ask
theorem Good.copy {S : Shw} (G : Good S) : CopyS 29 S.w S.bds.length S.bds.length S.log.length := copyOfShow_i G.lens
set_option maxHeartbeats 16000000 in
theorem tumNo {kind : Int} {g1 g2 ls N : Nat} (hk : kindB kind = true) (YP : PtIs g1 g2 true) (hs : shareB ls = true) (h8 : 8 < N) (w : World) (a : Option Addr) (cap : Nat) : Calls Tryz.prog 34 #[.agg #[.int .i64 kind, .complex .f32 g1 g2, .float .f32 ls, .slice a N cap]] w fun e w' => e = .returned (.bool false) ∧ Below w.heap.size w w' := by
  have YK := fun w => isKind_i kind w
  rw [hk] at YK
  have YS := fun w => isShare_i ls w
  rw [hs] at YS
  have hd : decide ((8 : Int) < (N : Int)) = true := by simp; omega
  have hd2 : decide ((N : Int) > 8) = true := by simp; omega
  go_enter Tryz.func34, Tryz.ntmps34
  go_wp2_with (first | (go_at_call 44; (with_reducible refine (YK _).mono ?_); rintro e w3 ⟨rfl, rfl⟩) | (go_at_call 49; (with_reducible refine (YP.call _).mono ?_); rintro e w4 ⟨rfl, rfl⟩) | (go_at_call 71; (with_reducible refine (YS _).mono ?_); rintro e w4 ⟨rfl, rfl⟩))
  go_ret
  exact ⟨rfl, by (repeat' (first | (with_reducible exact Below.refl _ _) | (with_reducible assumption) | (with_reducible refine Below.alloc ?_ ?_ _) | (with_reducible refine Below.drew ?_) | (with_reducible refine Below.setCell ?_ ?_ _) | (with_reducible refine Below.trans ?_ (Below.mono (by assumption) ?_)) | (with_reducible exact Nat.le_refl _) | omega | (simp only [World.size_alloc, World.size_setCell, World.size_drew]; omega) | (simp; omega) | (simp; done)))⟩
theorem cMeth_add {s : Shd} {z1 z2 : Nat} : Meth 152 (.agg #[.complex .f32 s.a1 s.a2, .complex .f32 s.b1 s.b2, .complex .f32 s.c1 s.c2, .float .f32 s.r, .float .f32 s.g, .float .f32 s.b, .float .f32 s.k, .complex .f32 z1 z2]) "loop.example/g03020/impl.changeShow" 182 (.agg #[.complex .f32 s.a1 s.a2, .complex .f32 s.b1 s.b2, .complex .f32 s.c1 s.c2, .float .f32 s.r, .float .f32 s.g, .float .f32 s.b, .float .f32 s.k, .complex .f32 z1 z2]) :=
  ⟨fun k w => by kernel_rfl, enters_of Tryz.func182 (by kernel_rfl) rfl⟩
theorem cMeth_take {n : Int} : Meth 156 (.agg #[.int .i64 n]) "loop.example/g03020/impl.changeShow" 186 (.agg #[.int .i64 n]) :=
  ⟨fun k w => by kernel_rfl, enters_of Tryz.func186 (by kernel_rfl) rfl⟩
theorem cMeth_light {c : Lit} : Meth 158 (.agg #[.float .f32 c.r, .float .f32 c.g, .float .f32 c.b]) "loop.example/g03020/impl.changeShow" 189 (.agg #[.float .f32 c.r, .float .f32 c.g, .float .f32 c.b]) :=
  ⟨fun k w => by kernel_rfl, enters_of Tryz.func189 (by kernel_rfl) rfl⟩
theorem cMeth_mirrors {n : Int} : Meth 160 (.agg #[.int .i64 n]) "loop.example/g03020/impl.changeShow" 191 (.agg #[.int .i64 n]) :=
  ⟨fun k w => by kernel_rfl, enters_of Tryz.func191 (by kernel_rfl) rfl⟩
theorem cMeth_gravity {z1 z2 : Nat} : Meth 162 (.agg #[.complex .f32 z1 z2]) "loop.example/g03020/impl.changeShow" 193 (.agg #[.complex .f32 z1 z2]) :=
  ⟨fun k w => by kernel_rfl, enters_of Tryz.func193 (by kernel_rfl) rfl⟩
theorem cMeth_push {n : Int} {z1 z2 : Nat} : Meth 164 (.agg #[.int .i64 n, .complex .f32 z1 z2]) "loop.example/g03020/impl.changeShow" 195 (.agg #[.int .i64 n, .complex .f32 z1 z2]) :=
  ⟨fun k w => by kernel_rfl, enters_of Tryz.func195 (by kernel_rfl) rfl⟩
theorem cMeth_wait {n : Int} : Meth 166 (.agg #[.int .i64 n]) "loop.example/g03020/impl.changeShow" 197 (.agg #[.int .i64 n]) :=
  ⟨fun k w => by kernel_rfl, enters_of Tryz.func197 (by kernel_rfl) rfl⟩
end Go.Proofs.YtfdgijmmgllmgaaGreat
namespace Go.Proofs.YtfdgijmmgllmgaaGreat
open Go.ChangeShapes Go.WideShapes Go.ChangeAt Go.RowKit Go.Joins
set_option linter.unusedSimpArgs false
set_option linter.unusedVariables false
set_option maxRecDepth 100000
attribute [local go_sem] store_f
open Ieee Go.Lib
structure ChgE (e : Ev) (s t : Sho) (N K N' : Nat) (T : TypeId) (v r0 : Value) (F : FuncId) : Prop where
  iv : e.iv = .iface T v
  meth : Meth T v "loop.example/g03020/impl.changeShow" F r0
  call : ChgM F r0 s t N N K N' N' true
theorem chg_of {S T : Shw} {e : Ev} (G : Good S) (he : e.Ok) (h : doB S e = some T) (hc : cost (S.log ++ [e]) ≤ 10) (L : List Evw) (K : Nat) : ∃ ty v r0 F, ChgE e { S.w with log := L } { T.w with log := L } S.bds.length K T.bds.length ty v r0 F := by
  have FN := G.fine
  have k3 := FN.kin
  have k8 := FN.few
  have c0 : (0 : Int) ≤ (S.kind : Int) := by omega
  have c3 : (S.kind : Int) ≤ 3 := by omega
  have hm : ({ S.w with log := L } : Sho).bds.length = S.bds.length := by simp [Shw.w]
  have e1 : cost (S.log ++ [e]) = cost S.log + e.big := by rw [cost_append]; simp [cost]
  cases e with
  | add s z =>
    simp only [doB] at h
    split at h
    · rename_i hlt
      simp only [Option.some.injEq] at h
      subst h
      have FI := foldIs c0 c3 z
      refine ⟨_, _, _, _, rfl, cMeth_add, ?_⟩
      have C := chg_add (s := { S.w with log := L }) (N := S.bds.length) (M := S.bds.length) (K := K) (sh := s) (z1 := z.1.1) (z2 := z.1.2) (by omega) (by omega) FN.len FI.call
      have e2 : ({ S with shs := S.shs ++ [s], bds := S.bds ++ [(actP (foldS S.kind z) z, zeroP)] } : Shw).bds.length = S.bds.length + 1 := by simp
      rw [e2]
      have e3 : ({ ({ S with shs := S.shs ++ [s], bds := S.bds ++ [(actP (foldS S.kind z) z, zeroP)] } : Shw).w with log := L } : Sho) = { ({ S.w with log := L } : Sho) with shs := S.shs ++ [s], bds := S.bds.map wd ++ [⟨(actP (foldS S.kind z) z).1.1, (actP (foldS S.kind z) z).1.2, 0, 0⟩] } := by
        simp only [Shw.w, List.map_append, List.map_cons, List.map_nil]; rfl
      rw [e3]
      exact C
    · simp at h
  | take n =>
    simp only [doB] at h
    split at h
    · rename_i hlt
      simp only [Option.some.injEq] at h
      subst h
      refine ⟨_, _, _, _, rfl, cMeth_take, ?_⟩
      have C := chg_take (s := { S.w with log := L }) (N := S.bds.length) (M := S.bds.length) (K := K) (n := n) hlt rfl FN.len hm k8
      have e2 : ({ S with shs := S.shs.take n ++ S.shs.drop (n + 1), bds := S.bds.take n ++ S.bds.drop (n + 1) } : Shw).bds.length = S.bds.length - 1 := by simp; omega
      rw [e2]
      have e3 : ({ ({ S with shs := S.shs.take n ++ S.shs.drop (n + 1), bds := S.bds.take n ++ S.bds.drop (n + 1) } : Shw).w with log := L } : Sho) = { ({ S.w with log := L } : Sho) with shs := S.shs.take n ++ S.shs.drop (n + 1), bds := (S.bds.map wd).take n ++ (S.bds.map wd).drop (n + 1) } := by
        simp only [Shw.w, List.map_append, List.map_take, List.map_drop]
      rw [e3]
      exact C
    · simp at h
  | light c =>
    simp only [doB, Option.some.injEq] at h
    subst h
    exact ⟨_, _, _, _, rfl, cMeth_light, chg_light⟩
  | mirrors k =>
    simp only [doB, Option.some.injEq] at h
    subst h
    have he' : k ≤ 3 := he
    refine ⟨_, _, _, _, rfl, cMeth_mirrors, ?_⟩
    have C := chg_mirrors (s := { S.w with log := L }) (N := S.bds.length) (M := S.bds.length) (K := K) (n := k) (R := (S.bds.map (refold k)).map wd) hm (by simp) k8 fun j hj => by
      have FI := foldIs (kind := k) (by omega) (by omega) (S.bds.getD j default).1
      refine ⟨(foldS k (S.bds.getD j default).1).1, (foldS k (S.bds.getD j default).1).2, ?_⟩
      show Refold k ((S.bds.map wd).getD j default) (((S.bds.map (refold k)).map wd).getD j default) _ _
      rw [getD_map wd _ hj, getD_map wd _ (by simpa using hj), getD_map (refold k) _ hj]
      exact ⟨FI.call, actM_pt _ (syms_range k (by omega) (by omega) _ FI.mem)⟩
    have e2 : ({ S with kind := k, bds := S.bds.map (refold k) } : Shw).bds.length = S.bds.length := by simp
    rw [e2]
    exact C
  | gravity z =>
    simp only [doB, Option.some.injEq] at h
    subst h
    exact ⟨_, _, _, _, rfl, cMeth_gravity, chg_gravity⟩
  | push n z =>
    simp only [doB] at h
    split at h
    · rename_i hlt
      simp only [Option.some.injEq] at h
      subst h
      refine ⟨_, _, _, _, rfl, cMeth_push, ?_⟩
      obtain ⟨h1, h2, _⟩ := FN.bds _ (getD_mem hlt)
      have hb : (Ev.push n z).big = 1 := rfl
      have hv2 : vB (cost S.log) ≤ 54 := by unfold vB; omega
      have J := join_sum (lim_sum h2 he.2 (by omega)).1
      have eb : ({ S.w with log := L } : Sho).bds.getD n default = wd (S.bds.getD n default) := by
        show (S.bds.map wd).getD n default = _
        rw [getD_map wd _ hlt]
      have C := chg_push (s := { S.w with log := L }) (N := S.bds.length) (M := S.bds.length) (K := K) (n := n) hlt hm k8 (by rw [eb]; exact J)
      rw [eb] at C
      have e2 : ({ S with bds := S.bds.set n ((S.bds.getD n default).1, sumP (S.bds.getD n default).2 z) } : Shw).bds.length = S.bds.length := by simp
      rw [e2]
      have e3 : ({ ({ S with bds := S.bds.set n ((S.bds.getD n default).1, sumP (S.bds.getD n default).2 z) } : Shw).w with log := L } : Sho) = { ({ S.w with log := L } : Sho) with bds := (S.bds.map wd).set n (wd ((S.bds.getD n default).1, sumP (S.bds.getD n default).2 z)) } := by
        simp only [Shw.w, List.map_set]
      rw [e3]
      exact C
    · simp at h
  | wait n =>
    simp only [doB, Option.some.injEq] at h
    subst h
    have he' : 1 ≤ n ∧ n ≤ 6 := he
    have hb : (Ev.wait n).big = 1 := rfl
    refine ⟨_, _, _, _, rfl, cMeth_wait, ?_⟩
    have ht := FN.ticks
    have hl := G.len
    have C := chg_wait (s := { S.w with log := L }) (N := S.bds.length) (M := S.bds.length) (K := K) (n := n) (FN.run (by omega) he'.2) (by show (0 : Int) ≤ (S.ticks : Int); omega) (by show (S.ticks : Int) ≤ 300; omega) (by omega)
    have e2 : ({ S with bds := runL S.kind S.g (keptW 0) n S.bds, ticks := S.ticks + n } : Shw).bds.length = S.bds.length := runL_len _ _ _ _ _
    rw [e2]
    have e3 : ({ ({ S with bds := runL S.kind S.g (keptW 0) n S.bds, ticks := S.ticks + n } : Shw).w with log := L } : Sho) = { ({ S.w with log := L } : Sho) with bds := (runL S.kind S.g (keptW 0) n S.bds).map wd, ticks := (S.ticks : Int) + n } := by
      simp only [Shw.w, Int.natCast_add]
    rw [e3]
    exact C
theorem logs (S : Shw) (e : Ev) : S.w.log ++ [e.w] = (S.log ++ [e]).map Ev.w := by simp [Shw.w]
theorem doE_some {S T : Shw} {e : Ev} (G : Good S) (he : e.Ok) (h : doE S e = some T) (hc : cost (S.log ++ [e]) ≤ 10) (hl : S.log.length ≤ 23) : DoM 9 S.w S.bds.length S.bds.length S.log.length e.w T.w T.bds.length T.bds.length T.log.length true := by
  have GT := good_do G he h hc hl
  have hy := doE_yes G.fine h
  obtain ⟨v, V, hv⟩ := evM_of he
  rw [hv hy, hy] at V
  have H := hasB_of e S.bds.length
  have hh : e.has S.bds.length = true := by
    unfold doE at h
    cases e <;> simp only [doB] at h <;> simp only [Ev.has]
    all_goals (split at h; (· rename_i hlt; simp [hlt]); (· simp at h))
  rw [hh] at H
  unfold doE at h
  obtain ⟨U, hU, rfl⟩ := Option.map_eq_some_iff.1 h
  obtain ⟨ty, vv, r0, F, C⟩ := chg_of G he hU hc ((S.log ++ [e]).map Ev.w) (S.log.length + 1)
  rw [C.iv] at V H
  have CC := C.call
  rw [← logs] at CC
  refine do_end (by omega) G.copy V G.is H C.meth CC ?_ (.inr ⟨rfl, ?_, rfl, rfl, ?_⟩)
  · have := GT.is
    rw [show (({ U with log := S.log ++ [e] } : Shw)).log.length = S.log.length + 1 by simp] at this
    rw [logs]
    exact this
  · rw [logs]; rfl
  · simp
theorem doE_none {S : Shw} {e : Ev} (G : Good S) (he : e.Ok) (h : doE S e = none) (hl : S.log.length ≤ 23) : DoM 9 S.w S.bds.length S.bds.length S.log.length e.w S.w S.bds.length S.bds.length S.log.length false := by
  have FN := G.fine
  have k8 := FN.few
  have k3 := FN.kin
  obtain ⟨v, V, hv⟩ := evM_of he
  by_cases hy : e.yes = true
  · rw [hv hy, hy] at V
    have H := hasB_of e S.bds.length
    by_cases hh : e.has S.bds.length = true
    · rw [hh] at H
      have hB : doB S e = none := by simpa [doE] using h
      cases e with
      | add s z =>
        simp only [doB] at hB
        split at hB
        · simp at hB
        · rename_i hge
          have h8 : S.bds.length = 8 := by omega
          have FI := foldIs (kind := (S.kind : Int)) (by omega) (by omega) z
          have C := chg_add (s := { S.w with log := (S.log ++ [Ev.add s z]).map Ev.w }) (N := S.bds.length) (M := S.bds.length) (K := S.log.length + 1) (sh := s) (z1 := z.1.1) (z2 := z.1.2) (by omega) (by omega) FN.len FI.call
          rw [← logs] at C
          refine do_end (by omega) G.copy V G.is H cMeth_add C ?_ (.inl ⟨rfl, rfl, rfl, rfl, rfl⟩)
          obtain ⟨i, hi, hs⟩ := FN.st
          have ht := FN.ticks
          refine shIs ⟨FN.size, by show StepIs S.step; rw [hs]; exact stepIs hi, colYes (.inl FN.lit.r) (.inl FN.lit.g) (.inl FN.lit.b), ?_, fun w a cap _ => tumNo (by unfold kindB; simp [Shw.w]; omega) (pt_is S.g) (share_le (by omega)) (by omega) w a cap, fun h => by simp at h, by show (0 : Int) ≤ (S.ticks : Int); omega, by show (S.ticks : Int) ≤ 200; omega, fun h => by simp at h⟩
          refine areDrawn (by show (S.shs ++ [s]).length = _; simp [FN.len]) (by omega) fun x hx => ?_
          rcases List.mem_append.1 (show x ∈ S.shs ++ [s] from hx) with h | h
          · exact FN.shs x h
          · rw [List.mem_singleton] at h; rw [h]; exact he.1
      | take n => simp only [doB] at hB; simp [Ev.has] at hh; simp [hh] at hB
      | light c => simp [doB] at hB
      | mirrors k => simp [doB] at hB
      | gravity z => simp [doB] at hB
      | push n z => simp only [doB] at hB; simp [Ev.has] at hh; simp [hh] at hB
      | wait n => simp [doB] at hB
    · have h0 : e.has S.bds.length = false := by simpa using hh
      rw [h0] at H
      exact do_no2 G.copy V G.is H
  · have h0 : e.yes = false := by simpa using hy
    rw [h0] at V
    exact do_no1 G.copy V
end Go.Proofs.YtfdgijmmgllmgaaGreat
