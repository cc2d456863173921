/-
  Texts Wm Wn Wo, joined.
-/
import Derived.Test.YtfdgijmmgllmgaaGreatDoorS30
import Derived.Deep.RegionHeld3
namespace Go.Proofs.YtfdgijmmgllmgaaGreatDoor
open Go.ChangeShapes Go.WideShapes Go.ChangeAt Go.RowKit Go.Joins
set_option linter.unusedSimpArgs false
set_option linter.unusedVariables false
set_option maxRecDepth 100000
attribute [local go_sem] store_f
open Ieee Go.Lib
theorem Fine.far {S : Shw} (F : Fine S) (hc : cost S.log ≤ 9) {j : Nat} (hj : j < 6) : ∀ b ∈ runL S.kind S.g (keptW 0) j S.bds, ∃ V A, Lim V b.2 ∧ Lim A b.1 ∧ A + (V + 1) < 1600 ∧ wed S.kind b.1 = true := fun b hb => by
  have k3 := F.kin
  have hst := aB_step (n := cost S.log)
  have htop := aB_top (n := cost S.log + 1) (by omega)
  have hpm := pB_mono (vB (cost S.log)) (show j + 1 ≤ 6 by omega)
  have hp1 : pB (vB (cost S.log)) (j + 1) = pB (vB (cost S.log)) j + (vB (cost S.log) + (j + 1)) := rfl
  by_cases hn : 1 ≤ cost S.log
  · have hs := hst hn
    obtain ⟨h1, h2, h3⟩ := run_far (by omega) (by omega) keep0 F.gr (fun b hb => (F.bds b hb).2) j (by omega) b hb
    exact ⟨_, _, h1, h2, by omega, h3⟩
  · have h0 : S.bds = [] := List.eq_nil_iff_forall_not_mem.2 fun b hb => hn (F.bds b hb).1
    have h1 := runL_len S.kind S.g (keptW 0) S.bds j
    have h2 : (runL S.kind S.g (keptW 0) j S.bds).length = 0 := by rw [h1, h0]; rfl
    rw [List.eq_nil_of_length_eq_zero h2] at hb
    simp at hb
theorem tumS {kind : Int} {g : PtW} {l : List (PtW × PtW)} (h0 : 0 ≤ kind) (h3 : kind ≤ 3) (few : l.length ≤ 8) (hw : ∀ b ∈ l, wed kind b.1 = true) : IsT 99 kind g.1.1 g.1.2 0 l.length (l.map wd) := by
  refine isTS h0 h3 (ptS g.2.1.ok g.2.2.ok) (share_le (by omega)) (by omega) (by simp) few (fun k hk => ?_) (fun k hk => ?_)
  · rw [getD_map wd _ (by omega)]
    have h := wedS h0 h3 (l.getD k default).1
    rw [hw _ (getD_mem (by omega))] at h
    exact inWS (ptS (l.getD k default).1.2.1.ok (l.getD k default).1.2.2.ok) h
  · rw [getD_map wd _ (by omega)]
    exact ptS (l.getD k default).2.2.1.ok (l.getD k default).2.2.2.ok
theorem Fine.stepS {S : Shw} (F : Fine S) (hc : cost S.log ≤ 9) {j : Nat} (hj : j < 6) : StepTuM 138 S.kind S.g.1.1 S.g.1.2 0 S.bds.length (runW S.kind S.g 0 S.bds j) (runW S.kind S.g 0 S.bds (j + 1)) := by
  have k3 := F.kin
  have hl := runL_len S.kind S.g (keptW 0) S.bds j
  have hfar := F.far hc hj
  refine Go.Proofs.YtfdgijmmgllmgaaGreatDoor.stepS ⟨F.few, runW_len _ _ _ _ _, runW_len _ _ _ _ _, ?_, fun k hk => ?_⟩
  · have h := tumS (kind := S.kind) (g := S.g) (l := runL S.kind S.g (keptW 0) j S.bds) (by omega) (by omega) (by rw [hl]; exact F.few) (fun b hb => by obtain ⟨_, _, _, _, _, h⟩ := hfar b hb; exact h)
    rw [hl] at h
    exact h
  · obtain ⟨V, A, h1, h2, h4, _⟩ := hfar ((runL S.kind S.g (keptW 0) j S.bds).getD k default) (getD_mem (by omega))
    have h := move_of_s (kind := S.kind) (ls := 0) (by omega) (by omega) (by omega) F.gr h1 h2 h4
    unfold runW
    rw [getD_map wd _ (by omega), getD_map wd _ (by rw [runL_len]; omega)]
    show MoveS _ _ _ _ _ (wd (((runL S.kind S.g (keptW 0) j S.bds).map (bstep S.kind S.g (keptW 0))).getD k default))
    rw [getD_map (bstep S.kind S.g (keptW 0)) _ (by omega)]
    exact h
theorem doS_of {S T : Shw} {e : Ev} (G : Good S) (he : e.Ok) (h : doB S e = some T) (hc : cost (S.log ++ [e]) ≤ 10) : DoS 69 S.w S.bds.length S.bds.length S.log.length e.w T.w T.bds.length T.bds.length true := by
  have FN := G.fine
  have k3 := FN.kin
  have k8 := FN.few
  have c0 : (0 : Int) ≤ (S.kind : Int) := by omega
  have c3 : (S.kind : Int) ≤ 3 := by omega
  have hm : S.w.bds.length = S.bds.length := by simp [Shw.w]
  have e1 : cost (S.log ++ [e]) = cost S.log + e.big := by rw [cost_append]; simp [cost]
  cases e with
  | add s z =>
    simp only [doB] at h
    split at h
    · rename_i hlt
      simp only [Option.some.injEq] at h
      subst h
      have C := doS_add (s := S.w) (N := S.bds.length) (M := S.bds.length) (K := S.log.length) (sh := s) (z1 := z.1.1) (z2 := z.1.2) (by omega) (by omega) (foldS_pt c0 c3 z)
      have e2 : ({ S with shs := S.shs ++ [s], bds := S.bds ++ [(actP (foldS S.kind z) z, zeroP)] } : Shw).bds.length = S.bds.length + 1 := by simp
      rw [e2]
      have e3 : ({ S with shs := S.shs ++ [s], bds := S.bds ++ [(actP (foldS S.kind z) z, zeroP)] } : Shw).w = { S.w with shs := S.shs ++ [s], bds := S.bds.map wd ++ [⟨(actP (foldS S.kind z) z).1.1, (actP (foldS S.kind z) z).1.2, 0, 0⟩] } := by
        simp only [Shw.w, List.map_append, List.map_cons, List.map_nil]; rfl
      rw [e3]
      exact C
    · simp at h
  | take n =>
    simp only [doB] at h
    split at h
    · rename_i hlt
      simp only [Option.some.injEq] at h
      subst h
      have C := doS_take (s := S.w) (N := S.bds.length) (M := S.bds.length) (K := S.log.length) (n := n) hlt rfl FN.len hm k8
      have e2 : ({ S with shs := S.shs.take n ++ S.shs.drop (n + 1), bds := S.bds.take n ++ S.bds.drop (n + 1) } : Shw).bds.length = S.bds.length - 1 := by simp; omega
      rw [e2]
      have e3 : ({ S with shs := S.shs.take n ++ S.shs.drop (n + 1), bds := S.bds.take n ++ S.bds.drop (n + 1) } : Shw).w = { S.w with shs := S.shs.take n ++ S.shs.drop (n + 1), bds := (S.bds.map wd).take n ++ (S.bds.map wd).drop (n + 1) } := by
        simp only [Shw.w, List.map_append, List.map_take, List.map_drop]
      rw [e3]
      exact C
    · simp at h
  | light c =>
    simp only [doB, Option.some.injEq] at h
    subst h
    exact doS_light
  | mirrors k =>
    simp only [doB, Option.some.injEq] at h
    subst h
    have he' : k ≤ 3 := he
    have Mi := mirS (k0 := S.kind) (n := k) (g1 := S.g.1.1) (g2 := S.g.1.2) (M := S.bds.length) (L := S.bds.map wd) (R := (S.bds.map (refold k)).map wd) (by simp) (by simp) k8 fun j hj => by
      have FI := foldIs (kind := k) (by omega) (by omega) (S.bds.getD j default).1
      refine ⟨(foldS k (S.bds.getD j default).1).1, (foldS k (S.bds.getD j default).1).2, ?_⟩
      rw [getD_map wd _ hj, getD_map wd _ (by simpa using hj), getD_map (refold k) _ hj]
      exact ⟨foldS_pt (by omega) (by omega) _, actS_pt (syms_range k (by omega) (by omega) _ FI.mem) _⟩
    have C := doS_mirrors (s := S.w) (N := S.bds.length) (K := S.log.length) Mi
    have e2 : ({ S with kind := k, bds := S.bds.map (refold k) } : Shw).bds.length = S.bds.length := by simp
    rw [e2]
    exact C
  | gravity z =>
    simp only [doB, Option.some.injEq] at h
    subst h
    exact doS_gravity
  | push n z =>
    simp only [doB] at h
    split at h
    · rename_i hlt
      simp only [Option.some.injEq] at h
      subst h
      obtain ⟨h1, h2, _⟩ := FN.bds _ (getD_mem hlt)
      have hb : (Ev.push n z).big = 1 := rfl
      have hv2 : vB (cost S.log) ≤ 54 := by unfold vB; omega
      have J := join_lim h2 he.2 (by omega)
      have eb : S.w.bds.getD n default = wd (S.bds.getD n default) := by
        show (S.bds.map wd).getD n default = _
        rw [getD_map wd _ hlt]
      have C := doS_push (s := S.w) (N := S.bds.length) (M := S.bds.length) (K := S.log.length) (n := n) hlt hm k8 (by rw [eb]; exact J)
      rw [eb] at C
      have e2 : ({ S with bds := S.bds.set n ((S.bds.getD n default).1, sumP (S.bds.getD n default).2 z) } : Shw).bds.length = S.bds.length := by simp
      rw [e2]
      have e3 : ({ S with bds := S.bds.set n ((S.bds.getD n default).1, sumP (S.bds.getD n default).2 z) } : Shw).w = { S.w with bds := (S.bds.map wd).set n (wd ((S.bds.getD n default).1, sumP (S.bds.getD n default).2 z)) } := by
        simp only [Shw.w, List.map_set]
      rw [e3]
      exact C
    · simp at h
  | wait n =>
    simp only [doB, Option.some.injEq] at h
    subst h
    have he' : 1 ≤ n ∧ n ≤ 6 := he
    have hb : (Ev.wait n).big = 1 := rfl
    have ht := FN.ticks
    have hl := G.len
    have Wt := waitS (s := S.w) (L := fun j => runW S.kind S.g 0 S.bds j) (N := S.bds.length) (M := S.bds.length) (K := S.log.length) (n := n) rfl (by omega) (by show (0 : Int) ≤ (S.ticks : Int); omega) (by show (S.ticks : Int) ≤ 300; omega) (fun j hj => FN.stepS (by omega) (by omega))
    have C := doS_wait Wt (by simp [Shw.w]) (by
      by_cases h0 : S.bds = []
      · right
        have h1 := runW_len S.kind S.g 0 S.bds n
        exact List.eq_nil_of_length_eq_zero (by rw [h1, h0]; rfl)
      · left
        obtain ⟨b, hb⟩ := List.exists_mem_of_ne_nil _ h0
        have h1 := (FN.bds b hb).1
        have h2 := cost_le S.log
        omega)
    have e2 : ({ S with bds := runL S.kind S.g (keptW 0) n S.bds, ticks := S.ticks + n } : Shw).bds.length = S.bds.length := runL_len _ _ _ _ _
    rw [e2]
    have e3 : ({ S with bds := runL S.kind S.g (keptW 0) n S.bds, ticks := S.ticks + n } : Shw).w = S.w.at_ (fun j => runW S.kind S.g 0 S.bds j) n := by
      simp only [Shw.w, Sho.at_, runW, Int.natCast_add]
    rw [e3]
    exact C
end Go.Proofs.YtfdgijmmgllmgaaGreatDoor
namespace Go.Proofs.YtfdgijmmgllmgaaGreatDoor
open Go.ChangeShapes Go.WideShapes Go.ChangeAt Go.RowKit Go.Joins
set_option linter.unusedSimpArgs false
set_option linter.unusedVariables false
set_option maxRecDepth 100000
attribute [local go_sem] store_f
open Ieee Go.Lib
attribute [local go_sem] store_c
theorem own_cap {W : World} {B T sz n c : Nat} {a : Option Addr} {xs : List Value} (h : W.ownsRow B T sz (.slice a n c) n xs) : n ≤ c := by
  rcases h.2 with ⟨e, e0⟩ | ⟨g', cap, cur, e1, hb, hg, hnc, _⟩
  · omega
  · cases e1; exact hnc
structure DoMC (F : FuncId) (s : Sho) (N M K : Nat) (e : Evw) (t : Sho) (N' M' K' : Nat) (p : Bool) : Prop where
  call : ∀ (w : World) (a b l : Option Addr) (ca cb cl : Nat), ShoIn w s a b l → Calls Tryz.prog F #[.agg #[.int .i64 s.size, .float .f32 s.step, .float .f32 s.lit.r, .float .f32 s.lit.g, .float .f32 s.lit.b, .slice a N ca, .int .i64 s.kind, .complex .f32 s.g1 s.g2, .float .f32 0, .slice b M cb, .int .i64 s.ticks, .slice l K cl], .agg #[.int .i64 e.kind, .int .i64 e.n, .complex .f32 e.z1 e.z2, .complex .f32 e.s.a1 e.s.a2, .complex .f32 e.s.b1 e.s.b2, .complex .f32 e.s.c1 e.s.c2, .float .f32 e.s.r, .float .f32 e.s.g, .float .f32 e.s.b, .float .f32 e.s.k, .float .f32 e.l.r, .float .f32 e.l.g, .float .f32 e.l.b]] w fun r w' => ∃ a' b' l' ca' cb' cl', ShoRet w r w' t N' M' K' a' b' l' ca' cb' cl' p ∧ K' ≤ cl'
set_option maxHeartbeats 32000000 in
theorem do_no1S {s : Sho} {N M K : Nat} {e : Evw} (C : CopyS 68 s N M K) (S : ShIs 65 s N M K true) (V : EvIs 67 e false) : DoMC 35 s N M K e s N M K false := ⟨fun w a b l ca cb cl hr => by
  have D0 := Lib.hid (DoBox.start w s N M K e a b l ca cb cl hr)
  clear hr
  go_enter Tryz.func35, Tryz.ntmps35
  go_wp2_with fail
  generalize ((w.alloc (.cells #[.int .i64 s.size, .float .f32 s.step, .float .f32 s.lit.r, .float .f32 s.lit.g, .float .f32 s.lit.b, .slice a N ca, .int .i64 s.kind, .complex .f32 s.g1 s.g2, .float .f32 0, .slice b M cb, .int .i64 s.ticks, .slice l K cl] 34)).alloc (.cells #[.int .i64 e.kind, .int .i64 e.n, .complex .f32 e.z1 e.z2, .complex .f32 e.s.a1 e.s.a2, .complex .f32 e.s.b1 e.s.b2, .complex .f32 e.s.c1 e.s.c2, .float .f32 e.s.r, .float .f32 e.s.g, .float .f32 e.s.b, .float .f32 e.s.k, .float .f32 e.l.r, .float .f32 e.l.g, .float .f32 e.l.b] 38)).alloc (.cells #[.int .i64 0, .float .f32 0, .float .f32 0, .float .f32 0, .float .f32 0, .slice Option.none 0 0, .int .i64 0, .complex .f32 0 0, .float .f32 0, .slice Option.none 0 0, .int .i64 0, .slice Option.none 0 0] 34) = X at *
  refine (S.call _ _ _ _ _ _ _ D0.out.inn).mono ?_
  rintro r w1 ⟨rfl, hb⟩
  have D1 := Lib.hid (D0.out.mono hb)
  clear hb D0 S
  (obtain ⟨c0, c1, c2, c3, c4, c5, c6, c7, c8, c9, c10, c11, c12⟩ := blk13 (D1.out.ev))
  have l0 := D1.out.ev.lt
  go_wp2_with fail
  refine (V.call _).mono ?_
  rintro r w2 ⟨rfl, hb⟩
  have D2 := Lib.hid (D1.out.mono hb)
  clear hb D1 V c0 c1 c2 c3 c4 c5 c6 c7 c8 c9 c10 c11 c12 l0
  (obtain ⟨p0, p1, p2, p3, p4, p5, p6, p7, p8, p9, p10, p11⟩ := blk12 (D2.out.sh))
  have l0 := D2.out.sh.lt
  go_wp2_with fail
  refine (C.call _ _ _ _ _ _ _ D2.out.inn).mono ?_
  rintro r w9 ⟨a2, b2, l2, ca2, cb2, cl2, ⟨rfl, hown, hb⟩⟩
  have D9 := Lib.hid (D2.out.mono hb)
  have O2 := Lib.hid hown.in_
  have KC := Lib.hid (own_cap hown.lg)
  clear hb hown D2 C p0 p1 p2 p3 p4 p5 p6 p7 p8 p9 p10 p11 l0
  (obtain ⟨q0, q1, q2, q3, q4, q5, q6, q7, q8, q9, q10, q11⟩ := blk12 (D9.out.res))
  (have h0 := D9.out.res.free 0; have h1 := D9.out.res.free 1; have h2 := D9.out.res.free 2; have h3 := D9.out.res.free 3; have h4 := D9.out.res.free 4; have h5 := D9.out.res.free 5; have h6 := D9.out.res.free 6; have h7 := D9.out.res.free 7; have h8 := D9.out.res.free 8; have h9 := D9.out.res.free 9; have h10 := D9.out.res.free 10; have h11 := D9.out.res.free 11)
  have l2' := D9.out.res.lt
  have P5 := Lib.hid (put_z (t := s) (x' := .slice a2 N ca2) (y' := .slice b2 M cb2) (z' := .slice l2 K cl2) D9.out.res)
  go_wp2_with fail
  (obtain ⟨e0, e1, e2, e3, e4, e5, e6, e7, e8, e9, e10, e11⟩ := blk12 (P5.out))
  have hB := D9.out.below
  refine bodyPost_ret (v := .tuple #[.agg #[.int .i64 s.size, .float .f32 s.step, .float .f32 s.lit.r, .float .f32 s.lit.g, .float .f32 s.lit.b, .slice a2 N ca2, .int .i64 s.kind, .complex .f32 s.g1 s.g2, .float .f32 0, .slice b2 M cb2, .int .i64 s.ticks, .slice l2 K cl2], .bool false]) (by simp [results, Tryz.results35, go_sem, e0, e1, e2, e3, e4, e5, e6, e7, e8, e9, e10, e11]) rfl ⟨a2, b2, l2, ca2, cb2, cl2, ⟨rfl, O2.out.grownAt grown12 q1, below12 hB (by omega)⟩, KC.out⟩⟩
set_option maxHeartbeats 16000000 in
theorem newMS {kind size : Int} {step : Nat} {c : Lit} (S : ShIs 65 (bare kind size step c) 0 0 0 true) : NewM 32 kind size step c (bare kind size step c) := ⟨fun w => by
  go_enter Tryz.func32, Tryz.ntmps32
  go_wp2_with fail
  generalize hX : ((w.alloc (.cells #[.float .f32 c.r, .float .f32 c.g, .float .f32 c.b] 26)).alloc (.cells #[.int .i64 0, .float .f32 0, .float .f32 0, .float .f32 0, .float .f32 0, .slice Option.none 0 0, .int .i64 0, .complex .f32 0 0, .float .f32 0, .slice Option.none 0 0, .int .i64 0, .slice Option.none 0 0] 34)).alloc (.cells #[.int .i64 size, .float .f32 step, .float .f32 c.r, .float .f32 c.g, .float .f32 c.b, .slice Option.none 0 0, .int .i64 kind, .complex .f32 0 0, .float .f32 0, .slice Option.none 0 0, .int .i64 0, .slice Option.none 0 0] 34) = X
  have R0 : Hid (Blk X (w.heap.size + 1) #[.int .i64 0, .float .f32 0, .float .f32 0, .float .f32 0, .float .f32 0, .slice Option.none 0 0, .int .i64 0, .complex .f32 0 0, .float .f32 0, .slice Option.none 0 0, .int .i64 0, .slice Option.none 0 0] 34) := by rw [← hX]; exact (Blk.newAt (by simp)).alloc
  have B0 : Hid (Blk X (w.heap.size + 1 + 1) #[.int .i64 size, .float .f32 step, .float .f32 c.r, .float .f32 c.g, .float .f32 c.b, .slice Option.none 0 0, .int .i64 kind, .complex .f32 0 0, .float .f32 0, .slice Option.none 0 0, .int .i64 0, .slice Option.none 0 0] 34) := by rw [← hX]; exact Blk.newAt (by simp)
  have G0 : Hid (Below w.heap.size w X) := by rw [← hX]; show Below w.heap.size w _; (repeat' (first | (with_reducible exact Below.refl _ _) | (with_reducible assumption) | (with_reducible refine Below.alloc ?_ ?_ _) | (with_reducible refine Below.drew ?_) | (with_reducible refine Below.setCell ?_ ?_ _) | (with_reducible refine Below.trans ?_ (Below.mono (by assumption) ?_)) | (with_reducible exact Nat.le_refl _) | omega | (simp only [World.size_alloc, World.size_setCell, World.size_drew]; omega) | (simp; omega) | (simp; done)))
  clear hX
  refine (S.call _ Option.none Option.none Option.none 0 0 0 (bare_in _ _ _ _ _)).mono ?_
  rintro r w1 ⟨rfl, hb⟩
  have B1 := B0.out.below hb
  have R1 := R0.out.below hb
  have G1 : Hid (Below w.heap.size w w1) := G0.out.trans (hb.mono G0.out.size)
  clear hb R0 B0 G0 S
  (obtain ⟨p0, p1, p2, p3, p4, p5, p6, p7, p8, p9, p10, p11⟩ := blk12 (B1))
  (obtain ⟨q0, q1, q2, q3, q4, q5, q6, q7, q8, q9, q10, q11⟩ := blk12 (R1))
  (have h0 := R1.free 0; have h1 := R1.free 1; have h2 := R1.free 2; have h3 := R1.free 3; have h4 := R1.free 4; have h5 := R1.free 5; have h6 := R1.free 6; have h7 := R1.free 7; have h8 := R1.free 8; have h9 := R1.free 9; have h10 := R1.free 10; have h11 := R1.free 11)
  have l1 := R1.lt
  have l2 := B1.lt
  have P5 := Lib.hid (put_z (t := bare kind size step c) (x' := .slice Option.none 0 0) (y' := .slice Option.none 0 0) (z' := .slice Option.none 0 0) R1)
  clear R1 B1
  simp only [bare] at P5
  go_wp2_with fail
  (obtain ⟨e0, e1, e2, e3, e4, e5, e6, e7, e8, e9, e10, e11⟩ := blk12 (P5.out))
  refine bodyPost_ret (v := .tuple #[.agg #[.int .i64 (bare kind size step c).size, .float .f32 (bare kind size step c).step, .float .f32 (bare kind size step c).lit.r, .float .f32 (bare kind size step c).lit.g, .float .f32 (bare kind size step c).lit.b, .slice Option.none 0 0, .int .i64 (bare kind size step c).kind, .complex .f32 (bare kind size step c).g1 (bare kind size step c).g2, .float .f32 0, .slice Option.none 0 0, .int .i64 (bare kind size step c).ticks, .slice Option.none 0 0], .bool true]) (by simp [results, Tryz.results32, go_sem, bare, e0, e1, e2, e3, e4, e5, e6, e7, e8, e9, e10, e11]) rfl ⟨rfl, ?_⟩
  exact below12 G1.out (by omega)⟩
end Go.Proofs.YtfdgijmmgllmgaaGreatDoor
namespace Go.Proofs.YtfdgijmmgllmgaaGreatDoor
open Go.ChangeShapes Go.WideShapes Go.ChangeAt Go.RowKit Go.Joins
set_option linter.unusedSimpArgs false
set_option linter.unusedVariables false
set_option maxRecDepth 100000
attribute [local go_sem] store_f
open Ieee Go.Lib
attribute [local go_sem] store_c
theorem stepB_s0 {i : Nat} (hi : i < 5) : (FloatKind.f32.format.order (stepB i) 0 == some .lt) = false ∧ (FloatKind.f32.format.order (stepB i) 0 == some .eq) = false ∧ (FloatKind.f32.format.order (stepB i) 1132462080 == some .gt) = false := by
  rcases (by omega : i = 0 ∨ i = 1 ∨ i = 2 ∨ i = 3 ∨ i = 4) with rfl | rfl | rfl | rfl | rfl <;> exact ⟨by kernel_rfl, by kernel_rfl, by kernel_rfl⟩
theorem Good.askS {S : Shw} (G : Good S) : ShAskS S.w S.bds.length S.bds.length S.log.length true := by
  have F := G.fine
  have k3 := F.kin
  obtain ⟨i, hi, hs⟩ := F.st
  obtain ⟨s0, s1, s2⟩ := stepB_s0 hi
  rw [← hs] at s0 s1 s2
  have T := tumS (kind := S.kind) (g := S.g) (l := S.bds) (by omega) (by omega) F.few (fun b hb => (F.bds b hb).2.2.2)
  refine ⟨lieM_yes (by show (1 : Int) ≤ (S.size : Int); have := F.s1; omega) (by show (S.size : Int) ≤ 8; have := F.s5; omega), fun w => l1Single_yes _ w (sub_self G.fin.step), s0, s1, s2, colS_ok F.lit, aresS F.len (by have := F.few; omega) F.shs, fun w a cap hr => T.call w a cap hr, fun _ => rfl, lieM_yes (by show (0 : Int) ≤ (S.ticks : Int); omega) (by show (S.ticks : Int) ≤ 200; have := F.ticks; have := G.len; omega), fun _ => G.len, by simp [Shw.w], fun _ e he => ?_⟩
  obtain ⟨x, hx, rfl⟩ := List.mem_map.1 he
  have K := evS_of (F.log x hx)
  rw [G.yes x hx] at K
  exact K
theorem Good.isS {S : Shw} (G : Good S) : ShIs 65 S.w S.bds.length S.bds.length S.log.length true := shIsS G.askS
theorem Good.copyS {S : Shw} (G : Good S) : CopyS 68 S.w S.bds.length S.bds.length S.log.length := copyShowS G.lens
theorem Fine.newS {S : Shw} (F : Fine S) : NewM 32 0 S.size S.step lit0 (bare 0 S.size S.step lit0) := newMS F.start.isS
theorem doE_no1S {S : Shw} {e : Ev} (G : Good S) (he : e.Ok) (h : e.yes = false) : DoMC 35 S.w S.bds.length S.bds.length S.log.length e.w S.w S.bds.length S.bds.length S.log.length false := by
  have V := evS_of he
  rw [h] at V
  exact do_no1S G.copyS G.isS V
set_option maxHeartbeats 16000000 in
theorem tumNoS {kind : Int} {g1 g2 N : Nat} (h0 : 0 ≤ kind) (h3 : kind ≤ 3) (P : PtS g1 g2) (h8 : 8 < N) (w : World) (a : Option Addr) (cap : Nat) : Calls Tryz.prog 99 #[.agg #[.int .i64 kind, .complex .f32 g1 g2, .float .f32 0, .slice a N cap]] w fun e w' => e = .returned (.bool false) ∧ Below w.heap.size w w' := by
  have YK := lieM_yes h0 h3
  have YS := partS_ok (x := 0) (by omega)
  have hd : decide ((8 : Int) < (N : Int)) = true := by simp; omega
  go_enter Tryz.func99, Tryz.ntmps99
  go_wp2_with fail
  have M0 : Hid (Blk (w.alloc (.cells #[.int .i64 kind, .complex .f32 g1 g2, .float .f32 0, .slice a N cap] 31)) w.heap.size #[.int .i64 kind, .complex .f32 g1 g2, .float .f32 0, .slice a N cap] 31) := Blk.new _ _ _
  have G0 : Hid (Below w.heap.size w (w.alloc (.cells #[.int .i64 kind, .complex .f32 g1 g2, .float .f32 0, .slice a N cap] 31))) := (Below.refl _ _).alloc (Nat.le_refl _) _
  refine (YK.call _).mono ?_
  rintro e w1 ⟨rfl, hb⟩
  have M1 := Lib.hid (M0.out.below hb)
  have G1 : Hid (Below w.heap.size w w1) := G0.out.trans (hb.mono G0.out.size)
  clear hb M0 G0 YK
  (obtain ⟨m0, m1, m2, m3⟩ := blk4 (M1.out))
  have l1 := M1.out.lt
  go_wp2_with fail
  refine (P.call _).mono ?_
  rintro e w2 ⟨rfl, hb⟩
  have M2 := Lib.hid (M1.out.below hb)
  have G2 : Hid (Below w.heap.size w w2) := G1.out.trans (hb.mono G1.out.size)
  clear hb M1 G1 m0 m1 m2 m3 P l1
  (obtain ⟨m0, m1, m2, m3⟩ := blk4 (M2.out))
  have l1 := M2.out.lt
  go_wp2_with fail
  refine (YS.call _).mono ?_
  rintro e w3 ⟨rfl, hb⟩
  have M3 := Lib.hid (M2.out.below hb)
  have G3 : Hid (Below w.heap.size w w3) := G2.out.trans (hb.mono G2.out.size)
  clear hb M2 G2 m0 m1 m2 m3 YS l1
  (obtain ⟨m0, m1, m2, m3⟩ := blk4 (M3.out))
  have l1 := M3.out.lt
  go_wp2
  go_ret
  exact ⟨rfl, G3.out⟩
end Go.Proofs.YtfdgijmmgllmgaaGreatDoor
