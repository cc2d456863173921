/-
  Texts Ql, joined.
-/
import Derived.Test.YtfdgijmmgllmgaaGreatR43
import Derived.Test.YtfdgijmmgllmgaaGreatR45
import Derived.Test.YtfdgijmmgllmgaaGreatR46
import Derived.Test.YtfdgijmmgllmgaaGreatR07
import Derived.Test.YtfdgijmmgllmgaaGreatR05
import Derived.Test.YtfdgijmmgllmgaaGreatR21
namespace Go.Proofs.YtfdgijmmgllmgaaGreat
open Go.ChangeShapes Go.WideShapes Go.ChangeAt Go.RowKit Go.Joins
set_option linter.unusedSimpArgs false
set_option linter.unusedVariables false
set_option maxRecDepth 100000
attribute [local go_sem] store_f
open Ieee Go.Lib
structure Topq (T : Shw) (z : Nat) (m : List Lit) : Prop where
  rep : RepM 12 T.w T.bds.length T.bds.length T.log.length T.w T.bds.length T.bds.length T.log.length
  same : SameSM 11 T.w T.bds.length T.bds.length T.log.length
  seen : SeenM T.w T.bds.length T.bds.length T.log.length z m
  spr : ∀ g1 c1, SprPic T.w.kind z (some ⟨g1, 0, Option.none⟩) c1 m m
  sp : ∀ g1 c1 g2 c2, SameM z (some ⟨g1, 0, Option.none⟩) c1 m z (some ⟨g2, 0, Option.none⟩) c2 m true
  wed : ∀ j, j < T.bds.length → WedM T.w.kind (T.w.bds.getD j default).a1 (T.w.bds.getD j default).a2 true
  len : T.w.bds.length = T.bds.length
  few : T.bds.length ≤ 8
theorem topq {T : Shw} (H : Told T) (hc : cost T.log ≤ 10) (hn : T.log.length ≤ 24) : ∃ z m, Topq T z m := by
  have G := H.good hc hn
  have F := G.fine
  have k3 := F.kin
  have h0 : (0 : Int) ≤ (T.kind : Int) := by omega
  have h3 : (T.kind : Int) ≤ 3 := by omega
  obtain ⟨m, P, HS⟩ := G.seen
  have h8 : T.size ≤ 8 := by have := F.s5; omega
  have hk : kindB (T.kind : Int) = true := by unfold kindB; simp; omega
  refine ⟨T.size, m, ⟨H.replay hc hn, G.same, HS T G rfl rfl rfl rfl rfl rfl, fun g1 c1 => ?_, pic_same h8 P, fun j hj => ?_, by simp [Shw.w], F.few⟩⟩
  · have h := sprPic (a := some ⟨g1, 0, Option.none⟩) (cap := c1) hk P.pic
    rwa [P.spr] at h
  · show WedM (T.kind : Int) ((T.bds.map wd).getD j default).a1 ((T.bds.map wd).getD j default).a2 true
    rw [getD_map wd _ hj]
    have h := inWedge_p h0 h3 (T.bds.getD j default).1
    rw [(F.bds _ (getD_mem hj)).2.2.2] at h
    exact h
structure Orb (kd : Int) (x y pa pb : Nat) (t : Int) (f : Bool) (il : List PtW) : Prop where
  fold : FoldM kd x y pa pb t f
  each : ∀ q ∈ il, ∃ t f, FoldM kd q.1.1 q.1.2 pa pb t f
  orb : ∀ w, Calls Tryz.prog 23 #[.int .i64 kd, .complex .f32 x y] w fun e w' => Orbit w e w' il
  fa : Fin32 pa
  fb : Fin32 pb
  few : il.length ≤ 8
theorem orb_of {kind : Nat} {x y : Nat} (hk : kind < 4) (hx : okB x = true) (hy : okB y = true) : ∃ pa pb t f il, Orb (kind : Int) x y pa pb t f il := by
  have k0 : (0 : Int) ≤ (kind : Int) := by omega
  have k3 : (kind : Int) ≤ 3 := by omega
  have hrg := syms_range (kind : Int) k0 k3
  have hsz := symsTo_le (kind : Int) 8
  have SM : SymsM (kind : Int) (symsTo kind 8) := ⟨fun w => symsOf_i kind w⟩
  have PY : PtYes x y := ⟨fun w => isPoint_yes x y w (ok_in hx) (ok_in hy)⟩
  have AA := acts_of hrg hx hy
  obtain ⟨n, FN⟩ := first_of k0 k3 (ptOf hx hy)
  have FM := foldPoint_i SM hsz PY AA ⟨fun k hk => inWedge_p k0 k3 _⟩ FN
  have hmem := getD_memS FN.lt
  refine ⟨_, _, _, _, imgs (symsTo kind 8) (ptOf hx hy), ⟨FM, fun q hq => ?_, fun w => orbitOf_i ⟨fun H => sort_m H⟩ SM hsz PY AA w, (actP ((symsTo (kind : Int) 8).getD n (0, false)) (ptOf hx hy)).2.1.cl.fin, (actP ((symsTo (kind : Int) 8).getD n (0, false)) (ptOf hx hy)).2.2.cl.fin, by rw [imgs_len]; exact hsz⟩⟩
  obtain ⟨nq, FQ⟩ := first_of k0 k3 q
  have FMq := foldPoint_i SM hsz ⟨fun w => isPoint_yes _ _ w (ok_in q.2.1.ok) (ok_in q.2.2.ok)⟩ (acts_pt hrg q) ⟨fun k hk => inWedge_p k0 k3 _⟩ FQ
  rw [fold_same k0 k3 (ptOf hx hy) q hq hmem (getD_memS FQ.lt) FN.yes FQ.yes] at FMq
  exact ⟨_, _, FMq⟩
end Go.Proofs.YtfdgijmmgllmgaaGreat
