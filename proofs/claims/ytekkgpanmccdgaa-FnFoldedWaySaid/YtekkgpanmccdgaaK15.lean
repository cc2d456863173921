/-
  Texts of this proof, joined: Tn.
-/
import Derived.Test.YtekkgpanmccdgaaK14
/-
  A way between mirrors is a straight way that is folded.
-/
namespace Go.Proofs.Ytekkgpanmccdgaa
open Go.ChangeShapes Go.WideShapes Go.ChangeAt Go.RowKit Go.Joins
set_option linter.unusedSimpArgs false
set_option linter.unusedVariables false
set_option maxRecDepth 100000
attribute [local go_sem] store_f
open Ieee Go.Lib

def wayP (z v : PtW) : Nat → PtW
  | 0 => z
  | j + 1 => sumP (wayP z v j) v
theorem lim_way {z v : PtW} (hz : Lim 640 z) (hv : Lim 5 v) : ∀ j, j ≤ 24 → Lim (640 + 5 * j) (wayP z v j)
  | 0, _ => hz
  | j + 1, h => by
    rw [wayP]
    exact (lim_sum (lim_way hz hv j (by omega)) hv (by omega)).2.mono (by omega)
theorem in_way {z v : PtW} (hz : Lim 640 z) (hv : Lim 5 v) {j : Nat} (h : j < 24) : InSum (wayP z v j) v := (lim_sum (lim_way hz hv j (by omega)) hv (by omega)).1
def wayW (x y : Nat) (z v : PtW) (j : Nat) : Nat × Nat := if j = 0 then (x, y) else (wayP z v j).1
theorem wayP_zero (z v : PtW) : wayP z v 0 = z := by rw [wayP]
theorem wayP_succ (z v : PtW) (j : Nat) : wayP z v (j + 1) = sumP (wayP z v j) v := by rw [wayP]
theorem wayW_zero (x y : Nat) (z v : PtW) : wayW x y z v 0 = (x, y) := by unfold wayW; rw [if_pos rfl]
theorem wayW_succ (x y : Nat) (z v : PtW) (j : Nat) : wayW x y z v (j + 1) = (wayP z v (j + 1)).1 := by unfold wayW; rw [if_neg (Nat.succ_ne_zero j)]
theorem vX_eq (p : PtW) : vX p = valOf F32 p.1.1 := rfl
theorem vY_eq (p : PtW) : vY p = valOf F32 p.1.2 := rfl
theorem vX_ptOf {x y : Nat} (hx : okB x = true) (hy : okB y = true) : vX (ptOf hx hy) = valOf F32 x := by
  show valOf F32 (cleanB x) = _
  exact val_cleanM (ok_fin hx)
theorem vY_ptOf {x y : Nat} (hx : okB x = true) (hy : okB y = true) : vY (ptOf hx hy) = valOf F32 y := by
  show valOf F32 (cleanB y) = _
  exact val_cleanM (ok_fin hy)
theorem way_mk {x y n : Nat} {z v : PtW} (hx : okB x = true) (hy : okB y = true) (e1 : vX z = valOf F32 x) (e2 : vY z = valOf F32 y) (hn : n ≤ 64) (H : ∀ j, j < n → InSum (wayP z v j) v) : Way (wayW x y z v) v.1.1 v.1.2 n := by
  refine ⟨?_, pt_is v, fun j hj => ?_, fun j hj => ?_, hn⟩
  · rw [wayW_zero]
    exact ptYes (ok_in hx) (ok_in hy)
  · have I := H j hj
    rcases j with _ | j
    · rw [wayW_zero, wayW_succ, wayP_succ, sumP_1 I, wayP_zero, e1, e2, vX_eq, vY_eq]
      exact join_s (sum2 (ok_fin hx) v.2.1.cl.fin) (sum2 (ok_fin hy) v.2.2.cl.fin)
    · rw [wayW_succ, wayW_succ, wayP_succ z v (j + 1)]
      exact join_sum I
  · rw [wayW_succ]
    exact pt_is _

theorem fold_raw {kind : Int} {x y : Nat} (h0 : 0 ≤ kind) (h3 : kind ≤ 3) (hx : okB x = true) (hy : okB y = true) : FoldM kind x y (actP (foldS kind (ptOf hx hy)) (ptOf hx hy)).1.1 (actP (foldS kind (ptOf hx hy)) (ptOf hx hy)).1.2 (foldS kind (ptOf hx hy)).1 (foldS kind (ptOf hx hy)).2 := by
  obtain ⟨n, F⟩ := first_of h0 h3 (ptOf hx hy)
  have hrg := syms_range kind h0 h3
  have SM : SymsM kind (symsTo kind 8) := ⟨fun w => symsOf_i kind w⟩
  have FM := foldPoint_i SM (symsTo_le kind 8) ⟨fun w => isPoint_yes _ _ w (ok_in hx) (ok_in hy)⟩ (acts_of hrg hx hy) ⟨fun k hk => inWedge_p h0 h3 _⟩ F
  rw [fold_first F] at FM
  exact FM

theorem folded {kind : Int} {z v : PtW} {s0 : Int × Bool} (h0 : 0 ≤ kind) (h3 : kind ≤ 3) (hz : Lim 640 z) (hv : Lim 5 v) (hs0 : s0 ∈ symsTo kind 8) (hw0 : wed kind (actP s0 z) = true) :
    ∀ j, j ≤ 24 → ∃ s ∈ symsTo kind 8, runL kind zeroP (keptW 0) j [(actP s0 z, actP s0 v)] = [(actP s (wayP z v j), actP s v)] ∧ wed kind (actP s (wayP z v j)) = true
  | 0, _ => ⟨s0, hs0, by rw [runL, wayP_zero], by rw [wayP_zero]; exact hw0⟩
  | j + 1, hj => by
    obtain ⟨s, hs, e, hw⟩ := folded h0 h3 hz hv hs0 hw0 j (by omega)
    have e1 : sumP (actP s v) zeroP = actP s v := sum_zero (lim_act s hv) (by omega)
    have e2 : sumP (actP s (wayP z v j)) (actP s v) = actP s (wayP z v (j + 1)) := by rw [wayP_succ]; exact sum_act s (lim_way hz hv j (by omega)) hv (by omega)
    have F := foldIs h0 h3 (actP s (wayP z v (j + 1)))
    have hrg := syms_range kind h0 h3
    have T := syms_then h0 h3 s hs _ F.mem
    have st : bstep kind zeroP (keptW 0) (actP s (wayP z v j), actP s v) = (actP (foldS kind (actP s (wayP z v (j + 1)))) (actP s (wayP z v (j + 1))), actP (foldS kind (actP s (wayP z v (j + 1)))) (actP s v)) := by
      rw [bstep_eq]
      simp only [e1, e2]
      split
      · rw [prod_unit kept_none (kept_keep (by omega)).fin]
      · rfl
    have hW := F.wed
    rw [actP_then (hrg _ hs) (hrg _ F.mem)] at hW
    refine ⟨_, T, ?_, hW⟩
    rw [runL, e]
    simp only [List.map_cons, List.map_nil]
    rw [st, actP_then (hrg _ hs) (hrg _ F.mem), actP_then (hrg _ hs) (hrg _ F.mem)]

/-- All that the law asks of a way. -/
structure Fw (kind : Int) (x y : Nat) (v1 v2 n : Nat) (W : Nat → Nat × Nat) (a b : Nat) (t : Int) (f : Bool) (c d a' b' c' d' : Nat) (t' : Int) (f' : Bool) (r s : Nat) : Prop where
  fold : FoldM kind x y a b t f
  act : ActM t f v1 v2 c d
  way : WayM W v1 v2 n
  w0 : W 0 = (x, y)
  run : RunM 17 kind 0 0 0 n 1 [⟨a, b, c, d⟩] [⟨a', b', c', d'⟩]
  fe : FoldM kind (W n).1 (W n).2 a' b' t' f'
  se : SpanIs c' d' r
  sv : SpanIs v1 v2 s
  es : (FloatKind.f32.format.order r s == some .eq) = true
  e1 : (FloatKind.f32.format.order a' a' == some .eq) = true
  e2 : (FloatKind.f32.format.order b' b' == some .eq) = true
theorem runW_zero (kind : Int) (g : PtW) (ls : Nat) (p u : PtW) : runW kind g ls [(p, u)] 0 = [⟨p.1.1, p.1.2, u.1.1, u.1.2⟩] := by unfold runW; rw [runL]; rfl
theorem map_wd (p u : PtW) : [(p, u)].map wd = [⟨p.1.1, p.1.2, u.1.1, u.1.2⟩] := rfl
theorem zero_1 : zeroP.1.1 = 0 ∧ zeroP.1.2 = 0 := ⟨rfl, rfl⟩
theorem fw_mk {kind : Int} {x y n : Nat} {W : Nat → Nat × Nat} {v p u p' u' : PtW} {t t' : Int} {f f' : Bool} (FR : FoldM kind x y p.1.1 p.1.2 t f) (AM : ActM t f v.1.1 v.1.2 u.1.1 u.1.2) (WY : WayM W v.1.1 v.1.2 n) (w0 : W 0 = (x, y))
    (RM : RunM 17 kind 0 0 0 n 1 [⟨p.1.1, p.1.2, u.1.1, u.1.2⟩] [⟨p'.1.1, p'.1.2, u'.1.1, u'.1.2⟩]) (FE : FoldM kind (W n).1 (W n).2 p'.1.1 p'.1.2 t' f') (hsp : spn u' = spn v) :
    ∃ a b t f c d a' b' c' d' t' f' r s, Fw kind x y v.1.1 v.1.2 n W a b t f c d a' b' c' d' t' f' r s := by
  obtain ⟨r, SR⟩ := spanP u'
  obtain ⟨q, SQ⟩ := spanP v
  exact ⟨_, _, _, _, _, _, _, _, _, _, _, _, _, _, ⟨FR, AM, WY, w0, RM, FE, SR.is, SQ.is, span_eq SR SQ hsp, order_self p'.2.1.cl.fin, order_self p'.2.2.cl.fin⟩⟩
theorem fw_of {kind : Int} {x y n : Nat} {v : PtW} (h0 : 0 ≤ kind) (h3 : kind ≤ 3) (hx : smB x = true) (hy : smB y = true) (hv : Lim 5 v) (hn : n ≤ 24) :
    ∃ W a b t f c d a' b' c' d' t' f' r s, Fw kind x y v.1.1 v.1.2 n W a b t f c d a' b' c' d' t' f' r s := by
  have hz := lim_ptOf hx hy
  have FR := fold_raw h0 h3 (sm_ok hx) (sm_ok hy)
  have e1 := vX_ptOf (sm_ok hx) (sm_ok hy)
  have e2 := vY_ptOf (sm_ok hx) (sm_ok hy)
  generalize ptOf (sm_ok hx) (sm_ok hy) = z at *
  have WY := wayM (way_mk (v := v) (n := n) (sm_ok hx) (sm_ok hy) e1 e2 (by omega) (fun j hj => in_way hz hv (by omega)))
  have FI := foldIs h0 h3 z
  have hrg := syms_range kind h0 h3
  have AM := actM_pt v (hrg _ FI.mem)
  obtain ⟨s, hs, e, hw⟩ := folded h0 h3 hz hv FI.mem FI.wed n hn
  have B : Base kind zeroP 0 [(actP (foldS kind z) z, actP (foldS kind z) v)] := ⟨h0, h3, lim_zero 1, by omega, by simp, fun b hb => by
    rw [List.mem_singleton] at hb
    rw [hb]
    exact ⟨lim_act _ hv, lim_act _ hz, FI.wed⟩⟩
  have RM := runM (runs_of B (i := 0) (n := n) (by omega))
  have ew : runW kind zeroP 0 [(actP (foldS kind z) z, actP (foldS kind z) v)] n = [(actP s (wayP z v n), actP s v)].map wd := by
    unfold runW
    rw [e]
  have hlen : [(actP (foldS kind z) z, actP (foldS kind z) v)].length = 1 := rfl
  rw [Nat.zero_add, ew, map_wd, runW_zero, hlen, zero_1.1, zero_1.2] at RM
  have FE : FoldM kind (wayW x y z v n).1 (wayW x y z v n).2 (actP s (wayP z v n)).1.1 (actP s (wayP z v n)).1.2 (foldS kind (wayP z v n)).1 (foldS kind (wayP z v n)).2 := by
    have FN := foldIs h0 h3 (wayP z v n)
    have eq := wed_one h0 h3 (wayP z v n) FN.mem hs FN.wed hw
    rcases n with _ | n
    · rw [wayP_zero] at eq ⊢
      rw [wayW_zero, ← eq]
      exact FR
    · rw [wayW_succ, ← eq]
      exact FN.call
  have hsp := spn_act s v
  clear e ew B hw
  generalize actP (foldS kind z) z = p at *
  generalize actP (foldS kind z) v = u at *
  generalize actP s (wayP z v n) = p' at *
  generalize actP s v = u' at *
  exact ⟨_, fw_mk FR AM WY (wayW_zero _ _ _ _) RM FE hsp⟩
end Go.Proofs.Ytekkgpanmccdgaa
