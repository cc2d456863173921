/-
  Texts of this proof, joined: Vt.
-/
import Derived.Test.YtlnikapkheldeaaK41
import Derived.Test.YtlnikapkheldeaaK33
/-
  Turned glass: what is seen of it at turned places.
-/
namespace Go.Proofs.Ytlnikapkheldeaa
open Go.ChangeShapes Go.WideShapes Go.ChangeAt Go.RowKit Go.Joins
set_option linter.unusedSimpArgs false
set_option linter.unusedVariables false
set_option maxRecDepth 100000
attribute [local go_sem] store_f
open Ieee

theorem actP_val {t : Nat} (f : Bool) (ht : t < 4) (p : PtW) : valOf F32 (actP ((t : Int), f) p).1.1 = (actZ t f (valOf F32 p.1.1) (valOf F32 p.1.2)).1 ∧ valOf F32 (actP ((t : Int), f) p).1.2 = (actZ t f (valOf F32 p.1.1) (valOf F32 p.1.2)).2 := by
  have e : ((t : Int)).toNat = t := rfl
  have n1 := val_ngB p.2.1.cl.fin
  have n2 := val_ngB p.2.2.cl.fin
  show valOf F32 (actV ((t : Int)).toNat f p.1.1 (ngB p.1.1) p.1.2 (ngB p.1.2)).1 = _ ∧ valOf F32 (actV ((t : Int)).toNat f p.1.1 (ngB p.1.1) p.1.2 (ngB p.1.2)).2 = _
  rw [e]
  generalize ngB p.1.1 = nx at *
  generalize ngB p.1.2 = ny at *
  generalize p.1.1 = x at *
  generalize p.1.2 = y at *
  generalize hX : valOf F32 x = X at *
  generalize hY : valOf F32 y = Y at *
  rcases (by omega : t = 0 ∨ t = 1 ∨ t = 2 ∨ t = 3) with rfl | rfl | rfl | rfl <;> cases f <;> simp only [actV, actZ] <;> constructor <;> assumption

/-- A shard that a symmetry has acted on: the same glass, and a point lies in it as it lay in the other one. -/
structure TurnedS (t : Nat) (f : Bool) (s r : Shd) : Prop where
  act : ActShIs t f s r
  ok : r.Ok
  gr : r.r = s.r
  gg : r.g = s.g
  gb : r.b = s.b
  gk : r.k = s.k
  inn : ∀ p : PtW, inSh r (actP ((t : Int), f) p).1.1 (actP ((t : Int), f) p).1.2 = inSh s p.1.1 p.1.2
theorem turnedS {t : Nat} {f : Bool} {s : Shd} (ht : t < 4) (hs : s.Ok) : ∃ r, TurnedS t f s r := by
  obtain ⟨a1, a2, A⟩ := img_of f ht hs.a1 hs.a2
  obtain ⟨b1, b2, B⟩ := img_of f ht hs.b1 hs.b2
  obtain ⟨c1, c2, C⟩ := img_of f ht hs.c1 hs.c2
  have hq := put_fields s a1 a2 b1 b2 c1 c2
  have M : ActsTo t f s (s.put a1 a2 b1 b2 c1 c2) := ⟨fun q W h0 h1 => with_act (clo_act A.act h0 h1) (clo_act B.act h0 h1) (clo_act C.act h0 h1)⟩
  have Y : IsY t f := ⟨fun w => isSym_yes _ _ _ (by omega) (by omega)⟩
  have S := shdIs s
  rw [hs.yes] at S
  refine ⟨_, actShard_of Y S M, ⟨A.r1, A.r2, B.r1, B.r2, C.r1, C.r2, hs.r, hs.g, hs.b, hs.k⟩, rfl, rfl, rfl, rfl, fun p => ?_⟩
  obtain ⟨v1, v2⟩ := actP_val f ht p
  generalize (actP ((t : Int), f) p).1.1 = u at *
  generalize (actP ((t : Int), f) p).1.2 = v at *
  unfold inSh
  rw [hq.1, hq.2.1, hq.2.2.1, hq.2.2.2.1, hq.2.2.2.2.1, hq.2.2.2.2.2]
  simp only [val_side]
  rw [A.v1, A.v2, B.v1, B.v2, C.v1, C.v2, v1, v2, side_act t f ht, side_act t f ht, side_act t f ht, inZ_sgn]
theorem passC_turned {t : Nat} {f : Bool} {s r : Shd} (h : TurnedS t f s r) (c : Lit) : passC r c = passC s c := by
  unfold passC
  rw [h.gr, h.gg, h.gb, h.gk]
theorem stepC_turned {t : Nat} {f : Bool} {s r : Shd} (h : TurnedS t f s r) (p : PtW) (c : Lit) : stepC (actP ((t : Int), f) p).1.1 (actP ((t : Int), f) p).1.2 c r = stepC p.1.1 p.1.2 c s := by
  have e := h.inn p
  generalize (actP ((t : Int), f) p).1.1 = u at *
  generalize (actP ((t : Int), f) p).1.2 = v at *
  unfold stepC
  rw [e, passC_turned h]
/-- Turned shards, in their order. -/
def TurnedL (t : Nat) (f : Bool) (l k : List Shd) : Prop := l.length = k.length ∧ ∀ j, j < l.length → TurnedS t f (l.getD j default) (k.getD j default)
theorem light_turned {t : Nat} {f : Bool} (p : PtW) : ∀ (l k : List Shd) (c : Lit), TurnedL t f l k → lightOf (actP ((t : Int), f) p).1.1 (actP ((t : Int), f) p).1.2 k c = lightOf p.1.1 p.1.2 l c
  | [], [], c, _ => by rw [lightOf_nil, lightOf_nil]
  | [], _ :: _, _, h => by have := h.1; simp at this
  | _ :: _, [], _, h => by have := h.1; simp at this
  | s :: l, r :: k, c, h => by
    have h0 : TurnedS t f s r := by simpa using h.2 0 (by simp)
    have hr : TurnedL t f l k := ⟨by have := h.1; simpa using this, fun j hj => by simpa using h.2 (j + 1) (by simp; omega)⟩
    rw [lightOf_cons, lightOf_cons, stepC_turned h0]
    exact light_turned p l k _ hr
theorem turnedL_ok {t : Nat} {f : Bool} {l k : List Shd} (h : TurnedL t f l k) : ∀ s ∈ k, s.Ok := fun s hs => by
  obtain ⟨j, hj, rfl⟩ := List.mem_iff_getElem.1 hs
  have := (h.2 j (by have := h.1; omega)).ok
  simpa [List.getD, hj] using this

/-! Without mirrors, a place is folded to itself. -/
theorem foldP_none (p : PtW) : foldP (kind := 0) (by omega) (by omega) p = p := by
  obtain ⟨s, hs, e, _⟩ := foldP_in (kind := 0) (by omega) (by omega) p
  have e0 : symsTo 0 8 = [(0, false)] := by decide +kernel
  rw [e0] at hs
  simp at hs
  subst hs
  rw [e]
  apply Subtype.ext
  rfl
theorem zOf_eq {i n a b : Nat} (hi : i < 5) (h1 : 1 ≤ n) (h8 : n ≤ 8) (ha : a < n * n) (hb : b < n * n) (h : a = b) : zOf i n a hi h1 h8 ha = zOf i n b hi h1 h8 hb := by
  subst h; rfl
theorem take_turned {i n t : Nat} {f : Bool} (hi : i < 5) (h1 : 1 ≤ n) (h8 : n ≤ 8) (ht : t < 4) {l k : List Shd} (c : Lit) (h : TurnedL t f l k) :
    takeCols (kind := 0) (by omega) (by omega) hi h1 h8 k c = actCols n t f (takeCols (kind := 0) (by omega) (by omega) hi h1 h8 l c) := by
  have hJ := back_in ⟨t, ht⟩ f
  have hB := then_back ⟨t, ht⟩ f
  dsimp only at hJ hB
  apply list_ext (by rw [take_len, act_len])
  intro j hj
  rw [take_len] at hj
  have hb := cell_lt' (f := backF t f) h8 hj hJ.2
  have e : cellN n t f (cellN n (backT t f).toNat (backF t f) j) = j := by
    rw [cell_then h8 hj hJ.2 ht, ← hJ.1, hB.2.2.1, hB.2.2.2.1]
    exact cell_none h8 hj
  rw [take_get _ _ hi h1 h8 k c hj, act_get hj, take_get _ _ hi h1 h8 l c hb, colT_at _ _ hi h1 h8 k c hj, colT_at _ _ hi h1 h8 l c hb, foldP_none, foldP_none]
  have hz : zOf i n j hi h1 h8 hj = actP ((t : Int), f) (zOf i n (cellN n (backT t f).toNat (backF t f) j) hi h1 h8 hb) := by
    rw [zOf_act hi h1 h8 hb ht]
    exact zOf_eq hi h1 h8 _ _ e.symm
  rw [hz]
  exact light_turned _ l k c h
end Go.Proofs.Ytlnikapkheldeaa
