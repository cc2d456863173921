/-
  Shards and points that a symmetry acts on: sides stay, or change their sign.
-/
import Derived.Test.YtkcfekhpppihhaaGh
import Derived.Test.YtkcfekhpppihhaaGfa
import Derived.Test.YtkcfekhpppihhaaGg
namespace Go.Proofs.Ytkcfekhpppihhaa
open Go.ChangeShapes Go.WideShapes Go.ChangeAt Go.RowKit Go.Joins
set_option linter.unusedSimpArgs false
set_option linter.unusedVariables false
set_option maxRecDepth 100000
attribute [local go_sem] store_f
open Ieee

theorem val_clean' {x : Nat} (h : Fin32 x) : valOf F32 (cleanB x) = valOf F32 x := by
  rw [clean_eq h]
  by_cases h0 : rungOf F32 x = 0
  · rw [if_pos h0, val_zero, val_eq_zero.2 h0]
  · rw [if_neg h0]
theorem val_ngB {x : Nat} (h : Fin32 x) : valOf F32 (ngB x) = - valOf F32 x := by
  have hr := fin_rung h
  unfold ngB
  by_cases h0 : rungOf F32 x = 0
  · rw [if_pos h0, val_zero, val_eq_zero.2 h0]; rfl
  · rw [if_neg h0, valOf_word F32 _ (by rw [F32_sw]; omega)]
    unfold valOf
    cases negOf F32 x <;> simp

/-- What a symmetry makes of values. -/
def actZ : Nat → Bool → Int → Int → Int × Int
  | 0, false, x, y => (x, y)
  | 0, true, x, y => (x, -y)
  | 1, false, x, y => (-y, x)
  | 1, true, x, y => (y, x)
  | 2, false, x, y => (-x, -y)
  | 2, true, x, y => (-x, y)
  | _, false, x, y => (y, -x)
  | _, true, x, y => (-y, -x)
/-- The sign of a side behind a symmetry. -/
def sgn (f : Bool) (z : Int) : Int := if f then -z else z
theorem side_two (a1 a2 b1 b2 p1 p2 : Int) : sideZ (-a1) (-a2) (-b1) (-b2) (-p1) (-p2) = sideZ a1 a2 b1 b2 p1 p2 := by
  rw [← side_turn a1 a2 b1 b2 p1 p2, ← side_turn (-a2) a1 (-b2) b1 (-p2) p1]
theorem side_three (a1 a2 b1 b2 p1 p2 : Int) : sideZ a2 (-a1) b2 (-b1) p2 (-p1) = sideZ a1 a2 b1 b2 p1 p2 := by
  have h := side_turn (-a1) (-a2) (-b1) (-b2) (-p1) (-p2)
  rw [Int.neg_neg, Int.neg_neg, Int.neg_neg, side_two] at h
  exact h
theorem side_act (t : Nat) (f : Bool) (ht : t < 4) (a1 a2 b1 b2 p1 p2 : Int) :
    sideZ (actZ t f a1 a2).1 (actZ t f a1 a2).2 (actZ t f b1 b2).1 (actZ t f b1 b2).2 (actZ t f p1 p2).1 (actZ t f p1 p2).2 = sgn f (sideZ a1 a2 b1 b2 p1 p2) := by
  rcases (by omega : t = 0 ∨ t = 1 ∨ t = 2 ∨ t = 3) with rfl | rfl | rfl | rfl <;> cases f
  · simp only [actZ, sgn, Bool.false_eq_true, if_false]
  · simp only [actZ, sgn, if_true]; exact side_flip a1 a2 b1 b2 p1 p2
  · simp only [actZ, sgn, Bool.false_eq_true, if_false]; exact side_turn a1 a2 b1 b2 p1 p2
  · simp only [actZ, sgn, if_true]
    have h := side_turn a1 (-a2) b1 (-b2) p1 (-p2)
    rw [Int.neg_neg, Int.neg_neg, Int.neg_neg, side_flip] at h
    exact h
  · simp only [actZ, sgn, Bool.false_eq_true, if_false]; exact side_two a1 a2 b1 b2 p1 p2
  · simp only [actZ, sgn, if_true]
    have h := side_two a1 (-a2) b1 (-b2) p1 (-p2)
    rw [Int.neg_neg, Int.neg_neg, Int.neg_neg, side_flip] at h
    exact h
  · simp only [actZ, sgn, Bool.false_eq_true, if_false]; exact side_three a1 a2 b1 b2 p1 p2
  · simp only [actZ, sgn, if_true]
    have h := side_three a1 (-a2) b1 (-b2) p1 (-p2)
    rw [side_flip a1 a2 b1 b2 p1 p2] at h
    exact h
theorem inZ_sgn (f : Bool) (x y z : Int) : inZ (sgn f x) (sgn f y) (sgn f z) = inZ x y z := by
  unfold sgn inZ
  cases f
  · rfl
  · simp only [if_true]
    rw [Bool.eq_iff_iff]
    simp only [decide_eq_true_eq]
    omega

/-- What a symmetry makes of a point. -/
structure Img (t : Nat) (f : Bool) (x y p q : Nat) : Prop where
  act : ActM t f x y p q
  v1 : valOf F32 p = (actZ t f (valOf F32 x) (valOf F32 y)).1
  v2 : valOf F32 q = (actZ t f (valOf F32 x) (valOf F32 y)).2
  r1 : Rch p
  r2 : Rch q
theorem rch_clean {x : Nat} (h : Rch x) : Rch (cleanB x) := ⟨(cl_clean h.fin h.lt).lt, by rw [inB_val (cl_clean h.fin h.lt).fin h.fin (.inl (val_clean' h.fin))]; exact h.inb⟩
theorem rch_ng {x : Nat} (h : Rch x) : Rch (ngB x) := ⟨(cl_ng h.fin).lt, by rw [inB_val (cl_ng h.fin).fin h.fin (.inr (val_ngB h.fin))]; exact h.inb⟩
theorem img_of {t : Nat} (f : Bool) (ht : t < 4) {x y : Nat} (hx : Rch x) (hy : Rch y) : ∃ p q, Img t f x y p q := by
  have A : ActM t f x y _ _ := ⟨fun w => actSym_i t f x y _ _ _ _ w ht hx.inb hy.inb (parts_of hx.fin hx.lt) (parts_of hy.fin hy.lt)⟩
  have c1 := val_clean' hx.fin
  have c2 := val_clean' hy.fin
  have n1 := val_ngB hx.fin
  have n2 := val_ngB hy.fin
  have r1 := rch_clean hx
  have r2 := rch_clean hy
  have r3 := rch_ng hx
  have r4 := rch_ng hy
  refine ⟨_, _, A, ?_, ?_, ?_, ?_⟩
  all_goals
    clear A
    generalize cleanB x = cx at *
    generalize cleanB y = cy at *
    generalize ngB x = nx at *
    generalize ngB y = ny at *
    generalize valOf F32 x = X at *
    generalize valOf F32 y = Y at *
    rcases (by omega : t = 0 ∨ t = 1 ∨ t = 2 ∨ t = 3) with rfl | rfl | rfl | rfl <;> cases f <;> simp only [actV, actZ] <;> assumption

/-- All that the law of sides asks of one shard: x, y the sides before and behind, r the shard behind, (p, q) the point behind. -/
structure Turned (t : Int) (f : Bool) (s : Shd) (x y : Nat) (r : Shd) (p q : Nat) (u v : Nat) (c : Bool) : Prop where
  sx : SideIs s.a1 s.a2 s.b1 s.b2 x y u
  ia : ActM t f s.a1 s.a2 r.a1 r.a2
  ib : ActM t f s.b1 s.b2 r.b1 r.b2
  ip : ActM t f x y p q
  sy : SideIs r.a1 r.a2 r.b1 r.b2 p q v
  yes : f = true → (FloatKind.f32.format.order v (Op.negFloat .f32 u) == some .eq) = true
  no : f = false → (FloatKind.f32.format.order v u == some .eq) = true
  ac : ActShIs t f s r
  sr : ShdIs r true
  i1 : InIs r p q c
  i0 : InIs s x y c
theorem put_fields (s : Shd) (x1 x2 y1 y2 z1 z2 : Nat) : (s.put x1 x2 y1 y2 z1 z2).a1 = x1 ∧ (s.put x1 x2 y1 y2 z1 z2).a2 = x2 ∧ (s.put x1 x2 y1 y2 z1 z2).b1 = y1 ∧ (s.put x1 x2 y1 y2 z1 z2).b2 = y2 ∧ (s.put x1 x2 y1 y2 z1 z2).c1 = z1 ∧ (s.put x1 x2 y1 y2 z1 z2).c2 = z2 := ⟨rfl, rfl, rfl, rfl, rfl, rfl⟩
theorem order_val {x y : Nat} (hx : Fin32 x) (hy : Fin32 y) (h : valOf F32 x = valOf F32 y) : (FloatKind.f32.format.order x y == some .eq) = true := by
  show (F32.order x y == some .eq) = true
  rw [order_fin F32 hx hy, cmp_eq]; simp [h]
theorem turned_of {t : Nat} {f : Bool} {s : Shd} {x y : Nat} (ht : t < 4) (hs : s.Ok) (hx : Rch x) (hy : Rch y) : ∃ r p q u v c, Turned t f s x y r p q u v c := by
  obtain ⟨a1, a2, A⟩ := img_of f ht hs.a1 hs.a2
  obtain ⟨b1, b2, B⟩ := img_of f ht hs.b1 hs.b2
  obtain ⟨c1, c2, C⟩ := img_of f ht hs.c1 hs.c2
  obtain ⟨p, q, P⟩ := img_of f ht hx hy
  obtain ⟨g1, g2, g3, g4⟩ : ∃ r : Shd, r = s.put a1 a2 b1 b2 c1 c2 ∧ True ∧ True := ⟨_, rfl, trivial, trivial⟩
  have r : Shd := g1
  have hq := put_fields s a1 a2 b1 b2 c1 c2
  have M : ActsTo t f s (s.put a1 a2 b1 b2 c1 c2) := ⟨fun q W h0 h1 => with_act (clo_act A.act h0 h1) (clo_act B.act h0 h1) (clo_act C.act h0 h1)⟩
  have Y : IsY t f := ⟨fun w => isSym_yes _ _ _ (by omega) (by omega)⟩
  have S := shdIs s
  rw [hs.yes] at S
  have AC := actShard_of Y S M
  have hyr : shardB (s.put a1 a2 b1 b2 c1 c2) = true := by
    have hyes := hs.yes
    unfold shardB ptB at hyes ⊢
    simp only [Bool.and_eq_true] at hyes ⊢
    obtain ⟨⟨_, h1⟩, h2⟩ := hyes
    exact ⟨⟨⟨⟨⟨A.r1.inb, A.r2.inb⟩, B.r1.inb, B.r2.inb⟩, C.r1.inb, C.r2.inb⟩, h1⟩, h2⟩
  have SR := shdIs (s.put a1 a2 b1 b2 c1 c2)
  rw [hyr] at SR
  have I1 := inIs hyr P.r1.inb P.r2.inb
  have I0 := inIs hs.yes hx.inb hy.inb
  have e : inSh (s.put a1 a2 b1 b2 c1 c2) p q = inSh s x y := by
    unfold inSh
    rw [hq.1, hq.2.1, hq.2.2.1, hq.2.2.2.1, hq.2.2.2.2.1, hq.2.2.2.2.2]
    simp only [val_side]
    rw [A.v1, A.v2, B.v1, B.v2, C.v1, C.v2, P.v1, P.v2, side_act t f ht, side_act t f ht, side_act t f ht, inZ_sgn]
  rw [e] at I1
  have SX := sideIs hs.a1.inb hs.a2.inb hs.b1.inb hs.b2.inb hx.inb hy.inb
  have SY := sideIs A.r1.inb A.r2.inb B.r1.inb B.r2.inb P.r1.inb P.r2.inb
  have hv : valOf F32 (sideW a1 a2 b1 b2 p q) = sgn f (valOf F32 (sideW s.a1 s.a2 s.b1 s.b2 x y)) := by
    rw [val_side, val_side, A.v1, A.v2, B.v1, B.v2, P.v1, P.v2, side_act t f ht]
  have cu := side_cl s.a1 s.a2 s.b1 s.b2 x y
  have cv := side_cl a1 a2 b1 b2 p q
  generalize sideW s.a1 s.a2 s.b1 s.b2 x y = u at *
  generalize sideW a1 a2 b1 b2 p q = v at *
  obtain ⟨n1, n2⟩ := val_negF cu.fin cu.lt
  refine ⟨s.put a1 a2 b1 b2 c1 c2, p, q, u, v, _, SX, A.act, B.act, P.act, SY, fun hf => ?_, fun hf => ?_, AC, SR, I1, I0⟩
  · subst hf
    exact order_val cv.fin n2 (by rw [hv, n1]; simp only [sgn, if_true])
  · subst hf
    exact order_val cv.fin cu.fin (by rw [hv]; simp only [sgn, Bool.false_eq_true, if_false])
end Go.Proofs.Ytkcfekhpppihhaa
