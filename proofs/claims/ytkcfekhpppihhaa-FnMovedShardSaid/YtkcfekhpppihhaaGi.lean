/-
  Moved shards: what the law of moved shards asks of one.
-/
import Derived.Test.YtkcfekhpppihhaaGh
import Derived.Test.YtkcfekhpppihhaaGfm
import Derived.Test.YtkcfekhpppihhaaGn
import Derived.Test.YtkcfekhpppihhaaCeq
namespace Go.Proofs.Ytkcfekhpppihhaa
open Go.ChangeShapes Go.WideShapes Go.ChangeAt Go.RowKit Go.Joins
set_option linter.unusedSimpArgs false
set_option linter.unusedVariables false
set_option maxRecDepth 100000
attribute [local go_sem] store_f
open Ieee

theorem move_yes {s t : Shd} {z1 z2 : Nat} (S : ShdIs s true) (P : PtIs z1 z2 true) (M : MovesTo s z1 z2 t) (T : ShdIs t true) : MoveIs s z1 z2 t true := by
  have H := move_of true S P M T
  rwa [if_pos rfl] at H
theorem move_no {s t : Shd} {z1 z2 : Nat} (S : ShdIs s true) (P : PtIs z1 z2 true) (M : MovesTo s z1 z2 t) (T : ShdIs t false) : MoveIs s z1 z2 s false := by
  have H := move_of false S P M T
  rwa [if_neg (by decide)] at H
theorem moves_to {s : Shd} {z1 z2 : Nat} (hs : s.Ok) (h1 : Rch z1) (h2 : Rch z2) :
    MovesTo s z1 z2 (s.put (clT (valOf F32 s.a1 + valOf F32 z1)) (clT (valOf F32 s.a2 + valOf F32 z2)) (clT (valOf F32 s.b1 + valOf F32 z1)) (clT (valOf F32 s.b2 + valOf F32 z2)) (clT (valOf F32 s.c1 + valOf F32 z1)) (clT (valOf F32 s.c2 + valOf F32 z2))) := ⟨fun q W hc =>
  with_move (clo_move (join_of (sum2 hs.a1.fin h1.fin) (sum2 hs.a2.fin h2.fin) (by simp)) hc) (clo_move (join_of (sum2 hs.b1.fin h1.fin) (sum2 hs.b2.fin h2.fin) (by simp)) hc) (clo_move (join_of (sum2 hs.c1.fin h1.fin) (sum2 hs.c2.fin h2.fin) (by simp)) hc)⟩
theorem shdYes {s : Shd} (h : shardB s = true) : ShdIs s true := by
  have S := shdIs s
  rwa [h] at S
theorem shdNo {s : Shd} (h : shardB s = false) : ShdIs s false := by
  have S := shdIs s
  rwa [h] at S
theorem move_any {s t : Shd} {z1 z2 : Nat} (S : ShdIs s true) (P : PtIs z1 z2 true) (M : MovesTo s z1 z2 t) (e : t.r = s.r ∧ t.g = s.g ∧ t.b = s.b ∧ t.k = s.k) : ∃ t p, MoveIs s z1 z2 t p ∧ (p = true → ShdIs t true) ∧ t.r = s.r ∧ t.g = s.g ∧ t.b = s.b ∧ t.k = s.k := by
  cases hp : shardB t
  · exact ⟨s, false, move_no S P M (shdNo hp), fun h => (by cases h), rfl, rfl, rfl, rfl⟩
  · exact ⟨t, true, move_yes S P M (shdYes hp), fun _ => shdYes hp, e⟩
theorem put_glass (s : Shd) (x1 x2 y1 y2 z1 z2 : Nat) : (s.put x1 x2 y1 y2 z1 z2).r = s.r ∧ (s.put x1 x2 y1 y2 z1 z2).g = s.g ∧ (s.put x1 x2 y1 y2 z1 z2).b = s.b ∧ (s.put x1 x2 y1 y2 z1 z2).k = s.k := ⟨rfl, rfl, rfl, rfl⟩
theorem moveIs {s : Shd} {z1 z2 : Nat} (hs : s.Ok) (h1 : Rch z1) (h2 : Rch z2) : ∃ t p, MoveIs s z1 z2 t p ∧ (p = true → ShdIs t true) ∧ t.r = s.r ∧ t.g = s.g ∧ t.b = s.b ∧ t.k = s.k :=
  move_any (shdYes hs.yes) (ptYes h1.inb h2.inb) (moves_to hs h1 h2) (put_glass _ _ _ _ _ _ _)
theorem add_zero_val {x : Nat} (h : Fin32 x) : valOf F32 (clT (valOf F32 x + valOf F32 0)) = valOf F32 x := by
  rw [val_zero, Int.add_zero]; exact tv_val h
theorem eq_val {x y : Nat} (hx : Fin32 x) (hy : Fin32 y) (h : valOf F32 x = valOf F32 y) : (FloatKind.f32.format.order x y == some .eq) = true := by
  show (F32.order x y == some .eq) = true
  rw [order_fin F32 hx hy, cmp_eq]; simp [h]
structure Stays (s v : Shd) : Prop where
  a : ∀ w, (binOp .neq 25 (.complex .f32 v.a1 v.a2) (.complex .f32 s.a1 s.a2)).run Try.prog w = .ok (.bool false) w
  b : ∀ w, (binOp .neq 25 (.complex .f32 v.b1 v.b2) (.complex .f32 s.b1 s.b2)).run Try.prog w = .ok (.bool false) w
  c : ∀ w, (binOp .neq 25 (.complex .f32 v.c1 v.c2) (.complex .f32 s.c1 s.c2)).run Try.prog w = .ok (.bool false) w
theorem stays_of {s : Shd} (hs : s.Ok) {x1 x2 x3 x4 x5 x6 : Nat} (f1 : Fin32 x1) (f2 : Fin32 x2) (f3 : Fin32 x3) (f4 : Fin32 x4) (f5 : Fin32 x5) (f6 : Fin32 x6)
    (v1 : valOf F32 x1 = valOf F32 s.a1) (v2 : valOf F32 x2 = valOf F32 s.a2) (v3 : valOf F32 x3 = valOf F32 s.b1) (v4 : valOf F32 x4 = valOf F32 s.b2) (v5 : valOf F32 x5 = valOf F32 s.c1) (v6 : valOf F32 x6 = valOf F32 s.c2)
    (M : MovesTo s 0 0 (s.put x1 x2 x3 x4 x5 x6)) : ∃ v, MoveIs s 0 0 v true ∧ Stays s v := by
  have h0 : Rch 0 := ok_rch ok_zero
  have hy := hs.yes
  have ht : shardB (s.put x1 x2 x3 x4 x5 x6) = true := by
    unfold shardB ptB at hy ⊢
    simp only [Shd.put]
    rw [inB_val f1 hs.a1.fin (.inl v1), inB_val f2 hs.a2.fin (.inl v2), inB_val f3 hs.b1.fin (.inl v3), inB_val f4 hs.b2.fin (.inl v4), inB_val f5 hs.c1.fin (.inl v5), inB_val f6 hs.c2.fin (.inl v6)]
    exact hy
  have H := move_yes (shdYes hy) (ptYes h0.inb h0.inb) M (shdYes ht)
  have q : ∀ {a b c d : Nat}, Fin32 a → Fin32 b → Fin32 c → Fin32 d → valOf F32 a = valOf F32 c → valOf F32 b = valOf F32 d → ∀ w, (binOp .neq 25 (.complex .f32 a b) (.complex .f32 c d)).run Try.prog w = .ok (.bool false) w := fun ha hb hc hd e1 e2 w => by
    rw [run_neq_complex, eq_val ha hc e1, eq_val hb hd e2]; rfl
  exact ⟨s.put x1 x2 x3 x4 x5 x6, H, ⟨q f1 f2 hs.a1.fin hs.a2.fin v1 v2, q f3 f4 hs.b1.fin hs.b2.fin v3 v4, q f5 f6 hs.c1.fin hs.c2.fin v5 v6⟩⟩
theorem moveNone {s : Shd} (hs : s.Ok) : ∃ v, MoveIs s 0 0 v true ∧ Stays s v :=
  stays_of hs (clT_cl _).fin (clT_cl _).fin (clT_cl _).fin (clT_cl _).fin (clT_cl _).fin (clT_cl _).fin (add_zero_val hs.a1.fin) (add_zero_val hs.a2.fin) (add_zero_val hs.b1.fin) (add_zero_val hs.b2.fin) (add_zero_val hs.c1.fin) (add_zero_val hs.c2.fin)
    (moves_to hs (ok_rch ok_zero) (ok_rch ok_zero))

/-- All that the law asks of one shard. -/
structure Moved (s : Shd) (x y : Nat) (u : Shd) (p : Bool) (v : Shd) : Prop where
  m1 : MoveIs s x y u p
  iu : p = true → ShdIs u true
  col : ∀ w : World, (Op.equalIn 10000 28 (.agg #[.float .f32 u.r, .float .f32 u.g, .float .f32 u.b]) (.agg #[.float .f32 s.r, .float .f32 s.g, .float .f32 s.b])).run Try.prog w = .ok true w
  clr : (FloatKind.f32.format.order u.k s.k == some .eq) = true
  m0 : MoveIs s 0 0 v true
  st : Stays s v
theorem moved_of {s : Shd} {x y : Nat} (hs : s.Drawn) (hx : Rch x) (hy : Rch y) : ∃ u p v, Moved s x y u p v := by
  obtain ⟨u, p, m1, iu, e1, e2, e3, e4⟩ := moveIs hs.ok hx hy
  obtain ⟨v, m0, st⟩ := moveNone hs.ok
  refine ⟨u, p, v, m1, iu, fun w => ?_, ?_, m0, st⟩
  · rw [e1, e2, e3]; exact run_eq_same hs.ok.r.fin hs.ok.g.fin hs.ok.b.fin w
  · rw [e4]; exact order_self hs.ok.k.fin
end Go.Proofs.Ytkcfekhpppihhaa
