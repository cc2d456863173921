/-
  Texts Uq, joined.
-/
import Derived.Test.YtfdgijmmgllmgaaGreatDoorS21
import Derived.Stop.Asserts
import Derived.Recover
import Derived.Defers
import Derived.Deep.RegionHeld3
import Derived.Deep.AppendLies
namespace Go.Proofs.YtfdgijmmgllmgaaGreatDoor
open Go.ChangeShapes Go.WideShapes Go.ChangeAt Go.RowKit Go.Joins
set_option linter.unusedSimpArgs false
set_option linter.unusedVariables false
set_option maxRecDepth 100000
attribute [local go_sem] store_f
open Ieee Go.Lib
attribute [local go_sem] store_c
structure ShoRet (w : World) (r : Ending) (w' : World) (t : Sho) (N M K : Nat) (a b l : Option Addr) (ca cb cl : Nat) (p : Bool) : Prop where
  ret : r = .returned (.tuple #[.agg #[.int .i64 t.size, .float .f32 t.step, .float .f32 t.lit.r, .float .f32 t.lit.g, .float .f32 t.lit.b, .slice a N ca, .int .i64 t.kind, .complex .f32 t.g1 t.g2, .float .f32 0, .slice b M cb, .int .i64 t.ticks, .slice l K cl], .bool p])
  inn : ShoIn w' t a b l
  below : Below w.heap.size w w'
structure DoBox (B : Nat) (W : World) (s : Sho) (N M K : Nat) (e : Evw) (a b l : Option Addr) (ca cb cl : Nat) (w : World) : Prop where
  sh : Blk W B #[.int .i64 s.size, .float .f32 s.step, .float .f32 s.lit.r, .float .f32 s.lit.g, .float .f32 s.lit.b, .slice a N ca, .int .i64 s.kind, .complex .f32 s.g1 s.g2, .float .f32 0, .slice b M cb, .int .i64 s.ticks, .slice l K cl] 34
  ev : Blk W (B + 1) #[.int .i64 e.kind, .int .i64 e.n, .complex .f32 e.z1 e.z2, .complex .f32 e.s.a1 e.s.a2, .complex .f32 e.s.b1 e.s.b2, .complex .f32 e.s.c1 e.s.c2, .float .f32 e.s.r, .float .f32 e.s.g, .float .f32 e.s.b, .float .f32 e.s.k, .float .f32 e.l.r, .float .f32 e.l.g, .float .f32 e.l.b] 38
  res : Blk W (B + 1 + 1) #[.int .i64 0, .float .f32 0, .float .f32 0, .float .f32 0, .float .f32 0, .slice Option.none 0 0, .int .i64 0, .complex .f32 0 0, .float .f32 0, .slice Option.none 0 0, .int .i64 0, .slice Option.none 0 0] 34
  inn : ShoIn W s a b l
  below : Below B w W
  size : B + 3 ≤ W.heap.size
theorem DoBox.mono {B : Nat} {W W1 : World} {s : Sho} {N M K : Nat} {e : Evw} {a b l : Option Addr} {ca cb cl : Nat} {w : World} (h : DoBox B W s N M K e a b l ca cb cl w) (hb : Below W.heap.size W W1) : DoBox B W1 s N M K e a b l ca cb cl w :=
  ⟨h.sh.below hb, h.ev.below hb, h.res.below hb, h.inn.below hb, h.below.trans (hb.mono (by have := h.size; omega)), Nat.le_trans h.size hb.size⟩
theorem DoBox.start (w : World) (s : Sho) (N M K : Nat) (e : Evw) (a b l : Option Addr) (ca cb cl : Nat) (hr : ShoIn w s a b l) : DoBox w.heap.size (((w.alloc (.cells #[.int .i64 s.size, .float .f32 s.step, .float .f32 s.lit.r, .float .f32 s.lit.g, .float .f32 s.lit.b, .slice a N ca, .int .i64 s.kind, .complex .f32 s.g1 s.g2, .float .f32 0, .slice b M cb, .int .i64 s.ticks, .slice l K cl] 34)).alloc (.cells #[.int .i64 e.kind, .int .i64 e.n, .complex .f32 e.z1 e.z2, .complex .f32 e.s.a1 e.s.a2, .complex .f32 e.s.b1 e.s.b2, .complex .f32 e.s.c1 e.s.c2, .float .f32 e.s.r, .float .f32 e.s.g, .float .f32 e.s.b, .float .f32 e.s.k, .float .f32 e.l.r, .float .f32 e.l.g, .float .f32 e.l.b] 38)).alloc (.cells #[.int .i64 0, .float .f32 0, .float .f32 0, .float .f32 0, .float .f32 0, .slice Option.none 0 0, .int .i64 0, .complex .f32 0 0, .float .f32 0, .slice Option.none 0 0, .int .i64 0, .slice Option.none 0 0] 34)) s N M K e a b l ca cb cl w :=
  ⟨((Blk.new _ _ _).alloc).alloc, (Blk.newAt (by simp)).alloc, Blk.newAt (by simp), hr.alloc.alloc.alloc, (((Below.refl _ _).alloc (Nat.le_refl _) _).alloc (by simp) _).alloc (by simp; omega) _, by simp⟩
end Go.Proofs.YtfdgijmmgllmgaaGreatDoor
