/-
  Texts We Wf Wg Wh, joined.
-/
import Derived.Test.YtfdgijmmgllmgaaGreatDoorS28
import Derived.StillTailTactics
import Derived.Deep.RegionLaw
import Derived.IntWalk
namespace Go.Proofs.YtfdgijmmgllmgaaGreatDoor
open Go.ChangeShapes Go.WideShapes Go.ChangeAt Go.RowKit Go.Joins
set_option linter.unusedSimpArgs false
set_option linter.unusedVariables false
set_option maxRecDepth 100000
attribute [local go_sem] store_f
open Ieee Go.Lib
attribute [local go_sem] store_c
structure DoOut (w : World) (B : Nat) (r : Ending) (w' : World) (t : Sho) (N M K : Nat) (a b l : Option Addr) (ca cb cl : Nat) (p : Bool) : Prop where
  ret : r = .returned (.tuple #[.agg #[.int .i64 t.size, .float .f32 t.step, .float .f32 t.lit.r, .float .f32 t.lit.g, .float .f32 t.lit.b, .slice a N ca, .int .i64 t.kind, .complex .f32 t.g1 t.g2, .float .f32 0, .slice b M cb, .int .i64 t.ticks, .slice l K cl], .bool p])
  sh : w'.ownsRow B 36 7 (.slice a N ca) N (shCells t.shs)
  bd : LiesZ w' b (bwCells t.bds)
  apart : ∀ g, l = some ⟨g, 0, Option.none⟩ → b = some ⟨g, 0, Option.none⟩ → t.bds = []
  lg : w'.ownsRow B 38 13 (.slice l K cl) K (evCells t.log)
  below : Below B w w'
  size : w.heap.size ≤ w'.heap.size
  keep : ∀ P cs, Blk w P cs 34 → Blk w' P cs 34
structure DoS (F : FuncId) (s : Sho) (N M K : Nat) (e : Evw) (t : Sho) (N' M' : Nat) (p : Bool) : Prop where
  call : ∀ (w : World) (B : Nat) (a b l : Option Addr) (ca cb cl : Nat), ShoOwn w B s N M K a b l ca cb cl → B ≤ w.heap.size → Calls Tryz.prog F #[.agg #[.int .i64 s.size, .float .f32 s.step, .float .f32 s.lit.r, .float .f32 s.lit.g, .float .f32 s.lit.b, .slice a N ca, .int .i64 s.kind, .complex .f32 s.g1 s.g2, .float .f32 0, .slice b M cb, .int .i64 s.ticks, .slice l K cl], .agg #[.int .i64 e.kind, .int .i64 e.n, .complex .f32 e.z1 e.z2, .complex .f32 e.s.a1 e.s.a2, .complex .f32 e.s.b1 e.s.b2, .complex .f32 e.s.c1 e.s.c2, .float .f32 e.s.r, .float .f32 e.s.g, .float .f32 e.s.b, .float .f32 e.s.k, .float .f32 e.l.r, .float .f32 e.l.g, .float .f32 e.l.b]] w fun r w' => ∃ a' b' ca' cb', DoOut w B r w' t N' M' K a' b' l ca' cb' cl p
structure DoBx (w W : World) (B : Nat) (s : Sho) (N M K : Nat) (e : Evw) (a b l : Option Addr) (ca cb cl : Nat) : Prop where
  x : Blk W w.heap.size #[.int .i64 s.size, .float .f32 s.step, .float .f32 s.lit.r, .float .f32 s.lit.g, .float .f32 s.lit.b, .slice a N ca, .int .i64 s.kind, .complex .f32 s.g1 s.g2, .float .f32 0, .slice b M cb, .int .i64 s.ticks, .slice l K cl] 34
  y : Blk W (w.heap.size + 1) #[.int .i64 e.kind, .int .i64 e.n, .complex .f32 e.z1 e.z2, .complex .f32 e.s.a1 e.s.a2, .complex .f32 e.s.b1 e.s.b2, .complex .f32 e.s.c1 e.s.c2, .float .f32 e.s.r, .float .f32 e.s.g, .float .f32 e.s.b, .float .f32 e.s.k, .float .f32 e.l.r, .float .f32 e.l.g, .float .f32 e.l.b] 38
  z : Blk W (w.heap.size + 1 + 1) #[.int .i64 0, .float .f32 0, .float .f32 0, .float .f32 0, .float .f32 0, .slice Option.none 0 0, .int .i64 0, .complex .f32 0 0, .float .f32 0, .slice Option.none 0 0, .int .i64 0, .slice Option.none 0 0] 34
  own : ShoOwn W B s N M K a b l ca cb cl
  below : Below B w W
  size : w.heap.size + 3 ≤ W.heap.size
  keep : ∀ P cs, Blk w P cs 34 → Blk W P cs 34
theorem DoBx.start (w : World) (B : Nat) (s : Sho) (N M K : Nat) (e : Evw) (a b l : Option Addr) (ca cb cl : Nat) (h : ShoOwn w B s N M K a b l ca cb cl) (hB : B ≤ w.heap.size) : DoBx w (((w.alloc (.cells #[.int .i64 s.size, .float .f32 s.step, .float .f32 s.lit.r, .float .f32 s.lit.g, .float .f32 s.lit.b, .slice a N ca, .int .i64 s.kind, .complex .f32 s.g1 s.g2, .float .f32 0, .slice b M cb, .int .i64 s.ticks, .slice l K cl] 34)).alloc (.cells #[.int .i64 e.kind, .int .i64 e.n, .complex .f32 e.z1 e.z2, .complex .f32 e.s.a1 e.s.a2, .complex .f32 e.s.b1 e.s.b2, .complex .f32 e.s.c1 e.s.c2, .float .f32 e.s.r, .float .f32 e.s.g, .float .f32 e.s.b, .float .f32 e.s.k, .float .f32 e.l.r, .float .f32 e.l.g, .float .f32 e.l.b] 38)).alloc (.cells #[.int .i64 0, .float .f32 0, .float .f32 0, .float .f32 0, .float .f32 0, .slice Option.none 0 0, .int .i64 0, .complex .f32 0 0, .float .f32 0, .slice Option.none 0 0, .int .i64 0, .slice Option.none 0 0] 34)) B s N M K e a b l ca cb cl :=
  ⟨((Blk.new _ _ _).alloc).alloc, (Blk.newAt (by simp)).alloc, Blk.newAt (by simp), h.alloc.alloc.alloc, (((Below.refl _ _).alloc hB _).alloc (by simp; omega) _).alloc (by simp; omega) _, by simp, fun P cs h' => h'.alloc.alloc.alloc⟩
theorem owns_apart' {W : World} {B : Nat} {s : Sho} {N M K : Nat} {a b l : Option Addr} {ca cb cl : Nat} (h : ShoOwn W B s N M K a b l ca cb cl) : ∀ g, l = some ⟨g, 0, Option.none⟩ → b = some ⟨g, 0, Option.none⟩ → s.bds = [] := fun g e1 e2 => by
  subst e1
  subst e2
  exact absurd rfl (owns_apart h.lg h.bd (by decide))
theorem do_out {w W : World} {B : Nat} {s : Sho} {N M K : Nat} {a b l : Option Addr} {ca cb cl : Nat} {p : Bool} {u0 u1 u2 u3 u4 u5 u6 u7 u8 u9 u10 u11 : Value} {cs : Array Value} (hz : Blk W (w.heap.size + 1 + 1) cs 34) (ho : ShoOwn W B s N M K a b l ca cb cl) (hb : Below B w W) (hB : B ≤ w.heap.size) (hs : w.heap.size + 3 ≤ W.heap.size) (hk : ∀ P cs, Blk w P cs 34 → Blk W P cs 34) :
    DoOut w B (.returned (.tuple #[.agg #[.int .i64 s.size, .float .f32 s.step, .float .f32 s.lit.r, .float .f32 s.lit.g, .float .f32 s.lit.b, .slice a N ca, .int .i64 s.kind, .complex .f32 s.g1 s.g2, .float .f32 0, .slice b M cb, .int .i64 s.ticks, .slice l K cl], .bool p])) ((((((((((((W.setCell ⟨w.heap.size + 1 + 1, 0, Option.none⟩ u0).setCell ⟨w.heap.size + 1 + 1, 1, Option.none⟩ u1).setCell ⟨w.heap.size + 1 + 1, 2, Option.none⟩ u2).setCell ⟨w.heap.size + 1 + 1, 3, Option.none⟩ u3).setCell ⟨w.heap.size + 1 + 1, 4, Option.none⟩ u4).setCell ⟨w.heap.size + 1 + 1, 5, Option.none⟩ u5).setCell ⟨w.heap.size + 1 + 1, 6, Option.none⟩ u6).setCell ⟨w.heap.size + 1 + 1, 7, Option.none⟩ u7).setCell ⟨w.heap.size + 1 + 1, 8, Option.none⟩ u8).setCell ⟨w.heap.size + 1 + 1, 9, Option.none⟩ u9).setCell ⟨w.heap.size + 1 + 1, 10, Option.none⟩ u10).setCell ⟨w.heap.size + 1 + 1, 11, Option.none⟩ u11) s N M K a b l ca cb cl p := by
  have h := ho.grownP hz (grown12 (P := w.heap.size + 1 + 1) (u0 := u0) (u1 := u1) (u2 := u2) (u3 := u3) (u4 := u4) (u5 := u5) (u6 := u6) (u7 := u7) (u8 := u8) (u9 := u9) (u10 := u10) (u11 := u11))
  exact ⟨rfl, h.sh, h.in_.bd, owns_apart' h, h.lg, below12 hb (by omega), by simp; omega, fun P cs h' => (hk P cs h').grown grown12 (by have := h'.lt; omega)⟩
theorem do_out3 {w : World} {B : Nat} {s : Sho} {N M K : Nat} {a b l : Option Addr} {ca cb cl : Nat} {p : Bool} {o1 o2 o3 : Obj} (ho : ShoOwn w B s N M K a b l ca cb cl) (hB : B ≤ w.heap.size) :
    DoOut w B (.returned (.tuple #[.agg #[.int .i64 s.size, .float .f32 s.step, .float .f32 s.lit.r, .float .f32 s.lit.g, .float .f32 s.lit.b, .slice a N ca, .int .i64 s.kind, .complex .f32 s.g1 s.g2, .float .f32 0, .slice b M cb, .int .i64 s.ticks, .slice l K cl], .bool p])) (((w.alloc o1).alloc o2).alloc o3) s N M K a b l ca cb cl p :=
  ⟨rfl, ho.alloc.alloc.alloc.sh, ho.alloc.alloc.alloc.in_.bd, owns_apart' ho, ho.alloc.alloc.alloc.lg, (((Below.refl _ _).alloc hB _).alloc (by simp; omega) _).alloc (by simp; omega) _, by simp; omega, fun P cs h' => h'.alloc.alloc.alloc⟩
set_option maxHeartbeats 16000000 in
theorem doS_light {s : Sho} {N M K : Nat} {c : Lit} : DoS 69 s N M K ⟨3, 0, 0, 0, shd0, c⟩ { s with lit := c } N M true := ⟨fun w B a b l ca cb cl hr hB => by
  have HO : Hid (ShoOwn w B { s with lit := c } N M K a b l ca cb cl) := ⟨hr.sh, hr.bd, hr.lg⟩
  clear hr
  go_enter Tryz.func69, Tryz.ntmps69
  go_wp2_with fail
  refine bodyPost_ret (v := .tuple #[.agg #[.int .i64 s.size, .float .f32 s.step, .float .f32 c.r, .float .f32 c.g, .float .f32 c.b, .slice a N ca, .int .i64 s.kind, .complex .f32 s.g1 s.g2, .float .f32 0, .slice b M cb, .int .i64 s.ticks, .slice l K cl], .bool true]) (by simp [results, Tryz.results69, go_sem]) rfl ⟨a, b, ca, cb, do_out3 HO.out hB⟩⟩
set_option maxHeartbeats 16000000 in
theorem doS_gravity {s : Sho} {N M K : Nat} {z1 z2 : Nat} : DoS 69 s N M K ⟨5, 0, z1, z2, shd0, lit0⟩ { s with g1 := z1, g2 := z2 } N M true := ⟨fun w B a b l ca cb cl hr hB => by
  have HO : Hid (ShoOwn w B { s with g1 := z1, g2 := z2 } N M K a b l ca cb cl) := ⟨hr.sh, hr.bd, hr.lg⟩
  clear hr
  go_enter Tryz.func69, Tryz.ntmps69
  go_wp2_with fail
  refine bodyPost_ret (v := .tuple #[.agg #[.int .i64 s.size, .float .f32 s.step, .float .f32 s.lit.r, .float .f32 s.lit.g, .float .f32 s.lit.b, .slice a N ca, .int .i64 s.kind, .complex .f32 z1 z2, .float .f32 0, .slice b M cb, .int .i64 s.ticks, .slice l K cl], .bool true]) (by simp [results, Tryz.results69, go_sem]) rfl ⟨a, b, ca, cb, do_out3 HO.out hB⟩⟩
theorem doS_take_no {s : Sho} {N M K n : Nat} (hn : M ≤ n) (hn8 : n ≤ 8) : DoS 69 s N M K ⟨2, n, 0, 0, shd0, lit0⟩ s N M false := ⟨fun w B a b l ca cb cl hr hB => by
  have HO := Lib.hid hr
  have hd : decide ((M : Int) ≤ (n : Int)) = true := by simp; omega
  clear hr
  go_enter Tryz.func69, Tryz.ntmps69
  go_wp2_with fail
  refine bodyPost_ret (v := .tuple #[.agg #[.int .i64 s.size, .float .f32 s.step, .float .f32 s.lit.r, .float .f32 s.lit.g, .float .f32 s.lit.b, .slice a N ca, .int .i64 s.kind, .complex .f32 s.g1 s.g2, .float .f32 0, .slice b M cb, .int .i64 s.ticks, .slice l K cl], .bool false]) (by simp [results, Tryz.results69, go_sem]) rfl ⟨a, b, ca, cb, do_out3 HO.out hB⟩⟩
theorem doS_push_no {s : Sho} {N M K n z1 z2 : Nat} (hn : M ≤ n) (hn8 : n ≤ 8) : DoS 69 s N M K ⟨6, n, z1, z2, shd0, lit0⟩ s N M false := ⟨fun w B a b l ca cb cl hr hB => by
  have HO := Lib.hid hr
  have hd : decide ((M : Int) ≤ (n : Int)) = true := by simp; omega
  clear hr
  go_enter Tryz.func69, Tryz.ntmps69
  go_wp2_with fail
  refine bodyPost_ret (v := .tuple #[.agg #[.int .i64 s.size, .float .f32 s.step, .float .f32 s.lit.r, .float .f32 s.lit.g, .float .f32 s.lit.b, .slice a N ca, .int .i64 s.kind, .complex .f32 s.g1 s.g2, .float .f32 0, .slice b M cb, .int .i64 s.ticks, .slice l K cl], .bool false]) (by simp [results, Tryz.results69, go_sem]) rfl ⟨a, b, ca, cb, do_out3 HO.out hB⟩⟩
end Go.Proofs.YtfdgijmmgllmgaaGreatDoor
namespace Go.Proofs.YtfdgijmmgllmgaaGreatDoor
open Go.ChangeShapes Go.WideShapes Go.ChangeAt Go.RowKit Go.Joins
set_option linter.unusedSimpArgs false
set_option linter.unusedVariables false
set_option maxRecDepth 100000
attribute [local go_sem] store_f
open Ieee Go.Lib
attribute [local go_sem] store_c
theorem DoBx.mono {w W W1 : World} {B : Nat} {s : Sho} {N M K : Nat} {e : Evw} {a b l : Option Addr} {ca cb cl : Nat} (h : DoBx w W B s N M K e a b l ca cb cl) (hB : B ≤ w.heap.size) (hb : Below W.heap.size W W1) : DoBx w W1 B s N M K e a b l ca cb cl :=
  ⟨h.x.below hb, h.y.below hb, h.z.below hb, h.own.below hb, h.below.trans (hb.mono (by have := h.size; omega)), Nat.le_trans h.size hb.size, fun P cs h' => (h.keep P cs h').below hb⟩
theorem DoBx.alloc {w W : World} {B : Nat} {s : Sho} {N M K : Nat} {e : Evw} {a b l : Option Addr} {ca cb cl : Nat} {o : Obj} (h : DoBx w W B s N M K e a b l ca cb cl) (hB : B ≤ w.heap.size) : DoBx w (W.alloc o) B s N M K e a b l ca cb cl :=
  h.mono hB ((Below.refl _ _).alloc (Nat.le_refl _) _)
theorem DoBx.appSh {w W w5 : World} {B : Nat} {s : Sho} {N M K gg cap : Nat} {e : Evw} {sh : Shd} {a b l : Option Addr} {ca cb cl : Nat} (h : DoBx w W B s N M K e a b l ca cb cl) (hB : B ≤ w.heap.size) (hg : W.grownBy w5 (Value.slice a N ca).ownBlock)
    (ho : w5.ownsRow B 36 7 (.slice (some ⟨gg, 0, Option.none⟩) (N + 1) cap) (N + 1) (shCells s.shs ++ sh.cells)) :
    DoBx w (w5.setCell ⟨w.heap.size, 5, Option.none⟩ (.slice (some ⟨gg, 0, Option.none⟩) (N + 1) cap)) B { s with shs := s.shs ++ [sh] } (N + 1) M K e (some ⟨gg, 0, Option.none⟩) b l cap cb cl := by
  have hs := hg.size
  have h3 := h.size
  rw [← shCells_snoc] at ho
  have X5 := blk_keep hg h.own.sh h.x (by decide)
  have Y5 := blk_keep hg h.own.sh h.y (by decide)
  have Z5 := blk_keep hg h.own.sh h.z (by decide)
  have B5 := owns_keep hg h.own.sh h.own.bd (by decide)
  have L5 := owns_keep hg h.own.sh h.own.lg (by decide)
  have O5 : ShoOwn w5 B { s with shs := s.shs ++ [sh] } (N + 1) M K (some ⟨gg, 0, Option.none⟩) b l cap cb cl := ⟨ho, B5, L5⟩
  exact ⟨Blk.setAt rfl X5 rfl, Y5.other (by dsimp only; omega), Z5.other (by dsimp only; omega), O5.setP X5, (h.below.trans (below_keep hg h.own.sh (by omega))).setCell (by dsimp only; omega) _, by simp; omega, fun P cs h' => (blk_keep hg h.own.sh (h.keep P cs h') (by decide)).other (by have := h'.lt; dsimp only; omega)⟩
theorem DoBx.appBd {w W w5 : World} {B : Nat} {s : Sho} {N M K gg cap : Nat} {e : Evw} {bd : Bw} {a b l : Option Addr} {ca cb cl : Nat} (h : DoBx w W B s N M K e a b l ca cb cl) (hB : B ≤ w.heap.size) (hg : W.grownBy w5 (Value.slice b M cb).ownBlock)
    (ho : w5.ownsRow B 74 2 (.slice (some ⟨gg, 0, Option.none⟩) (M + 1) cap) (M + 1) (bwCells s.bds ++ bd.cells)) :
    DoBx w (w5.setCell ⟨w.heap.size, 9, Option.none⟩ (.slice (some ⟨gg, 0, Option.none⟩) (M + 1) cap)) B { s with bds := s.bds ++ [bd] } N (M + 1) K e a (some ⟨gg, 0, Option.none⟩) l ca cap cl := by
  have hs := hg.size
  have h3 := h.size
  rw [← bwCells_snoc] at ho
  have X5 := blk_keep hg h.own.bd h.x (by decide)
  have Y5 := blk_keep hg h.own.bd h.y (by decide)
  have Z5 := blk_keep hg h.own.bd h.z (by decide)
  have S5 := owns_keep hg h.own.bd h.own.sh (by decide)
  have L5 := owns_keep hg h.own.bd h.own.lg (by decide)
  have O5 : ShoOwn w5 B { s with bds := s.bds ++ [bd] } N (M + 1) K a (some ⟨gg, 0, Option.none⟩) l ca cap cl := ⟨S5, ho, L5⟩
  exact ⟨Blk.setAt rfl X5 rfl, Y5.other (by dsimp only; omega), Z5.other (by dsimp only; omega), O5.setP X5, (h.below.trans (below_keep hg h.own.bd (by omega))).setCell (by dsimp only; omega) _, by simp; omega, fun P cs h' => (blk_keep hg h.own.bd (h.keep P cs h') (by decide)).other (by have := h'.lt; dsimp only; omega)⟩
set_option maxHeartbeats 32000000 in
theorem doS_add {s : Sho} {N M K : Nat} {sh : Shd} {z1 z2 p1 p2 : Nat} {t : Int} {f : Bool} (hN : N ≤ 12) (hM : M ≤ 8) (F : FoldMS s.kind z1 z2 p1 p2 t f) : DoS 69 s N M K ⟨1, 0, z1, z2, sh, lit0⟩ { s with shs := s.shs ++ [sh], bds := s.bds ++ [⟨p1, p2, 0, 0⟩] } (N + 1) (M + 1) true := ⟨fun w B a b l ca cb cl hr hB => by
  obtain ⟨i0, hi, hz0, hz1, hz2⟩ := info_parts infoShd
  obtain ⟨j0, hj, hy0, hy1, hy2⟩ := info_parts infoB
  have D0 := Lib.hid (DoBx.start w B s N M K ⟨1, 0, z1, z2, sh, lit0⟩ a b l ca cb cl hr hB)
  clear hr
  go_enter Tryz.func69, Tryz.ntmps69
  go_wp2_with fail
  refine (F.call _).mono ?_
  rintro r w1 ⟨rfl, hb⟩
  have DA := Lib.hid ((D0.out.mono hB hb).alloc (o := .cells #[.int .i64 t, .bool f] 52) hB)
  clear hb D0 F
  have sA := DA.out.size
  simp only [World.size_alloc] at sA
  (obtain ⟨p0, p1, p2, p3, p4, p5, p6, p7, p8, p9, p10, p11⟩ := blk12 (DA.out.x))
  (obtain ⟨q0, q1, q2, q3, q4, q5, q6, q7, q8, q9, q10, q11, q12⟩ := blk13 (DA.out.y))
  have f5 := DA.out.x.free 5
  have hOA : ((w1.alloc (.cells #[.int .i64 t, .bool f] 52)).alloc (.cells #[.complex .f32 sh.a1 sh.a2, .complex .f32 sh.b1 sh.b2, .complex .f32 sh.c1 sh.c2, .float .f32 sh.r, .float .f32 sh.g, .float .f32 sh.b, .float .f32 sh.k] 36)).ownsRow B 36 7 (.slice a N ca) N (shCells s.shs) := World.ownsRow.alloc DA.out.own.sh _
  go_wp2_with (at_builtin; go_loud (refine wpList_append_lies _ rfl _ _ 27 rfl B 36 i0 (.agg #[.complex .f32 0 0, .complex .f32 0 0, .complex .f32 0 0, .float .f32 0, .float .f32 0, .float .f32 0, .float .f32 0]) 7 40 Tryz.underlying27 hi hz0 hz1 hz2 rfl (by decide) (.slice a N ca) N (shCells s.shs) rfl hOA ⟨w1.heap.size + 1, 0, Option.none⟩ 1 1 sh.cells rfl rfl (World.news_of_block (cs := #[.complex .f32 sh.a1 sh.a2, .complex .f32 sh.b1 sh.b2, .complex .f32 sh.c1 sh.c2, .float .f32 sh.r, .float .f32 sh.g, .float .f32 sh.b, .float .f32 sh.k]) (t := 36) (fr := (0, 0)) (Blk.newAt (by simp))) (by simp [Shd.cells, Value.oneCell']) (by omega) (by unfold maxLen; omega) (by omega) (by simp; omega) (w1.heap.size + 1 + 1) (by simp) ?_))
  intro gg cap3 w5 hown3 hgrow hat hlt3
  have DB := Lib.hid ((DA.out.alloc hB).appSh hB hgrow hown3)
  have hX5 := blk_keep hgrow hOA (DA.out.alloc (o := .cells #[.complex .f32 sh.a1 sh.a2, .complex .f32 sh.b1 sh.b2, .complex .f32 sh.c1 sh.c2, .float .f32 sh.r, .float .f32 sh.g, .float .f32 sh.b, .float .f32 sh.k] 36) hB).x (by decide)
  have d5 := Blk.cellAt (i := 5) hX5 rfl
  simp only [List.getElem_toArray, List.getElem_cons_zero, List.getElem_cons_succ] at d5
  have g5 := hX5.free 5
  have l5 := hX5.lt
  clear hX5 DA hOA hown3 hgrow hat f5 p0 p1 p2 p3 p4 p5 p6 p7 p8 p9 p10 p11 q0 q1 q2 q3 q4 q5 q6 q7 q8 q9 q10 q11 q12
  have hOB : ((w5.setCell ⟨w.heap.size, 5, Option.none⟩ (.slice (some ⟨gg, 0, Option.none⟩) (N + 1) cap3)).alloc (.cells #[.complex .f32 p1 p2, .complex .f32 0 0] 74)).ownsRow B 74 2 (.slice b M cb) M (bwCells s.bds) := World.ownsRow.alloc DB.out.own.bd _
  have sB := DB.out.size
  have sY : (w5.setCell ⟨w.heap.size, 5, Option.none⟩ (.slice (some ⟨gg, 0, Option.none⟩) (N + 1) cap3)).heap.size = w5.heap.size := by simp
  go_wp2_with (at_builtin; go_loud (refine wpList_append_lies _ rfl _ _ 29 rfl B 74 j0 (.agg #[.complex .f32 0 0, .complex .f32 0 0]) 2 16 Tryz.underlying29 hj hy0 hy1 hy2 rfl (by decide) (.slice b M cb) M (bwCells s.bds) rfl hOB ⟨w5.heap.size, 0, Option.none⟩ 1 1 [.complex .f32 p1 p2, .complex .f32 0 0] rfl rfl (World.news_of_block (cs := #[.complex .f32 p1 p2, .complex .f32 0 0]) (t := 74) (fr := (0, 0)) (Blk.newAt (by simp))) (by simp [Value.oneCell']) (by omega) (by unfold maxLen; omega) (by omega) (by simp; omega) (w5.heap.size + 1) (by simp) ?_))
  intro hh cap4 w7 hown7 hgrow7 hat7 hlt7
  have DC := Lib.hid ((DB.out.alloc (o := .cells #[.complex .f32 p1 p2, .complex .f32 0 0] 74) hB).appBd (bd := ⟨p1, p2, 0, 0⟩) hB hgrow7 hown7)
  have hX7 := blk_keep hgrow7 hOB (DB.out.alloc (o := .cells #[.complex .f32 p1 p2, .complex .f32 0 0] 74) hB).x (by decide)
  have hZ7 := blk_keep hgrow7 hOB (DB.out.alloc (o := .cells #[.complex .f32 p1 p2, .complex .f32 0 0] 74) hB).z (by decide)
  have d9 := Blk.cellAt (i := 9) hX7 rfl
  simp only [List.getElem_toArray, List.getElem_cons_zero, List.getElem_cons_succ] at d9
  have g9 := hX7.free 9
  have l7 := hX7.lt
  clear DB hOB hown7 hgrow7 hat7 d5 g5 hX7 hZ7
  have sC := DC.out.size
  (obtain ⟨k0, k1, k2, k3, k4, k5, k6, k7, k8, k9, k10, k11⟩ := blk12 (DC.out.x))
  (obtain ⟨q0, q1, q2, q3, q4, q5, q6, q7, q8, q9, q10, q11⟩ := blk12 (DC.out.z))
  (have h0 := DC.out.z.free 0; have h1 := DC.out.z.free 1; have h2 := DC.out.z.free 2; have h3 := DC.out.z.free 3; have h4 := DC.out.z.free 4; have h5 := DC.out.z.free 5; have h6 := DC.out.z.free 6; have h7 := DC.out.z.free 7; have h8 := DC.out.z.free 8; have h9 := DC.out.z.free 9; have h10 := DC.out.z.free 10; have h11 := DC.out.z.free 11)
  have l8 := DC.out.z.lt
  have P5 := Lib.hid (put_z (t := { s with shs := s.shs ++ [sh], bds := s.bds ++ [⟨p1, p2, 0, 0⟩] }) (x' := .slice (some ⟨gg, 0, Option.none⟩) (N + 1) cap3) (y' := .slice (some ⟨hh, 0, Option.none⟩) (M + 1) cap4) (z' := .slice l K cl) DC.out.z)
  go_wp2_with fail
  (obtain ⟨e0, e1, e2, e3, e4, e5, e6, e7, e8, e9, e10, e11⟩ := blk12 (P5.out))
  refine bodyPost_ret (v := .tuple #[.agg #[.int .i64 s.size, .float .f32 s.step, .float .f32 s.lit.r, .float .f32 s.lit.g, .float .f32 s.lit.b, .slice (some ⟨gg, 0, Option.none⟩) (N + 1) cap3, .int .i64 s.kind, .complex .f32 s.g1 s.g2, .float .f32 0, .slice (some ⟨hh, 0, Option.none⟩) (M + 1) cap4, .int .i64 s.ticks, .slice l K cl], .bool true]) (by simp [results, Tryz.results69, go_sem, e0, e1, e2, e3, e4, e5, e6, e7, e8, e9, e10, e11]) rfl ⟨_, _, _, _, do_out DC.out.z DC.out.own DC.out.below hB sC DC.out.keep⟩⟩
end Go.Proofs.YtfdgijmmgllmgaaGreatDoor
namespace Go.Proofs.YtfdgijmmgllmgaaGreatDoor
open Go.ChangeShapes Go.WideShapes Go.ChangeAt Go.RowKit Go.Joins
set_option linter.unusedSimpArgs false
set_option linter.unusedVariables false
set_option maxRecDepth 100000
attribute [local go_sem] store_f
open Ieee Go.Lib
attribute [local go_sem] store_c
theorem owns_put {W : World} {B T sz n c g i : Nat} {xs : List Value} {v : Value} (h : W.ownsRow B T sz (.slice (some ⟨g, 0, Option.none⟩) n c) n xs) (hi : i < xs.length) : (W.setCell ⟨g, i, Option.none⟩ v).ownsRow B T sz (.slice (some ⟨g, 0, Option.none⟩) n c) n (xs.set i v) := by
  have hl := h.1
  refine ⟨by rw [List.length_set]; exact hl, ?_⟩
  rcases h.2 with ⟨e, _⟩ | ⟨g', cap, cur, e1, hb, hg, hnc, hcm, hcs, ht⟩
  · cases e
  · cases e1
    refine .inr ⟨g, c, cur.setIfInBounds i v, rfl, hb, Blk.set hg, hnc, hcm, by simpa using hcs, ?_⟩
    rw [Array.toList_setIfInBounds, List.take_set, ht]
theorem DoBx.putBd {w W : World} {B : Nat} {s : Sho} {N M K g i : Nat} {e : Evw} {v : Value} {L : List Bw} {a l : Option Addr} {ca cb cl : Nat} (h : DoBx w W B s N M K e a (some ⟨g, 0, Option.none⟩) l ca cb cl) (hB : B ≤ w.heap.size) (hM : 0 < M) (hL : bwCells L = (bwCells s.bds).set i v) (hi : i < (bwCells s.bds).length) :
    DoBx w (W.setCell ⟨g, i, Option.none⟩ v) B { s with bds := L } N M K e a (some ⟨g, 0, Option.none⟩) l ca cb cl := by
  obtain ⟨g', HG⟩ := rowOf h.own.bd hM
  have hgg : g = g' := by have := HG.at_; simpa using this
  subst hgg
  obtain ⟨cs, hgb⟩ := HG.blk
  have h3 := h.size
  have ne : ∀ {P : Nat} {T : TypeId} {c2 : Array Value}, Blk W P c2 T → T ≠ 74 → g ≠ P := fun hP hT e => by
    subst e
    have := hgb.symm.trans hP
    simp at this
    exact hT this.2.symm
  have hsh := owns_apart h.own.sh h.own.bd (by decide)
  have hlg := owns_apart h.own.lg h.own.bd (by decide)
  refine ⟨h.x.other (by dsimp only; exact fun e => ne h.x (by decide) e.symm), h.y.other (by dsimp only; exact fun e => ne h.y (by decide) e.symm), h.z.other (by dsimp only; exact fun e => ne h.z (by decide) e.symm), ⟨?_, ?_, ?_⟩, h.below.setCell HG.ge _, by simpa using h3, fun P cs h' => (h.keep P cs h').other (by dsimp only; exact fun e => ne (h.keep P cs h') (by decide) e.symm)⟩
  · exact owns_other (grownBy_set (grownBy_refl _ _)) h.own.sh (fun k e e2 => by cases e2; exact hsh e)
  · show (W.setCell ⟨g, i, Option.none⟩ v).ownsRow B _ 2 _ M (bwCells L)
    rw [hL]
    exact owns_put h.own.bd hi
  · exact owns_other (grownBy_set (grownBy_refl _ _)) h.own.lg (fun k e e2 => by cases e2; exact hlg e)
theorem DoBx.drew {w W : World} {B : Nat} {s : Sho} {N M K : Nat} {e : Evw} {a b l : Option Addr} {ca cb cl : Nat} (h : DoBx w W B s N M K e a b l ca cb cl) (hB : B ≤ w.heap.size) : DoBx w W.drew B s N M K e a b l ca cb cl := h.mono hB ((Below.refl _ _).drew)
set_option maxHeartbeats 32000000 in
theorem doS_push {s : Sho} {N M K n : Nat} {z1 z2 x y : Nat} (hn : n < M) (hm : s.bds.length = M) (hM : M ≤ 8) (J : JoinS (s.bds.getD n default).v1 (s.bds.getD n default).v2 z1 z2 x y) : DoS 69 s N M K ⟨6, n, z1, z2, shd0, lit0⟩ { s with bds := s.bds.set n ⟨(s.bds.getD n default).a1, (s.bds.getD n default).a2, x, y⟩ } N M true := ⟨fun w B a b l ca cb cl hr hB => by
  obtain ⟨g, HG⟩ := rowOf hr.bd (by omega)
  obtain rfl := HG.at_
  have D0 := Lib.hid (DoBx.start w B s N M K ⟨6, n, z1, z2, shd0, lit0⟩ a (some ⟨g, 0, Option.none⟩) l ca cb cl hr hB)
  have hbw := (bwRow_of_lie HG.lie) n (by omega)
  have hc1 := hbw.2
  have hgl := HG.lt
  have hfr := HG.free (n * 2 + 1)
  have HS : Hid (bwCells (s.bds.set n ⟨(s.bds.getD n default).a1, (s.bds.getD n default).a2, x, y⟩) = (bwCells s.bds).set (n * 2 + 1) (.complex .f32 x y)) := bw_set1 _ _ _ _ (by omega)
  have HLEN := Lib.hid hm
  generalize s.bds.set n ⟨(s.bds.getD n default).a1, (s.bds.getD n default).a2, x, y⟩ = T at *
  generalize (s.bds.getD n default).v1 = v1 at *
  generalize (s.bds.getD n default).v2 = v2 at *
  have hk0 : (0 : Int) ≤ (n : Int) := by omega
  have hk1 : (n : Int) < (M : Int) := by omega
  have hd : decide ((M : Int) ≤ (n : Int)) = false := by simp; omega
  clear HG hr hbw hm
  go_enter Tryz.func69, Tryz.ntmps69
  go_wp2_with fail
  generalize hX : ((w.alloc (.cells #[.int .i64 s.size, .float .f32 s.step, .float .f32 s.lit.r, .float .f32 s.lit.g, .float .f32 s.lit.b, .slice a N ca, .int .i64 s.kind, .complex .f32 s.g1 s.g2, .float .f32 0, .slice (some ⟨g, 0, Option.none⟩) M cb, .int .i64 s.ticks, .slice l K cl] 34)).alloc (.cells #[.int .i64 (⟨6, n, z1, z2, shd0, lit0⟩ : Evw).kind, .int .i64 (⟨6, n, z1, z2, shd0, lit0⟩ : Evw).n, .complex .f32 (⟨6, n, z1, z2, shd0, lit0⟩ : Evw).z1 (⟨6, n, z1, z2, shd0, lit0⟩ : Evw).z2, .complex .f32 (⟨6, n, z1, z2, shd0, lit0⟩ : Evw).s.a1 (⟨6, n, z1, z2, shd0, lit0⟩ : Evw).s.a2, .complex .f32 (⟨6, n, z1, z2, shd0, lit0⟩ : Evw).s.b1 (⟨6, n, z1, z2, shd0, lit0⟩ : Evw).s.b2, .complex .f32 (⟨6, n, z1, z2, shd0, lit0⟩ : Evw).s.c1 (⟨6, n, z1, z2, shd0, lit0⟩ : Evw).s.c2, .float .f32 (⟨6, n, z1, z2, shd0, lit0⟩ : Evw).s.r, .float .f32 (⟨6, n, z1, z2, shd0, lit0⟩ : Evw).s.g, .float .f32 (⟨6, n, z1, z2, shd0, lit0⟩ : Evw).s.b, .float .f32 (⟨6, n, z1, z2, shd0, lit0⟩ : Evw).s.k, .float .f32 (⟨6, n, z1, z2, shd0, lit0⟩ : Evw).l.r, .float .f32 (⟨6, n, z1, z2, shd0, lit0⟩ : Evw).l.g, .float .f32 (⟨6, n, z1, z2, shd0, lit0⟩ : Evw).l.b] 38)).alloc (.cells #[.int .i64 0, .float .f32 0, .float .f32 0, .float .f32 0, .float .f32 0, .slice Option.none 0 0, .int .i64 0, .complex .f32 0 0, .float .f32 0, .slice Option.none 0 0, .int .i64 0, .slice Option.none 0 0] 34) = X at *
  have c1 : X.cell? ⟨g, n * 2 + 1, Option.none⟩ = some (.complex .f32 v1 v2) := by rw [← hX]; exact cAlloc (cAlloc (cAlloc hc1))
  have f1 : X.frozen? ⟨g, n * 2 + 1, Option.none⟩ = false := by
    obtain ⟨g', HG⟩ := rowOf D0.out.own.bd (by omega)
    obtain rfl : g = g' := by have := HG.at_; simpa using this
    exact HG.free _
  have lg : g < X.heap.size := by have := D0.out.size; omega
  clear hX hc1 hfr
  (obtain ⟨q0, q1, q2, q3, q4, q5, q6, q7, q8, q9, q10, q11, q12⟩ := blk13 (D0.out.y))
  have ly := D0.out.y.lt
  go_still_tail 14, (by kernel_rfl)
  still_call (J.call _)
  repeat still_step
  refine wpStill_nil ?_
  change wpList _ _ _ _ _ X.drew
  have D1 : Hid (DoBx w X.drew B s N M K ⟨6, n, z1, z2, shd0, lit0⟩ a (some ⟨g, 0, Option.none⟩) l ca cb cl) := D0.out.drew hB
  have hlen : n * 2 + 1 < (bwCells s.bds).length := by rw [bwCells_len, HLEN.out]; omega
  have D2 := Lib.hid (D1.out.putBd hB (by omega) HS.out hlen)
  have c2 : X.drew.cell? ⟨g, n * 2 + 1, Option.none⟩ = some (.complex .f32 v1 v2) := c1
  have f2 : X.drew.frozen? ⟨g, n * 2 + 1, Option.none⟩ = false := f1
  have l2 : g < X.drew.heap.size := lg
  clear q0 q1 q2 q3 q4 q5 q6 q7 q8 q9 q10 q11 q12 c1 f1 lg ly D0 D1 J
  generalize X.drew = Y at *
  have sC := D2.out.size
  (obtain ⟨k0, k1, k2, k3, k4, k5, k6, k7, k8, k9, k10, k11⟩ := blk12 (D2.out.x))
  (obtain ⟨q0, q1, q2, q3, q4, q5, q6, q7, q8, q9, q10, q11⟩ := blk12 (D2.out.z))
  (have h0 := D2.out.z.free 0; have h1 := D2.out.z.free 1; have h2 := D2.out.z.free 2; have h3 := D2.out.z.free 3; have h4 := D2.out.z.free 4; have h5 := D2.out.z.free 5; have h6 := D2.out.z.free 6; have h7 := D2.out.z.free 7; have h8 := D2.out.z.free 8; have h9 := D2.out.z.free 9; have h10 := D2.out.z.free 10; have h11 := D2.out.z.free 11)
  have l8 := D2.out.z.lt
  have P5 := Lib.hid (put_z (t := { s with bds := T }) (x' := .slice a N ca) (y' := .slice (some ⟨g, 0, Option.none⟩) M cb) (z' := .slice l K cl) D2.out.z)
  go_wp2_with fail
  (obtain ⟨e0, e1, e2, e3, e4, e5, e6, e7, e8, e9, e10, e11⟩ := blk12 (P5.out))
  refine bodyPost_ret (v := .tuple #[.agg #[.int .i64 s.size, .float .f32 s.step, .float .f32 s.lit.r, .float .f32 s.lit.g, .float .f32 s.lit.b, .slice a N ca, .int .i64 s.kind, .complex .f32 s.g1 s.g2, .float .f32 0, .slice (some ⟨g, 0, Option.none⟩) M cb, .int .i64 s.ticks, .slice l K cl], .bool true]) (by simp [results, Tryz.results69, go_sem, e0, e1, e2, e3, e4, e5, e6, e7, e8, e9, e10, e11]) rfl ⟨_, _, _, _, do_out D2.out.z D2.out.own D2.out.below hB sC D2.out.keep⟩⟩
end Go.Proofs.YtfdgijmmgllmgaaGreatDoor
namespace Go.Proofs.YtfdgijmmgllmgaaGreatDoor
open Go.ChangeShapes Go.WideShapes Go.ChangeAt Go.RowKit Go.Joins
set_option linter.unusedSimpArgs false
set_option linter.unusedVariables false
set_option maxRecDepth 100000
attribute [local go_sem] store_f
open Ieee Go.Lib
attribute [local go_sem] store_c
theorem owns_head {W : World} {B T sz n m c : Nat} {a : Option Addr} {xs : List Value} (h : W.ownsRow B T sz (.slice a n c) n xs) (hm : m ≤ n) (hn : 0 < n) : W.ownsRow B T sz (.slice a m c) m (xs.take (m * sz)) := by
  have hl := h.1
  refine ⟨?_, ?_⟩
  · rw [List.length_take, hl]; exact Nat.min_eq_left (Nat.mul_le_mul_right _ hm)
  · rcases h.2 with ⟨e, e0⟩ | ⟨g', cap, cur, e1, hb, hg, hnc, hcm, hcs, ht⟩
    · omega
    · cases e1
      refine .inr ⟨g', c, cur, rfl, hb, hg, by omega, hcm, hcs, ?_⟩
      rw [← ht, List.take_take, Nat.min_eq_left (Nat.mul_le_mul_right _ hm)]
theorem LieAt.drop {W : World} {g : Nat} {xs : List Value} (h : LieAt W g 0 xs) (k : Nat) : LieAt W g k (xs.drop k) := fun j u hj => by
  rw [List.getElem?_drop] at hj
  have := h (k + j) u hj
  rwa [Nat.zero_add] at this
theorem DoBx.setSh {w W w5 : World} {B : Nat} {s : Sho} {N M K N0 c0 j N' c' : Nat} {e : Evw} {L : List Shd} {ys : List Value} {a a0 a' b l : Option Addr} {ca cb cl : Nat} (h : DoBx w W B s N M K e a b l ca cb cl) (hB : B ≤ w.heap.size) (h0 : W.ownsRow B 36 7 (.slice a0 N0 c0) j ys) (hg : W.grownBy w5 (Value.slice a0 N0 c0).ownBlock)
    (ho : w5.ownsRow B 36 7 (.slice a' N' c') N' (shCells L)) :
    DoBx w (w5.setCell ⟨w.heap.size, 5, Option.none⟩ (.slice a' N' c')) B { s with shs := L } N' M K e a' b l c' cb cl := by
  have hs := hg.size
  have h3 := h.size
  have X5 := blk_keep hg h0 h.x (by decide)
  have Y5 := blk_keep hg h0 h.y (by decide)
  have Z5 := blk_keep hg h0 h.z (by decide)
  have B5 := owns_keep hg h0 h.own.bd (by decide)
  have L5 := owns_keep hg h0 h.own.lg (by decide)
  have O5 : ShoOwn w5 B { s with shs := L } N' M K a' b l c' cb cl := ⟨ho, B5, L5⟩
  exact ⟨Blk.setAt rfl X5 rfl, Y5.other (by dsimp only; omega), Z5.other (by dsimp only; omega), O5.setP X5, (h.below.trans (below_keep hg h0 (by omega))).setCell (by dsimp only; omega) _, by simp; omega, fun P cs h' => (blk_keep hg h0 (h.keep P cs h') (by decide)).other (by have := h'.lt; dsimp only; omega)⟩
theorem DoBx.setBd {w W w5 : World} {B : Nat} {s : Sho} {N M K N0 c0 j M' c' : Nat} {e : Evw} {L : List Bw} {ys : List Value} {a a0 b' b l : Option Addr} {ca cb cl : Nat} (h : DoBx w W B s N M K e a b l ca cb cl) (hB : B ≤ w.heap.size) (h0 : W.ownsRow B 74 2 (.slice a0 N0 c0) j ys) (hg : W.grownBy w5 (Value.slice a0 N0 c0).ownBlock)
    (ho : w5.ownsRow B 74 2 (.slice b' M' c') M' (bwCells L)) :
    DoBx w (w5.setCell ⟨w.heap.size, 9, Option.none⟩ (.slice b' M' c')) B { s with bds := L } N M' K e a b' l ca c' cl := by
  have hs := hg.size
  have h3 := h.size
  have X5 := blk_keep hg h0 h.x (by decide)
  have Y5 := blk_keep hg h0 h.y (by decide)
  have Z5 := blk_keep hg h0 h.z (by decide)
  have S5 := owns_keep hg h0 h.own.sh (by decide)
  have L5 := owns_keep hg h0 h.own.lg (by decide)
  have O5 : ShoOwn w5 B { s with bds := L } N M' K a b' l ca c' cl := ⟨S5, ho, L5⟩
  exact ⟨Blk.setAt rfl X5 rfl, Y5.other (by dsimp only; omega), Z5.other (by dsimp only; omega), O5.setP X5, (h.below.trans (below_keep hg h0 (by omega))).setCell (by dsimp only; omega) _, by simp; omega, fun P cs h' => (blk_keep hg h0 (h.keep P cs h') (by decide)).other (by have := h'.lt; dsimp only; omega)⟩
theorem rest_at {W : World} {g n c sz : Nat} {xs : List Value} (h : LieAt W g 0 xs) (hc : c = n → (xs.drop (n * sz)) = []) : ∃ A : Addr, (if c = n then some (⟨g, 0, Option.none⟩ : Addr) else some ⟨g, n * sz, Option.none⟩) = some A ∧ Hid (∀ t u, (xs.drop (n * sz))[t]? = some u → W.cell? (A.add t) = some u) := by
  by_cases h' : c = n
  · refine ⟨⟨g, 0, Option.none⟩, by simp [h'], fun t u hu => ?_⟩
    rw [hc h'] at hu
    simp at hu
  · refine ⟨⟨g, n * sz, Option.none⟩, by simp [h'], fun t u hu => ?_⟩
    rw [Go.WideShapes.add_plain]
    exact h.drop _ t u hu
set_option maxHeartbeats 32000000 in
theorem doS_take {s : Sho} {N M K n : Nat} (hn : n < M) (hNM : N = M) (hs : s.shs.length = N) (hm : s.bds.length = M) (hM : M ≤ 8) : DoS 69 s N M K ⟨2, n, 0, 0, shd0, lit0⟩ { s with shs := s.shs.take n ++ s.shs.drop (n + 1), bds := s.bds.take n ++ s.bds.drop (n + 1) } (N - 1) (M - 1) true := ⟨fun w B a b l ca cb cl hr hB => by
  subst hNM
  obtain ⟨i0, hi, hz0, hz1, hz2⟩ := info_parts infoShd
  obtain ⟨j0, hj, hy0, hy1, hy2⟩ := info_parts infoB
  obtain ⟨p, HP⟩ := rowOf hr.sh (by omega)
  obtain ⟨g, HG⟩ := rowOf hr.bd (by omega)
  obtain rfl := HP.at_
  obtain rfl := HG.at_
  have D0 := Lib.hid (DoBx.start w B s N N K ⟨2, n, 0, 0, shd0, lit0⟩ (some ⟨p, 0, Option.none⟩) (some ⟨g, 0, Option.none⟩) l ca cb cl hr hB)
  obtain ⟨qa1, qa2⟩ := owns_cap hr.sh (by omega)
  obtain ⟨qb1, qb2⟩ := owns_cap hr.bd (by omega)
  have HLS := Lib.hid hs
  have HLB := Lib.hid hm
  have hk0 : (0 : Int) ≤ (n : Int) := by omega
  have hd : decide ((N : Int) ≤ (n : Int)) = false := by simp; omega
  clear HG HP hr hs hm
  go_enter Tryz.func69, Tryz.ntmps69
  go_wp2_with fail
  generalize hX : ((w.alloc (.cells #[.int .i64 s.size, .float .f32 s.step, .float .f32 s.lit.r, .float .f32 s.lit.g, .float .f32 s.lit.b, .slice (some ⟨p, 0, Option.none⟩) N ca, .int .i64 s.kind, .complex .f32 s.g1 s.g2, .float .f32 0, .slice (some ⟨g, 0, Option.none⟩) N cb, .int .i64 s.ticks, .slice l K cl] 34)).alloc (.cells #[.int .i64 (⟨2, n, 0, 0, shd0, lit0⟩ : Evw).kind, .int .i64 (⟨2, n, 0, 0, shd0, lit0⟩ : Evw).n, .complex .f32 (⟨2, n, 0, 0, shd0, lit0⟩ : Evw).z1 (⟨2, n, 0, 0, shd0, lit0⟩ : Evw).z2, .complex .f32 (⟨2, n, 0, 0, shd0, lit0⟩ : Evw).s.a1 (⟨2, n, 0, 0, shd0, lit0⟩ : Evw).s.a2, .complex .f32 (⟨2, n, 0, 0, shd0, lit0⟩ : Evw).s.b1 (⟨2, n, 0, 0, shd0, lit0⟩ : Evw).s.b2, .complex .f32 (⟨2, n, 0, 0, shd0, lit0⟩ : Evw).s.c1 (⟨2, n, 0, 0, shd0, lit0⟩ : Evw).s.c2, .float .f32 (⟨2, n, 0, 0, shd0, lit0⟩ : Evw).s.r, .float .f32 (⟨2, n, 0, 0, shd0, lit0⟩ : Evw).s.g, .float .f32 (⟨2, n, 0, 0, shd0, lit0⟩ : Evw).s.b, .float .f32 (⟨2, n, 0, 0, shd0, lit0⟩ : Evw).s.k, .float .f32 (⟨2, n, 0, 0, shd0, lit0⟩ : Evw).l.r, .float .f32 (⟨2, n, 0, 0, shd0, lit0⟩ : Evw).l.g, .float .f32 (⟨2, n, 0, 0, shd0, lit0⟩ : Evw).l.b] 38)).alloc (.cells #[.int .i64 0, .float .f32 0, .float .f32 0, .float .f32 0, .float .f32 0, .slice Option.none 0 0, .int .i64 0, .complex .f32 0 0, .float .f32 0, .slice Option.none 0 0, .int .i64 0, .slice Option.none 0 0] 34) = X at *
  clear hX
  (obtain ⟨q0, q1, q2, q3, q4, q5, q6, q7, q8, q9, q10, q11, q12⟩ := blk13 (D0.out.y))
  (obtain ⟨k0, k1, k2, k3, k4, k5, k6, k7, k8, k9, k10, k11⟩ := blk12 (D0.out.x))
  have f5 := D0.out.x.free 5
  have ly := D0.out.y.lt
  have lx := D0.out.x.lt
  have t1 : (n : Int) ≤ (ca : Int) := by omega
  have t2 : (n : Int) + 1 ≤ (N : Int) := by omega
  have t4 : (0 : Int) ≤ (n : Int) + 1 := by omega
  have hw : IntKind.i64.wrap ((n : Int) + 1) = (n : Int) + 1 := IntWalk.i64_in _ (by omega)
  have ht : ((n : Int) + 1).toNat = n + 1 := by omega
  have hlS : (shCells s.shs).length = N * 7 := by rw [shCells_len, HLS.out]
  have hlB : (bwCells s.bds).length = N * 2 := by rw [bwCells_len, HLB.out]
  have hlieS : LieAt X p 0 (shCells s.shs) := by
    obtain ⟨p', HP⟩ := rowOf D0.out.own.sh (by omega)
    obtain rfl : p = p' := by have := HP.at_; simpa using this
    exact HP.lie
  obtain ⟨A, hA, hsrc⟩ := rest_at (n := n + 1) (c := ca) (sz := 7) hlieS (fun e => List.drop_eq_nil_of_le (by rw [hlS]; exact Nat.mul_le_mul_right _ (by omega)))
  have hown : X.drew.ownsRow B 36 7 (.slice (some ⟨p, 0, Option.none⟩) n ca) n ((shCells s.shs).take (n * 7)) := (owns_head D0.out.own.sh (by omega) (by omega)).drew
  have s2 : Hid (((shCells s.shs).drop ((n + 1) * 7)).length = (N - (n + 1)) * 7) := by show _ = _; rw [List.length_drop, hlS, Nat.sub_mul]
  have s3 : Hid (∀ u ∈ (shCells s.shs).drop ((n + 1) * 7), u.oneCell' = true) := fun u hu => sh_one _ u (List.mem_of_mem_drop hu)
  clear hlieS
  go_still_tail 11, (by kernel_rfl)
  change wpList _ _ _ _ _ X.drew
  go_wp2_with (at_builtin; go_loud (refine wpList_append_own _ rfl _ _ 27 rfl B 36 i0 (.agg #[.complex .f32 0 0, .complex .f32 0 0, .complex .f32 0 0, .float .f32 0, .float .f32 0, .float .f32 0, .float .f32 0]) 7 40 Tryz.underlying27 hi hz0 hz1 hz2 rfl (by decide) (.slice (some ⟨p, 0, Option.none⟩) n ca) n ((shCells s.shs).take (n * 7)) rfl hown A (N - (n + 1)) (ca - (n + 1)) ((shCells s.shs).drop ((n + 1) * 7)) rfl s2.out (fun j u hu => hsrc.out j u hu) s3.out (by unfold maxLen; omega) (by omega) (by have := D0.out.size; show B ≤ X.heap.size; omega) ?_))
  intro v5 w5 hown5 hgrow _
  obtain ⟨a5, c5, rfl⟩ := slice_form (m := 0) hown5
  have eN : n + (N - (n + 1)) = N - 1 := by omega
  rw [eN] at hown5
  rw [← sh_cut] at hown5
  have DB := Lib.hid ((D0.out.drew hB).setSh hB hown hgrow hown5)
  have hX5 := blk_keep hgrow hown (D0.out.drew hB).x (by decide)
  have hY5 := blk_keep hgrow hown (D0.out.drew hB).y (by decide)
  have d5 := Blk.cellAt (i := 5) hX5 rfl
  simp only [List.getElem_toArray, List.getElem_cons_zero, List.getElem_cons_succ] at d5
  have g5 := hX5.free 5
  have l5 := hX5.lt
  (try rw [show n + (N - (n + 1)) = N - 1 by omega])
  clear hX5 hY5 hown5 hgrow hown hsrc hA s2 s3 D0 f5 k0 k1 k2 k3 k4 k5 k6 k7 k8 k9 k10 k11 q0 q1 q2 q3 q4 q5 q6 q7 q8 q9 q10 q11 q12 ly lx t1
  go_wp2_with fail
  clear d5 g5 l5
  generalize w5.setCell ⟨w.heap.size, 5, Option.none⟩ (.slice a5 (N - 1) c5) = Z at *
  (obtain ⟨q0, q1, q2, q3, q4, q5, q6, q7, q8, q9, q10, q11, q12⟩ := blk13 (DB.out.y))
  have ly := DB.out.y.lt
  have lx := DB.out.x.lt
  have t1 : (n : Int) ≤ (cb : Int) := by omega
  have hlieB : LieAt Z g 0 (bwCells s.bds) := by
    obtain ⟨p', HP⟩ := rowOf DB.out.own.bd (by omega)
    obtain rfl : g = p' := by have := HP.at_; simpa using this
    exact HP.lie
  obtain ⟨A2, hA2, hsrc2⟩ := rest_at (n := n + 1) (c := cb) (sz := 2) hlieB (fun e => List.drop_eq_nil_of_le (by rw [hlB]; exact Nat.mul_le_mul_right _ (by omega)))
  have hown2 : Z.drew.ownsRow B 74 2 (.slice (some ⟨g, 0, Option.none⟩) n cb) n ((bwCells s.bds).take (n * 2)) := (owns_head DB.out.own.bd (by omega) (by omega)).drew
  have s4 : Hid (((bwCells s.bds).drop ((n + 1) * 2)).length = (N - (n + 1)) * 2) := by show _ = _; rw [List.length_drop, hlB, Nat.sub_mul]
  have s5 : Hid (∀ u ∈ (bwCells s.bds).drop ((n + 1) * 2), u.oneCell' = true) := fun u hu => bw_one _ u (List.mem_of_mem_drop hu)
  clear hlieB
  go_still_tail 9, (by kernel_rfl)
  change wpList _ _ _ _ _ Z.drew
  go_wp2_with (at_builtin; go_loud (refine wpList_append_own _ rfl _ _ 29 rfl B 74 j0 (.agg #[.complex .f32 0 0, .complex .f32 0 0]) 2 16 Tryz.underlying29 hj hy0 hy1 hy2 rfl (by decide) (.slice (some ⟨g, 0, Option.none⟩) n cb) n ((bwCells s.bds).take (n * 2)) rfl hown2 A2 (N - (n + 1)) (cb - (n + 1)) ((bwCells s.bds).drop ((n + 1) * 2)) rfl s4.out (fun j u hu => hsrc2.out j u hu) s5.out (by unfold maxLen; omega) (by omega) (by have := DB.out.size; show B ≤ Z.heap.size; omega) ?_))
  intro v7 w7 hown7 hgrow7 _
  obtain ⟨b7, c7, rfl⟩ := slice_form (m := 0) hown7
  have eN2 : n + (N - (n + 1)) = N - 1 := by omega
  (try rw [eN2] at hown7)
  rw [← bw_cut] at hown7
  have DC := Lib.hid ((DB.out.drew hB).setBd hB hown2 hgrow7 hown7)
  have hX7 := blk_keep hgrow7 hown2 (DB.out.drew hB).x (by decide)
  have d9 := Blk.cellAt (i := 9) hX7 rfl
  simp only [List.getElem_toArray, List.getElem_cons_zero, List.getElem_cons_succ] at d9
  have g9 := hX7.free 9
  have l7 := hX7.lt
  (try rw [show n + (N - (n + 1)) = N - 1 by omega])
  clear hX7 hown7 hgrow7 hown2 hsrc2 hA2 s4 s5 DB q0 q1 q2 q3 q4 q5 q6 q7 q8 q9 q10 q11 q12 ly lx t1
  have sC := DC.out.size
  (obtain ⟨k0, k1, k2, k3, k4, k5, k6, k7, k8, k9, k10, k11⟩ := blk12 (DC.out.x))
  (obtain ⟨q0, q1, q2, q3, q4, q5, q6, q7, q8, q9, q10, q11⟩ := blk12 (DC.out.z))
  (have h0 := DC.out.z.free 0; have h1 := DC.out.z.free 1; have h2 := DC.out.z.free 2; have h3 := DC.out.z.free 3; have h4 := DC.out.z.free 4; have h5 := DC.out.z.free 5; have h6 := DC.out.z.free 6; have h7 := DC.out.z.free 7; have h8 := DC.out.z.free 8; have h9 := DC.out.z.free 9; have h10 := DC.out.z.free 10; have h11 := DC.out.z.free 11)
  have l8 := DC.out.z.lt
  have P5 := Lib.hid (put_z (t := { s with shs := s.shs.take n ++ s.shs.drop (n + 1), bds := s.bds.take n ++ s.bds.drop (n + 1) }) (x' := .slice a5 (N - 1) c5) (y' := .slice b7 (N - 1) c7) (z' := .slice l K cl) DC.out.z)
  go_wp2_with fail
  (obtain ⟨e0, e1, e2, e3, e4, e5, e6, e7, e8, e9, e10, e11⟩ := blk12 (P5.out))
  refine bodyPost_ret (v := .tuple #[.agg #[.int .i64 s.size, .float .f32 s.step, .float .f32 s.lit.r, .float .f32 s.lit.g, .float .f32 s.lit.b, .slice a5 (N - 1) c5, .int .i64 s.kind, .complex .f32 s.g1 s.g2, .float .f32 0, .slice b7 (N - 1) c7, .int .i64 s.ticks, .slice l K cl], .bool true]) (by simp [results, Tryz.results69, go_sem, e0, e1, e2, e3, e4, e5, e6, e7, e8, e9, e10, e11]) rfl ⟨_, _, _, _, do_out DC.out.z DC.out.own DC.out.below hB sC DC.out.keep⟩⟩
end Go.Proofs.YtfdgijmmgllmgaaGreatDoor
