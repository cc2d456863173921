/-
  Texts Wb Wc, joined.
-/
import Derived.Test.YtfdgijmmgllmgaaGreatDoorS26
namespace Go.Proofs.YtfdgijmmgllmgaaGreatDoor
open Go.ChangeShapes Go.WideShapes Go.ChangeAt Go.RowKit Go.Joins
set_option linter.unusedSimpArgs false
set_option linter.unusedVariables false
set_option maxRecDepth 100000
attribute [local go_sem] store_f
open Ieee Go.Lib
attribute [local go_sem] store_c run_equalIn_c run_equalIn_g
set_option maxHeartbeats 8000000 in
theorem evS_add {s : Shd} {z1 z2 : Nat} (S : ShdS s) (P : PtS z1 z2) : EvIs 67 ⟨1, 0, z1, z2, s, lit0⟩ true := ⟨fun w => by
  have BR := bare_ftt 1 z1 z2 s
  have B0 : Hid (EvBox w (w.alloc (.cells #[.int .i64 (⟨1, 0, z1, z2, s, lit0⟩ : Evw).kind, .int .i64 (⟨1, 0, z1, z2, s, lit0⟩ : Evw).n, .complex .f32 (⟨1, 0, z1, z2, s, lit0⟩ : Evw).z1 (⟨1, 0, z1, z2, s, lit0⟩ : Evw).z2, .complex .f32 (⟨1, 0, z1, z2, s, lit0⟩ : Evw).s.a1 (⟨1, 0, z1, z2, s, lit0⟩ : Evw).s.a2, .complex .f32 (⟨1, 0, z1, z2, s, lit0⟩ : Evw).s.b1 (⟨1, 0, z1, z2, s, lit0⟩ : Evw).s.b2, .complex .f32 (⟨1, 0, z1, z2, s, lit0⟩ : Evw).s.c1 (⟨1, 0, z1, z2, s, lit0⟩ : Evw).s.c2, .float .f32 (⟨1, 0, z1, z2, s, lit0⟩ : Evw).s.r, .float .f32 (⟨1, 0, z1, z2, s, lit0⟩ : Evw).s.g, .float .f32 (⟨1, 0, z1, z2, s, lit0⟩ : Evw).s.b, .float .f32 (⟨1, 0, z1, z2, s, lit0⟩ : Evw).s.k, .float .f32 (⟨1, 0, z1, z2, s, lit0⟩ : Evw).l.r, .float .f32 (⟨1, 0, z1, z2, s, lit0⟩ : Evw).l.g, .float .f32 (⟨1, 0, z1, z2, s, lit0⟩ : Evw).l.b] 38)) ⟨1, 0, z1, z2, s, lit0⟩) := ⟨Blk.new _ _ _, (Below.refl _ _).alloc (Nat.le_refl _) _⟩
  go_enter Tryz.func67, Tryz.ntmps67
  go_wp2_with fail
  refine (S.call _).mono ?_
  rintro r w1 ⟨rfl, hb⟩
  have B1 := Lib.hid (B0.out.mono hb)
  clear hb B0 S
  have l1 := B1.out.x.lt
  (obtain ⟨c0, c1, c2, c3, c4, c5, c6, c7, c8, c9, c10, c11, c12⟩ := blk13 (B1.out.x))
  go_wp2_with fail
  refine (P.call _).mono ?_
  rintro r w2 ⟨rfl, hb⟩
  have B2 := Lib.hid (B1.out.mono hb)
  clear hb B1 P l1 c0 c1 c2 c3 c4 c5 c6 c7 c8 c9 c10 c11 c12
  have l1 := B2.out.x.lt
  (obtain ⟨c0, c1, c2, c3, c4, c5, c6, c7, c8, c9, c10, c11, c12⟩ := blk13 (B2.out.x))
  go_wp2_with fail
  refine (BR.call _).mono ?_
  rintro r w3 ⟨rfl, hb⟩
  have B3 := Lib.hid (B2.out.mono hb)
  clear hb B2 BR l1 c0 c1 c2 c3 c4 c5 c6 c7 c8 c9 c10 c11 c12
  go_wp2
  go_ret
  exact ⟨rfl, B3.out.below⟩⟩
set_option maxHeartbeats 8000000 in
theorem evS_take {n : Int} (L : LieM n 0 7 true) : EvIs 67 ⟨2, n, 0, 0, shd0, lit0⟩ true := ⟨fun w => by
  have BR := bare_tff 2 n
  have B0 : Hid (EvBox w (w.alloc (.cells #[.int .i64 (⟨2, n, 0, 0, shd0, lit0⟩ : Evw).kind, .int .i64 (⟨2, n, 0, 0, shd0, lit0⟩ : Evw).n, .complex .f32 (⟨2, n, 0, 0, shd0, lit0⟩ : Evw).z1 (⟨2, n, 0, 0, shd0, lit0⟩ : Evw).z2, .complex .f32 (⟨2, n, 0, 0, shd0, lit0⟩ : Evw).s.a1 (⟨2, n, 0, 0, shd0, lit0⟩ : Evw).s.a2, .complex .f32 (⟨2, n, 0, 0, shd0, lit0⟩ : Evw).s.b1 (⟨2, n, 0, 0, shd0, lit0⟩ : Evw).s.b2, .complex .f32 (⟨2, n, 0, 0, shd0, lit0⟩ : Evw).s.c1 (⟨2, n, 0, 0, shd0, lit0⟩ : Evw).s.c2, .float .f32 (⟨2, n, 0, 0, shd0, lit0⟩ : Evw).s.r, .float .f32 (⟨2, n, 0, 0, shd0, lit0⟩ : Evw).s.g, .float .f32 (⟨2, n, 0, 0, shd0, lit0⟩ : Evw).s.b, .float .f32 (⟨2, n, 0, 0, shd0, lit0⟩ : Evw).s.k, .float .f32 (⟨2, n, 0, 0, shd0, lit0⟩ : Evw).l.r, .float .f32 (⟨2, n, 0, 0, shd0, lit0⟩ : Evw).l.g, .float .f32 (⟨2, n, 0, 0, shd0, lit0⟩ : Evw).l.b] 38)) ⟨2, n, 0, 0, shd0, lit0⟩) := ⟨Blk.new _ _ _, (Below.refl _ _).alloc (Nat.le_refl _) _⟩
  go_enter Tryz.func67, Tryz.ntmps67
  go_wp2_with fail
  refine (L.call _).mono ?_
  rintro r w1 ⟨rfl, hb⟩
  have B1 := Lib.hid (B0.out.mono hb)
  clear hb B0 L
  have l1 := B1.out.x.lt
  (obtain ⟨c0, c1, c2, c3, c4, c5, c6, c7, c8, c9, c10, c11, c12⟩ := blk13 (B1.out.x))
  go_wp2_with fail
  refine (BR.call _).mono ?_
  rintro r w2 ⟨rfl, hb⟩
  have B2 := Lib.hid (B1.out.mono hb)
  clear hb B1 BR l1 c0 c1 c2 c3 c4 c5 c6 c7 c8 c9 c10 c11 c12
  go_wp2
  go_ret
  exact ⟨rfl, B2.out.below⟩⟩
set_option maxHeartbeats 8000000 in
theorem evS_mirrors {n : Int} (L : LieM n 0 3 true) : EvIs 67 ⟨4, n, 0, 0, shd0, lit0⟩ true := ⟨fun w => by
  have BR := bare_tff 4 n
  have B0 : Hid (EvBox w (w.alloc (.cells #[.int .i64 (⟨4, n, 0, 0, shd0, lit0⟩ : Evw).kind, .int .i64 (⟨4, n, 0, 0, shd0, lit0⟩ : Evw).n, .complex .f32 (⟨4, n, 0, 0, shd0, lit0⟩ : Evw).z1 (⟨4, n, 0, 0, shd0, lit0⟩ : Evw).z2, .complex .f32 (⟨4, n, 0, 0, shd0, lit0⟩ : Evw).s.a1 (⟨4, n, 0, 0, shd0, lit0⟩ : Evw).s.a2, .complex .f32 (⟨4, n, 0, 0, shd0, lit0⟩ : Evw).s.b1 (⟨4, n, 0, 0, shd0, lit0⟩ : Evw).s.b2, .complex .f32 (⟨4, n, 0, 0, shd0, lit0⟩ : Evw).s.c1 (⟨4, n, 0, 0, shd0, lit0⟩ : Evw).s.c2, .float .f32 (⟨4, n, 0, 0, shd0, lit0⟩ : Evw).s.r, .float .f32 (⟨4, n, 0, 0, shd0, lit0⟩ : Evw).s.g, .float .f32 (⟨4, n, 0, 0, shd0, lit0⟩ : Evw).s.b, .float .f32 (⟨4, n, 0, 0, shd0, lit0⟩ : Evw).s.k, .float .f32 (⟨4, n, 0, 0, shd0, lit0⟩ : Evw).l.r, .float .f32 (⟨4, n, 0, 0, shd0, lit0⟩ : Evw).l.g, .float .f32 (⟨4, n, 0, 0, shd0, lit0⟩ : Evw).l.b] 38)) ⟨4, n, 0, 0, shd0, lit0⟩) := ⟨Blk.new _ _ _, (Below.refl _ _).alloc (Nat.le_refl _) _⟩
  go_enter Tryz.func67, Tryz.ntmps67
  go_wp2_with fail
  refine (L.call _).mono ?_
  rintro r w1 ⟨rfl, hb⟩
  have B1 := Lib.hid (B0.out.mono hb)
  clear hb B0 L
  have l1 := B1.out.x.lt
  (obtain ⟨c0, c1, c2, c3, c4, c5, c6, c7, c8, c9, c10, c11, c12⟩ := blk13 (B1.out.x))
  go_wp2_with fail
  refine (BR.call _).mono ?_
  rintro r w2 ⟨rfl, hb⟩
  have B2 := Lib.hid (B1.out.mono hb)
  clear hb B1 BR l1 c0 c1 c2 c3 c4 c5 c6 c7 c8 c9 c10 c11 c12
  go_wp2
  go_ret
  exact ⟨rfl, B2.out.below⟩⟩
set_option maxHeartbeats 8000000 in
theorem evS_gravity {z1 z2 : Nat} (P : PtS z1 z2) : EvIs 67 ⟨5, 0, z1, z2, shd0, lit0⟩ true := ⟨fun w => by
  have BR := bare_ftf 5 z1 z2
  have B0 : Hid (EvBox w (w.alloc (.cells #[.int .i64 (⟨5, 0, z1, z2, shd0, lit0⟩ : Evw).kind, .int .i64 (⟨5, 0, z1, z2, shd0, lit0⟩ : Evw).n, .complex .f32 (⟨5, 0, z1, z2, shd0, lit0⟩ : Evw).z1 (⟨5, 0, z1, z2, shd0, lit0⟩ : Evw).z2, .complex .f32 (⟨5, 0, z1, z2, shd0, lit0⟩ : Evw).s.a1 (⟨5, 0, z1, z2, shd0, lit0⟩ : Evw).s.a2, .complex .f32 (⟨5, 0, z1, z2, shd0, lit0⟩ : Evw).s.b1 (⟨5, 0, z1, z2, shd0, lit0⟩ : Evw).s.b2, .complex .f32 (⟨5, 0, z1, z2, shd0, lit0⟩ : Evw).s.c1 (⟨5, 0, z1, z2, shd0, lit0⟩ : Evw).s.c2, .float .f32 (⟨5, 0, z1, z2, shd0, lit0⟩ : Evw).s.r, .float .f32 (⟨5, 0, z1, z2, shd0, lit0⟩ : Evw).s.g, .float .f32 (⟨5, 0, z1, z2, shd0, lit0⟩ : Evw).s.b, .float .f32 (⟨5, 0, z1, z2, shd0, lit0⟩ : Evw).s.k, .float .f32 (⟨5, 0, z1, z2, shd0, lit0⟩ : Evw).l.r, .float .f32 (⟨5, 0, z1, z2, shd0, lit0⟩ : Evw).l.g, .float .f32 (⟨5, 0, z1, z2, shd0, lit0⟩ : Evw).l.b] 38)) ⟨5, 0, z1, z2, shd0, lit0⟩) := ⟨Blk.new _ _ _, (Below.refl _ _).alloc (Nat.le_refl _) _⟩
  go_enter Tryz.func67, Tryz.ntmps67
  go_wp2_with fail
  refine (P.call _).mono ?_
  rintro r w1 ⟨rfl, hb⟩
  have B1 := Lib.hid (B0.out.mono hb)
  clear hb B0 P
  have l1 := B1.out.x.lt
  (obtain ⟨c0, c1, c2, c3, c4, c5, c6, c7, c8, c9, c10, c11, c12⟩ := blk13 (B1.out.x))
  go_wp2_with fail
  refine (BR.call _).mono ?_
  rintro r w2 ⟨rfl, hb⟩
  have B2 := Lib.hid (B1.out.mono hb)
  clear hb B1 BR l1 c0 c1 c2 c3 c4 c5 c6 c7 c8 c9 c10 c11 c12
  go_wp2
  go_ret
  exact ⟨rfl, B2.out.below⟩⟩
set_option maxHeartbeats 8000000 in
theorem evS_push {n : Int} {z1 z2 : Nat} (L : LieM n 0 7 true) (P : PtS z1 z2) : EvIs 67 ⟨6, n, z1, z2, shd0, lit0⟩ true := ⟨fun w => by
  have BR := bare_ttf 6 n z1 z2
  have B0 : Hid (EvBox w (w.alloc (.cells #[.int .i64 (⟨6, n, z1, z2, shd0, lit0⟩ : Evw).kind, .int .i64 (⟨6, n, z1, z2, shd0, lit0⟩ : Evw).n, .complex .f32 (⟨6, n, z1, z2, shd0, lit0⟩ : Evw).z1 (⟨6, n, z1, z2, shd0, lit0⟩ : Evw).z2, .complex .f32 (⟨6, n, z1, z2, shd0, lit0⟩ : Evw).s.a1 (⟨6, n, z1, z2, shd0, lit0⟩ : Evw).s.a2, .complex .f32 (⟨6, n, z1, z2, shd0, lit0⟩ : Evw).s.b1 (⟨6, n, z1, z2, shd0, lit0⟩ : Evw).s.b2, .complex .f32 (⟨6, n, z1, z2, shd0, lit0⟩ : Evw).s.c1 (⟨6, n, z1, z2, shd0, lit0⟩ : Evw).s.c2, .float .f32 (⟨6, n, z1, z2, shd0, lit0⟩ : Evw).s.r, .float .f32 (⟨6, n, z1, z2, shd0, lit0⟩ : Evw).s.g, .float .f32 (⟨6, n, z1, z2, shd0, lit0⟩ : Evw).s.b, .float .f32 (⟨6, n, z1, z2, shd0, lit0⟩ : Evw).s.k, .float .f32 (⟨6, n, z1, z2, shd0, lit0⟩ : Evw).l.r, .float .f32 (⟨6, n, z1, z2, shd0, lit0⟩ : Evw).l.g, .float .f32 (⟨6, n, z1, z2, shd0, lit0⟩ : Evw).l.b] 38)) ⟨6, n, z1, z2, shd0, lit0⟩) := ⟨Blk.new _ _ _, (Below.refl _ _).alloc (Nat.le_refl _) _⟩
  go_enter Tryz.func67, Tryz.ntmps67
  go_wp2_with fail
  refine (L.call _).mono ?_
  rintro r w1 ⟨rfl, hb⟩
  have B1 := Lib.hid (B0.out.mono hb)
  clear hb B0 L
  have l1 := B1.out.x.lt
  (obtain ⟨c0, c1, c2, c3, c4, c5, c6, c7, c8, c9, c10, c11, c12⟩ := blk13 (B1.out.x))
  go_wp2_with fail
  refine (P.call _).mono ?_
  rintro r w2 ⟨rfl, hb⟩
  have B2 := Lib.hid (B1.out.mono hb)
  clear hb B1 P l1 c0 c1 c2 c3 c4 c5 c6 c7 c8 c9 c10 c11 c12
  have l1 := B2.out.x.lt
  (obtain ⟨c0, c1, c2, c3, c4, c5, c6, c7, c8, c9, c10, c11, c12⟩ := blk13 (B2.out.x))
  go_wp2_with fail
  refine (BR.call _).mono ?_
  rintro r w3 ⟨rfl, hb⟩
  have B3 := Lib.hid (B2.out.mono hb)
  clear hb B2 BR l1 c0 c1 c2 c3 c4 c5 c6 c7 c8 c9 c10 c11 c12
  go_wp2
  go_ret
  exact ⟨rfl, B3.out.below⟩⟩
set_option maxHeartbeats 8000000 in
theorem evS_wait {n : Int} (L : LieM n 1 32 true) : EvIs 67 ⟨7, n, 0, 0, shd0, lit0⟩ true := ⟨fun w => by
  have BR := bare_tff 7 n
  have B0 : Hid (EvBox w (w.alloc (.cells #[.int .i64 (⟨7, n, 0, 0, shd0, lit0⟩ : Evw).kind, .int .i64 (⟨7, n, 0, 0, shd0, lit0⟩ : Evw).n, .complex .f32 (⟨7, n, 0, 0, shd0, lit0⟩ : Evw).z1 (⟨7, n, 0, 0, shd0, lit0⟩ : Evw).z2, .complex .f32 (⟨7, n, 0, 0, shd0, lit0⟩ : Evw).s.a1 (⟨7, n, 0, 0, shd0, lit0⟩ : Evw).s.a2, .complex .f32 (⟨7, n, 0, 0, shd0, lit0⟩ : Evw).s.b1 (⟨7, n, 0, 0, shd0, lit0⟩ : Evw).s.b2, .complex .f32 (⟨7, n, 0, 0, shd0, lit0⟩ : Evw).s.c1 (⟨7, n, 0, 0, shd0, lit0⟩ : Evw).s.c2, .float .f32 (⟨7, n, 0, 0, shd0, lit0⟩ : Evw).s.r, .float .f32 (⟨7, n, 0, 0, shd0, lit0⟩ : Evw).s.g, .float .f32 (⟨7, n, 0, 0, shd0, lit0⟩ : Evw).s.b, .float .f32 (⟨7, n, 0, 0, shd0, lit0⟩ : Evw).s.k, .float .f32 (⟨7, n, 0, 0, shd0, lit0⟩ : Evw).l.r, .float .f32 (⟨7, n, 0, 0, shd0, lit0⟩ : Evw).l.g, .float .f32 (⟨7, n, 0, 0, shd0, lit0⟩ : Evw).l.b] 38)) ⟨7, n, 0, 0, shd0, lit0⟩) := ⟨Blk.new _ _ _, (Below.refl _ _).alloc (Nat.le_refl _) _⟩
  go_enter Tryz.func67, Tryz.ntmps67
  go_wp2_with fail
  refine (L.call _).mono ?_
  rintro r w1 ⟨rfl, hb⟩
  have B1 := Lib.hid (B0.out.mono hb)
  clear hb B0 L
  have l1 := B1.out.x.lt
  (obtain ⟨c0, c1, c2, c3, c4, c5, c6, c7, c8, c9, c10, c11, c12⟩ := blk13 (B1.out.x))
  go_wp2_with fail
  refine (BR.call _).mono ?_
  rintro r w2 ⟨rfl, hb⟩
  have B2 := Lib.hid (B1.out.mono hb)
  clear hb B1 BR l1 c0 c1 c2 c3 c4 c5 c6 c7 c8 c9 c10 c11 c12
  go_wp2
  go_ret
  exact ⟨rfl, B2.out.below⟩⟩
set_option maxHeartbeats 8000000 in
theorem evS_take_no {n : Int} (L : LieM n 0 7 false) : EvIs 67 ⟨2, n, 0, 0, shd0, lit0⟩ false := ⟨fun w => by
  have B0 : Hid (EvBox w (w.alloc (.cells #[.int .i64 (⟨2, n, 0, 0, shd0, lit0⟩ : Evw).kind, .int .i64 (⟨2, n, 0, 0, shd0, lit0⟩ : Evw).n, .complex .f32 (⟨2, n, 0, 0, shd0, lit0⟩ : Evw).z1 (⟨2, n, 0, 0, shd0, lit0⟩ : Evw).z2, .complex .f32 (⟨2, n, 0, 0, shd0, lit0⟩ : Evw).s.a1 (⟨2, n, 0, 0, shd0, lit0⟩ : Evw).s.a2, .complex .f32 (⟨2, n, 0, 0, shd0, lit0⟩ : Evw).s.b1 (⟨2, n, 0, 0, shd0, lit0⟩ : Evw).s.b2, .complex .f32 (⟨2, n, 0, 0, shd0, lit0⟩ : Evw).s.c1 (⟨2, n, 0, 0, shd0, lit0⟩ : Evw).s.c2, .float .f32 (⟨2, n, 0, 0, shd0, lit0⟩ : Evw).s.r, .float .f32 (⟨2, n, 0, 0, shd0, lit0⟩ : Evw).s.g, .float .f32 (⟨2, n, 0, 0, shd0, lit0⟩ : Evw).s.b, .float .f32 (⟨2, n, 0, 0, shd0, lit0⟩ : Evw).s.k, .float .f32 (⟨2, n, 0, 0, shd0, lit0⟩ : Evw).l.r, .float .f32 (⟨2, n, 0, 0, shd0, lit0⟩ : Evw).l.g, .float .f32 (⟨2, n, 0, 0, shd0, lit0⟩ : Evw).l.b] 38)) ⟨2, n, 0, 0, shd0, lit0⟩) := ⟨Blk.new _ _ _, (Below.refl _ _).alloc (Nat.le_refl _) _⟩
  go_enter Tryz.func67, Tryz.ntmps67
  go_wp2_with fail
  refine (L.call _).mono ?_
  rintro r w1 ⟨rfl, hb⟩
  have B1 := Lib.hid (B0.out.mono hb)
  clear hb B0 L
  have l1 := B1.out.x.lt
  (obtain ⟨c0, c1, c2, c3, c4, c5, c6, c7, c8, c9, c10, c11, c12⟩ := blk13 (B1.out.x))
  go_wp2
  go_ret
  exact ⟨rfl, B1.out.below⟩⟩
set_option maxHeartbeats 8000000 in
theorem evS_push_no {n : Int} {z1 z2 : Nat} (L : LieM n 0 7 false) : EvIs 67 ⟨6, n, z1, z2, shd0, lit0⟩ false := ⟨fun w => by
  have B0 : Hid (EvBox w (w.alloc (.cells #[.int .i64 (⟨6, n, z1, z2, shd0, lit0⟩ : Evw).kind, .int .i64 (⟨6, n, z1, z2, shd0, lit0⟩ : Evw).n, .complex .f32 (⟨6, n, z1, z2, shd0, lit0⟩ : Evw).z1 (⟨6, n, z1, z2, shd0, lit0⟩ : Evw).z2, .complex .f32 (⟨6, n, z1, z2, shd0, lit0⟩ : Evw).s.a1 (⟨6, n, z1, z2, shd0, lit0⟩ : Evw).s.a2, .complex .f32 (⟨6, n, z1, z2, shd0, lit0⟩ : Evw).s.b1 (⟨6, n, z1, z2, shd0, lit0⟩ : Evw).s.b2, .complex .f32 (⟨6, n, z1, z2, shd0, lit0⟩ : Evw).s.c1 (⟨6, n, z1, z2, shd0, lit0⟩ : Evw).s.c2, .float .f32 (⟨6, n, z1, z2, shd0, lit0⟩ : Evw).s.r, .float .f32 (⟨6, n, z1, z2, shd0, lit0⟩ : Evw).s.g, .float .f32 (⟨6, n, z1, z2, shd0, lit0⟩ : Evw).s.b, .float .f32 (⟨6, n, z1, z2, shd0, lit0⟩ : Evw).s.k, .float .f32 (⟨6, n, z1, z2, shd0, lit0⟩ : Evw).l.r, .float .f32 (⟨6, n, z1, z2, shd0, lit0⟩ : Evw).l.g, .float .f32 (⟨6, n, z1, z2, shd0, lit0⟩ : Evw).l.b] 38)) ⟨6, n, z1, z2, shd0, lit0⟩) := ⟨Blk.new _ _ _, (Below.refl _ _).alloc (Nat.le_refl _) _⟩
  go_enter Tryz.func67, Tryz.ntmps67
  go_wp2_with fail
  refine (L.call _).mono ?_
  rintro r w1 ⟨rfl, hb⟩
  have B1 := Lib.hid (B0.out.mono hb)
  clear hb B0 L
  have l1 := B1.out.x.lt
  (obtain ⟨c0, c1, c2, c3, c4, c5, c6, c7, c8, c9, c10, c11, c12⟩ := blk13 (B1.out.x))
  go_wp2
  go_ret
  exact ⟨rfl, B1.out.below⟩⟩
theorem evS_of {e : Ev} (h : e.Ok) : EvIs 67 e.w e.yes := by
  cases e with
  | add s z => exact evS_add (shdS h.1) (ptS z.2.1.ok z.2.2.ok)
  | take n =>
    by_cases hn : n < 8
    · rw [show (Ev.take n).yes = true from decide_eq_true hn]; exact evS_take (lieM_yes (by omega) (by omega))
    · rw [show (Ev.take n).yes = false from decide_eq_false hn]; exact evS_take_no (lieM_no (by omega))
  | light c => exact evS_light (colS_ok h)
  | mirrors k => have h' : k ≤ 3 := h; exact evS_mirrors (lieM_yes (by omega) (by omega))
  | gravity z => exact evS_gravity (ptS z.2.1.ok z.2.2.ok)
  | push n z =>
    by_cases hn : n < 8
    · rw [show (Ev.push n z).yes = true from decide_eq_true hn]; exact evS_push (lieM_yes (by omega) (by omega)) (ptS z.2.1.ok z.2.2.ok)
    · rw [show (Ev.push n z).yes = false from decide_eq_false hn]; exact evS_push_no (lieM_no (by omega))
  | wait n => have h' : 1 ≤ n ∧ n ≤ 6 := h; exact evS_wait (lieM_yes (by omega) (by omega))
structure AresS (l : List Shd) (N : Nat) : Prop where
  call : ∀ (w : World) (a : Option Addr) (cap : Nat), LiesZ w a (shCells l) → Calls Tryz.prog 98 #[.slice a N cap] w fun r w' => r = .returned (.bool true) ∧ Below w.heap.size w w'
set_option maxHeartbeats 16000000 in
theorem aresS {l : List Shd} {N : Nat} (hl : l.length = N) (hn : N ≤ 12) (hok : ∀ s ∈ l, s.Drawn) : AresS l N := ⟨fun w a cap hr => by
  have HK : Hid (∀ j, j < N → ShdS (l.getD j default)) := fun j hj => shdS (hok _ (by simp [List.getD, show j < l.length by omega]))
  have HR := Lib.hid hr
  have HL := Lib.hid hl
  have hd : decide ((N : Int) ≤ 12) = true := by simp; omega
  clear hr hok hl
  go_enter Tryz.func98, Tryz.ntmps98
  go_wp2_with fail
  go_loopw [7] (fun i wr => ∃ j : Nat, j ≤ N ∧ i = .int .i64 j ∧ Below w.heap.size w wr) (fun i _ => N - (intOf i).toNat)
  case atStart => exact ⟨0, by omega, rfl, Below.refl _ _⟩
  case round =>
    obtain ⟨j, hj, rfl, hbel⟩ := hrel
    have HB : Hid (Below w.heap.size w wr) := hbel
    have hbs := hbel.size
    by_cases hlt : j < N
    · have K := HK.out j hlt
      rcases HR.out with hnil | ⟨g, rfl, hR⟩
      · exfalso; have := HL.out; rw [sh_nil hnil] at this; simp at this; omega
      have EA := shAt (hR.below hbel) (k := j) (by have := HL.out; omega)
      rw [Nat.zero_add] at EA
      obtain ⟨e, he⟩ : ∃ e, l.getD j default = e := ⟨_, rfl⟩
      rw [he] at EA K
      obtain ⟨c0, c1, c2, c3, c4, c5, c6⟩ := EA
      clear hbel hR he
      go_wp2_with fail
      refine (K.call _).mono ?_
      rintro r w2 ⟨rfl, hb⟩
      have HB2 : Hid (Below w.heap.size w w2) := (HB.out.alloc (by omega) _).trans (hb.mono (by simp; omega))
      clear hb c0 c1 c2 c3 c4 c5 c6
      go_wp2
      go_roundw
      case rel => exact ⟨j + 1, by omega, by go_num, HB2.out⟩
      case measure => simp [intOf]; omega
    · have hjm : j = N := by omega
      subst hjm
      clear hbel
      go_wp2
      go_ret
      exact ⟨rfl, HB.out⟩⟩
end Go.Proofs.YtfdgijmmgllmgaaGreatDoor
namespace Go.Proofs.YtfdgijmmgllmgaaGreatDoor
open Go.ChangeShapes Go.WideShapes Go.ChangeAt Go.RowKit Go.Joins
set_option linter.unusedSimpArgs false
set_option linter.unusedVariables false
set_option maxRecDepth 100000
attribute [local go_sem] store_f
open Ieee Go.Lib
attribute [local go_sem] store_c
structure OneSho (w W : World) (s : Sho) (N M K : Nat) (a b l : Option Addr) (ca cb cl : Nat) : Prop where
  x : Blk W w.heap.size #[.int .i64 s.size, .float .f32 s.step, .float .f32 s.lit.r, .float .f32 s.lit.g, .float .f32 s.lit.b, .slice a N ca, .int .i64 s.kind, .complex .f32 s.g1 s.g2, .float .f32 0, .slice b M cb, .int .i64 s.ticks, .slice l K cl] 34
  inn : ShoIn W s a b l
  below : Below w.heap.size w W
theorem OneSho.mono {w W W1 : World} {s : Sho} {N M K : Nat} {a b l : Option Addr} {ca cb cl : Nat} (h : OneSho w W s N M K a b l ca cb cl) (hb : Below W.heap.size W W1) : OneSho w W1 s N M K a b l ca cb cl :=
  ⟨h.x.below hb, h.inn.below hb, h.below.trans (hb.mono h.below.size)⟩
structure ShAskS (s : Sho) (N M K : Nat) (p : Bool) : Prop where
  size : LieM s.size 1 8 true
  one : ∀ w : World, Calls Tryz.prog 96 #[.float .f32 s.step] w fun e w' => e = .returned (.bool true) ∧ Below w.heap.size w w'
  s0 : (FloatKind.f32.format.order s.step 0 == some .lt) = false
  s1 : (FloatKind.f32.format.order s.step 0 == some .eq) = false
  s2 : (FloatKind.f32.format.order s.step 1132462080 == some .gt) = false
  lit : ColS s.lit true
  shs : AresS s.shs N
  tum : ∀ (w : World) (a : Option Addr) (cap : Nat), BwIn w a s.bds → Calls Tryz.prog 99 #[.agg #[.int .i64 s.kind, .complex .f32 s.g1 s.g2, .float .f32 0, .slice a M cap]] w fun e w' => e = .returned (.bool p) ∧ Below w.heap.size w w'
  len : p = true → M = N
  ticks : LieM s.ticks 0 200 true
  k24 : p = true → K ≤ 24
  kl : s.log.length = K
  log : p = true → ∀ e ∈ s.log, EvIs 67 e true
set_option maxHeartbeats 32000000 in
theorem shIsS {s : Sho} {N M K : Nat} {p : Bool} (A : ShAskS s N M K p) : ShIs 65 s N M K p := ⟨fun w a b l ca cb cl hr => by
  have Y1 := A.size
  have Y2 := Lib.hid A.one
  have s0 := A.s0
  have s1 := A.s1
  have s2 := A.s2
  have Y3 := A.lit
  have Y4 := Lib.hid A.shs
  have Y5 := Lib.hid A.tum
  have Y6 := Lib.hid A.len
  have Y7 := A.ticks
  have Y8 := Lib.hid A.k24
  have Y9 := Lib.hid A.kl
  have YL := Lib.hid A.log
  have T0 : Hid (OneSho w (w.alloc (.cells #[.int .i64 s.size, .float .f32 s.step, .float .f32 s.lit.r, .float .f32 s.lit.g, .float .f32 s.lit.b, .slice a N ca, .int .i64 s.kind, .complex .f32 s.g1 s.g2, .float .f32 0, .slice b M cb, .int .i64 s.ticks, .slice l K cl] 34)) s N M K a b l ca cb cl) := ⟨Blk.new _ _ _, hr.alloc, (Below.refl _ _).alloc (Nat.le_refl _) _⟩
  clear A hr
  go_enter Tryz.func65, Tryz.ntmps65
  go_wp2_with fail
  refine (Y1.call _).mono ?_
  rintro r w1 ⟨rfl, hb⟩
  have T1 := Lib.hid (T0.out.mono hb)
  clear hb T0 Y1
  (obtain ⟨p0, p1, p2, p3, p4, p5, p6, p7, p8, p9, p10, p11⟩ := blk12 (T1.out.x))
  have l1 := T1.out.x.lt
  go_wp2_with fail
  refine (Y2.out _).mono ?_
  rintro r w2 ⟨rfl, hb⟩
  have T2 := Lib.hid (T1.out.mono hb)
  clear hb T1 Y2 p0 p1 p2 p3 p4 p5 p6 p7 p8 p9 p10 p11 l1
  (obtain ⟨p0, p1, p2, p3, p4, p5, p6, p7, p8, p9, p10, p11⟩ := blk12 (T2.out.x))
  have l1 := T2.out.x.lt
  go_wp2_with fail
  refine (Y3.call _).mono ?_
  rintro r w3 ⟨rfl, hb⟩
  have T3 := Lib.hid (T2.out.mono hb)
  clear hb T2 Y3 p0 p1 p2 p3 p4 p5 p6 p7 p8 p9 p10 p11 l1 s0 s1 s2
  (obtain ⟨p0, p1, p2, p3, p4, p5, p6, p7, p8, p9, p10, p11⟩ := blk12 (T3.out.x))
  have l1 := T3.out.x.lt
  go_wp2_with fail
  refine (Y4.out.call _ _ _ T3.out.inn.sh).mono ?_
  rintro r w4 ⟨rfl, hb⟩
  have T4 := Lib.hid (T3.out.mono hb)
  clear hb T3 Y4 p0 p1 p2 p3 p4 p5 p6 p7 p8 p9 p10 p11 l1
  (obtain ⟨p0, p1, p2, p3, p4, p5, p6, p7, p8, p9, p10, p11⟩ := blk12 (T4.out.x))
  have l1 := T4.out.x.lt
  go_wp2_with fail
  refine (Y5.out _ _ _ (bwIn_of_lies T4.out.inn.bd)).mono ?_
  rintro r w5 ⟨rfl, hb⟩
  have T5 := Lib.hid (T4.out.mono hb)
  clear hb T4 Y5 p0 p1 p2 p3 p4 p5 p6 p7 p8 p9 p10 p11 l1
  (obtain ⟨p0, p1, p2, p3, p4, p5, p6, p7, p8, p9, p10, p11⟩ := blk12 (T5.out.x))
  have l1 := T5.out.x.lt
  cases p
  · go_wp2
    go_ret
    exact ⟨rfl, T5.out.below⟩
  · obtain rfl := Y6.out rfl
    have hk24 : K ≤ 24 := Y8.out rfl
    have HK : Hid (∀ j, j < K → EvIs 67 (s.log.getD j default) true) := fun j hj => YL.out rfl _ (by simp [List.getD, show j < s.log.length by have := Y9.out; omega])
    clear YL Y8 Y6
    go_wp2_with fail
    refine (Y7.call _).mono ?_
    rintro r w6 ⟨rfl, hb⟩
    have T6 := Lib.hid (T5.out.mono hb)
    clear hb T5 Y7 p0 p1 p2 p3 p4 p5 p6 p7 p8 p9 p10 p11 l1
    (obtain ⟨p0, p1, p2, p3, p4, p5, p6, p7, p8, p9, p10, p11⟩ := blk12 (T6.out.x))
    have l1 := T6.out.x.lt
    have hd : decide ((K : Int) ≤ 24) = true := by simp; omega
    go_wp2_with fail
    have hX1 : Below w6.heap.size w6 w6 := Below.refl _ _
    go_loopw [62] (fun i wr => ∃ j : Nat, j ≤ K ∧ i = .int .i64 j ∧ Below w6.heap.size w6 wr) (fun i _ => K - (intOf i).toNat)
    case atStart => exact ⟨0, by omega, rfl, Below.refl _ _⟩
    case round =>
      obtain ⟨j, hj, rfl, hbel⟩ := hrel
      have HB : Hid (Below w6.heap.size w6 wr) := hbel
      have hbs := hbel.size
      by_cases hlt : j < K
      · have KE := HK.out j hlt
        rcases T6.out.inn.lg with hnil | ⟨g, rfl, hR⟩
        · exfalso; have := Y9.out; rw [ev_nil hnil] at this; simp at this; omega
        have EA := evAt (hR.below hbel) (k := j) (by have := Y9.out; omega)
        rw [Nat.zero_add] at EA
        obtain ⟨e, he⟩ : ∃ e, s.log.getD j default = e := ⟨_, rfl⟩
        rw [he] at EA KE
        obtain ⟨c0, c1, c2, c3, c4, c5, c6, c7, c8, c9, c10, c11, c12⟩ := EA
        clear hbel hR he
        go_wp2_with fail
        refine (KE.call _).mono ?_
        rintro r w7 ⟨rfl, hb⟩
        have HB2 : Hid (Below w6.heap.size w6 w7) := (HB.out.alloc (by omega) _).trans (hb.mono (by simp; omega))
        clear hb c0 c1 c2 c3 c4 c5 c6 c7 c8 c9 c10 c11 c12
        go_wp2
        go_roundw
        case rel => exact ⟨j + 1, by omega, by go_num, HB2.out⟩
        case measure => simp [intOf]; omega
      · have hjm : j = K := by omega
        subst hjm
        clear p0 p1 p2 p3 p4 p5 p6 p7 p8 p9 p10 p11
        have TX := T6.out.mono hbel
        (obtain ⟨p0, p1, p2, p3, p4, p5, p6, p7, p8, p9, p10, p11⟩ := blk12 (TX.x))
        have l2 := TX.x.lt
        have HBX := Lib.hid TX.below
        clear hbel TX
        go_wp2
        go_ret
        exact ⟨by simp [hd] <;> omega, HBX.out⟩⟩
end Go.Proofs.YtfdgijmmgllmgaaGreatDoor
