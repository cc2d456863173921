/-
  Texts Ue, joined.
-/
import Derived.Test.YtfdgijmmgllmgaaGreatDoorS14
import Derived.Test.YtfdgijmmgllmgaaGreatDoorS16
import Derived.WalkLawsBesides
import Derived.Shelf.Abstract
namespace Go.Proofs.YtfdgijmmgllmgaaGreatDoor
open Go.ChangeShapes Go.WideShapes Go.ChangeAt Go.RowKit Go.Joins
set_option linter.unusedSimpArgs false
set_option linter.unusedVariables false
set_option maxRecDepth 100000
attribute [local go_sem] store_f
open Ieee Go.Lib
attribute [local go_sem] store_c run_equalIn_c run_equalIn_g
structure Shd.Fin (s : Shd) : Prop where
  a1 : Fin32 s.a1
  a2 : Fin32 s.a2
  b1 : Fin32 s.b1
  b2 : Fin32 s.b2
  c1 : Fin32 s.c1
  c2 : Fin32 s.c2
  r : Fin32 s.r
  g : Fin32 s.g
  b : Fin32 s.b
  k : Fin32 s.k
structure Lit.Fin (c : Lit) : Prop where
  r : Fin32 c.r
  g : Fin32 c.g
  b : Fin32 c.b
structure Evw.Fin (e : Evw) : Prop where
  z1 : Fin32 e.z1
  z2 : Fin32 e.z2
  s : e.s.Fin
  l : e.l.Fin
theorem run_eq_colD {r g b : Nat} (hr : Fin32 r) (hg : Fin32 g) (hb : Fin32 b) (d : Nat) (w : World) :
    (Op.equalIn (d + 1 + 1) 26 (.agg #[.float .f32 r, .float .f32 g, .float .f32 b]) (.agg #[.float .f32 r, .float .f32 g, .float .f32 b])).run Tryz.prog w = .ok true w := by
  have u := Tryz.underlying24
  have a24 := Tryz.isAgg24
  have z24 := Tryz.sizeOf24
  have hS : Tryz.prog.underlying 26 = some (.struct (Tryz.prog.fieldsOf 26)) := by kernel_rfl
  have hp : Tryz.prog.stoodInHeld 26 = false := by kernel_rfl
  have e1 := order_self hr
  have e2 := order_self hg
  have e3 := order_self hb
  rw [run_equalIn_agg w (d + 1) 26 _ _ hS hp]
  simp only [Program.fieldsOf, Tryz.underlying26]
  go_simp
theorem run_eq_shdD {s : Shd} (h : s.Fin) (d : Nat) (w : World) :
    (Op.equalIn (d + 1 + 1 + 1) 36 (.agg #[.complex .f32 s.a1 s.a2, .complex .f32 s.b1 s.b2, .complex .f32 s.c1 s.c2, .float .f32 s.r, .float .f32 s.g, .float .f32 s.b, .float .f32 s.k]) (.agg #[.complex .f32 s.a1 s.a2, .complex .f32 s.b1 s.b2, .complex .f32 s.c1 s.c2, .float .f32 s.r, .float .f32 s.g, .float .f32 s.b, .float .f32 s.k])).run Tryz.prog w = .ok true w := by
  have u := Tryz.underlying28
  have a24 := Tryz.isAgg28
  have z24 := Tryz.sizeOf28
  have u1 := Tryz.underlying24
  have a1 := Tryz.isAgg24
  have z1 := Tryz.sizeOf24
  have a2 := Tryz.isAgg26
  have z2 := Tryz.sizeOf26
  have hS : Tryz.prog.underlying 36 = some (.struct (Tryz.prog.fieldsOf 36)) := by kernel_rfl
  have hp : Tryz.prog.stoodInHeld 36 = false := by kernel_rfl
  have op := fun w => run_eq_colD h.r h.g h.b d w
  have e1 := order_self h.a1
  have e2 := order_self h.a2
  have e3 := order_self h.b1
  have e4 := order_self h.b2
  have e5 := order_self h.c1
  have e6 := order_self h.c2
  have e7 := order_self h.k
  rw [run_equalIn_agg w (d + 1 + 1) 36 _ _ hS hp]
  simp only [Program.fieldsOf, Tryz.underlying36]
  go_simp
theorem run_eq_evD {e : Evw} (h : e.Fin) (d : Nat) (w : World) :
    (Op.equalIn (d + 1 + 1 + 1 + 1) 38 (.agg #[.int .i64 e.kind, .int .i64 e.n, .complex .f32 e.z1 e.z2, .complex .f32 e.s.a1 e.s.a2, .complex .f32 e.s.b1 e.s.b2, .complex .f32 e.s.c1 e.s.c2, .float .f32 e.s.r, .float .f32 e.s.g, .float .f32 e.s.b, .float .f32 e.s.k, .float .f32 e.l.r, .float .f32 e.l.g, .float .f32 e.l.b]) (.agg #[.int .i64 e.kind, .int .i64 e.n, .complex .f32 e.z1 e.z2, .complex .f32 e.s.a1 e.s.a2, .complex .f32 e.s.b1 e.s.b2, .complex .f32 e.s.c1 e.s.c2, .float .f32 e.s.r, .float .f32 e.s.g, .float .f32 e.s.b, .float .f32 e.s.k, .float .f32 e.l.r, .float .f32 e.l.g, .float .f32 e.l.b])).run Tryz.prog w = .ok true w := by
  have u := Tryz.underlying28
  have a24 := Tryz.isAgg28
  have z24 := Tryz.sizeOf28
  have u1 := Tryz.underlying3
  have a1 := Tryz.isAgg3
  have z1 := Tryz.sizeOf3
  have a2 := Tryz.isAgg26
  have z2 := Tryz.sizeOf26
  have a3 := Tryz.isAgg36
  have z3 := Tryz.sizeOf36
  have hS : Tryz.prog.underlying 38 = some (.struct (Tryz.prog.fieldsOf 38)) := by kernel_rfl
  have hp : Tryz.prog.stoodInHeld 38 = false := by kernel_rfl
  have op := fun w => run_eq_colD h.l.r h.l.g h.l.b (d + 1) w
  have op2 := fun w => run_eq_shdD h.s d w
  have e1 := order_self h.z1
  have e2 := order_self h.z2
  rw [run_equalIn_agg w (d + 1 + 1 + 1) 38 _ _ hS hp]
  simp only [Program.fieldsOf, Tryz.underlying38]
  go_simp
theorem run_eq_ev {e : Evw} (h : e.Fin) (w : World) : (Op.equalIn 10000 38 (.agg #[.int .i64 e.kind, .int .i64 e.n, .complex .f32 e.z1 e.z2, .complex .f32 e.s.a1 e.s.a2, .complex .f32 e.s.b1 e.s.b2, .complex .f32 e.s.c1 e.s.c2, .float .f32 e.s.r, .float .f32 e.s.g, .float .f32 e.s.b, .float .f32 e.s.k, .float .f32 e.l.r, .float .f32 e.l.g, .float .f32 e.l.b]) (.agg #[.int .i64 e.kind, .int .i64 e.n, .complex .f32 e.z1 e.z2, .complex .f32 e.s.a1 e.s.a2, .complex .f32 e.s.b1 e.s.b2, .complex .f32 e.s.c1 e.s.c2, .float .f32 e.s.r, .float .f32 e.s.g, .float .f32 e.s.b, .float .f32 e.s.k, .float .f32 e.l.r, .float .f32 e.l.g, .float .f32 e.l.b])).run Tryz.prog w = .ok true w := run_eq_evD h 9996 w
theorem run_eq_shd {s : Shd} (h : s.Fin) (w : World) : (Op.equalIn 10000 36 (.agg #[.complex .f32 s.a1 s.a2, .complex .f32 s.b1 s.b2, .complex .f32 s.c1 s.c2, .float .f32 s.r, .float .f32 s.g, .float .f32 s.b, .float .f32 s.k]) (.agg #[.complex .f32 s.a1 s.a2, .complex .f32 s.b1 s.b2, .complex .f32 s.c1 s.c2, .float .f32 s.r, .float .f32 s.g, .float .f32 s.b, .float .f32 s.k])).run Tryz.prog w = .ok true w := run_eq_shdD h 9997 w
structure EvM (e : Evw) (v : Value) (p : Bool) : Prop where
  call : ∀ w : World, Calls Tryz.prog 110 #[.agg #[.int .i64 e.kind, .int .i64 e.n, .complex .f32 e.z1 e.z2, .complex .f32 e.s.a1 e.s.a2, .complex .f32 e.s.b1 e.s.b2, .complex .f32 e.s.c1 e.s.c2, .float .f32 e.s.r, .float .f32 e.s.g, .float .f32 e.s.b, .float .f32 e.s.k, .float .f32 e.l.r, .float .f32 e.l.g, .float .f32 e.l.b]] w fun r w' => r = .returned (.tuple #[v, .bool p]) ∧ Below w.heap.size w w'
structure Meth (T : TypeId) (v : Value) (name : String) (F : FuncId) (r : Value) : Prop where
  meth : ∀ (k : Nat) (w : World), (method (k + 1) T v name).run Tryz.prog w = .ok (F, r) w
  ent : ∀ (args : Array Value) (w : World), (callFunc F args).run Tryz.prog w = .ok (.enter F args) w
structure IsV (F : FuncId) (r : Value) (p : Bool) : Prop where
  call : ∀ w : World, Calls Tryz.prog F #[r] w fun e w' => e = .returned (.bool p) ∧ Below w.heap.size w w'
set_option maxHeartbeats 8000000 in
theorem valid_of {e : Evw} {T : TypeId} {v r : Value} {F : FuncId} (h : e.Fin) (K : EvB e T v) (M : Meth T v "loop.example/g03020/impl.isValid" F r) (V : IsV F r true) : EvM e (.iface T v) true := ⟨fun w => by
  have op := fun w => run_eq_ev h w
  have hm := M.meth
  have he := M.ent
  have HV := Lib.hid V
  clear V M h
  go_enter Tryz.func110, Tryz.ntmps110
  go_wp2_with fail
  generalize hX : w.alloc (.cells #[.int .i64 e.kind, .int .i64 e.n, .complex .f32 e.z1 e.z2, .complex .f32 e.s.a1 e.s.a2, .complex .f32 e.s.b1 e.s.b2, .complex .f32 e.s.c1 e.s.c2, .float .f32 e.s.r, .float .f32 e.s.g, .float .f32 e.s.b, .float .f32 e.s.k, .float .f32 e.l.r, .float .f32 e.l.g, .float .f32 e.l.b] 38) = X
  have E0 : Hid (Blk X w.heap.size #[.int .i64 e.kind, .int .i64 e.n, .complex .f32 e.z1 e.z2, .complex .f32 e.s.a1 e.s.a2, .complex .f32 e.s.b1 e.s.b2, .complex .f32 e.s.c1 e.s.c2, .float .f32 e.s.r, .float .f32 e.s.g, .float .f32 e.s.b, .float .f32 e.s.k, .float .f32 e.l.r, .float .f32 e.l.g, .float .f32 e.l.b] 38) := by rw [← hX]; exact Blk.new _ _ _
  have G0 : Hid (Below w.heap.size w X) := by rw [← hX]; show Below w.heap.size w _; (repeat' (first | (with_reducible exact Below.refl _ _) | (with_reducible assumption) | (with_reducible refine Below.alloc ?_ ?_ _) | (with_reducible refine Below.drew ?_) | (with_reducible refine Below.setCell ?_ ?_ _) | (with_reducible refine Below.trans ?_ (Below.mono (by assumption) ?_)) | (with_reducible exact Nat.le_refl _) | omega | (simp only [World.size_alloc, World.size_setCell, World.size_drew]; omega) | (simp; omega) | (simp; done)))
  clear hX
  refine (K.call _).mono ?_
  rintro r1 w1 ⟨rfl, hb⟩
  have E1 : Hid (Blk w1 w.heap.size #[.int .i64 e.kind, .int .i64 e.n, .complex .f32 e.z1 e.z2, .complex .f32 e.s.a1 e.s.a2, .complex .f32 e.s.b1 e.s.b2, .complex .f32 e.s.c1 e.s.c2, .float .f32 e.s.r, .float .f32 e.s.g, .float .f32 e.s.b, .float .f32 e.s.k, .float .f32 e.l.r, .float .f32 e.l.g, .float .f32 e.l.b] 38) := E0.out.below hb
  have G1 : Hid (Below w.heap.size w w1) := G0.out.trans (hb.mono G0.out.size)
  clear hb E0 G0 K
  have c0 := Blk.cellAt (i := 0) E1.out rfl
  have c1 := Blk.cellAt (i := 1) E1.out rfl
  have c2 := Blk.cellAt (i := 2) E1.out rfl
  have c3 := Blk.cellAt (i := 3) E1.out rfl
  have c4 := Blk.cellAt (i := 4) E1.out rfl
  have c5 := Blk.cellAt (i := 5) E1.out rfl
  have c6 := Blk.cellAt (i := 6) E1.out rfl
  have c7 := Blk.cellAt (i := 7) E1.out rfl
  have c8 := Blk.cellAt (i := 8) E1.out rfl
  have c9 := Blk.cellAt (i := 9) E1.out rfl
  have c10 := Blk.cellAt (i := 10) E1.out rfl
  have c11 := Blk.cellAt (i := 11) E1.out rfl
  have c12 := Blk.cellAt (i := 12) E1.out rfl
  simp only [List.getElem_toArray, List.getElem_cons_zero, List.getElem_cons_succ] at c0 c1 c2 c3 c4 c5 c6 c7 c8 c9 c10 c11 c12
  have l0 := E1.out.lt
  go_wp2_with fail
  refine (HV.out.call _).mono ?_
  rintro r2 w2 ⟨rfl, hb⟩
  have G2 : Hid (Below w.heap.size w w2) := (G1.out.alloc (by omega) _).trans (hb.mono (by simp; omega))
  have l2 := G1.out.size
  go_wp2
  go_ret2
  exact ⟨rfl, G2.out⟩⟩
set_option maxHeartbeats 8000000 in
theorem invalid_of {e : Evw} {T : TypeId} {v r : Value} {F : FuncId} (h : e.Fin) (K : EvB e T v) (M : Meth T v "loop.example/g03020/impl.isValid" F r) (V : IsV F r false) : EvM e .nilIface false := ⟨fun w => by
  have op := fun w => run_eq_ev h w
  have hm := M.meth
  have he := M.ent
  have HV := Lib.hid V
  clear V M h
  go_enter Tryz.func110, Tryz.ntmps110
  go_wp2_with fail
  generalize hX : w.alloc (.cells #[.int .i64 e.kind, .int .i64 e.n, .complex .f32 e.z1 e.z2, .complex .f32 e.s.a1 e.s.a2, .complex .f32 e.s.b1 e.s.b2, .complex .f32 e.s.c1 e.s.c2, .float .f32 e.s.r, .float .f32 e.s.g, .float .f32 e.s.b, .float .f32 e.s.k, .float .f32 e.l.r, .float .f32 e.l.g, .float .f32 e.l.b] 38) = X
  have E0 : Hid (Blk X w.heap.size #[.int .i64 e.kind, .int .i64 e.n, .complex .f32 e.z1 e.z2, .complex .f32 e.s.a1 e.s.a2, .complex .f32 e.s.b1 e.s.b2, .complex .f32 e.s.c1 e.s.c2, .float .f32 e.s.r, .float .f32 e.s.g, .float .f32 e.s.b, .float .f32 e.s.k, .float .f32 e.l.r, .float .f32 e.l.g, .float .f32 e.l.b] 38) := by rw [← hX]; exact Blk.new _ _ _
  have G0 : Hid (Below w.heap.size w X) := by rw [← hX]; show Below w.heap.size w _; (repeat' (first | (with_reducible exact Below.refl _ _) | (with_reducible assumption) | (with_reducible refine Below.alloc ?_ ?_ _) | (with_reducible refine Below.drew ?_) | (with_reducible refine Below.setCell ?_ ?_ _) | (with_reducible refine Below.trans ?_ (Below.mono (by assumption) ?_)) | (with_reducible exact Nat.le_refl _) | omega | (simp only [World.size_alloc, World.size_setCell, World.size_drew]; omega) | (simp; omega) | (simp; done)))
  clear hX
  refine (K.call _).mono ?_
  rintro r1 w1 ⟨rfl, hb⟩
  have E1 : Hid (Blk w1 w.heap.size #[.int .i64 e.kind, .int .i64 e.n, .complex .f32 e.z1 e.z2, .complex .f32 e.s.a1 e.s.a2, .complex .f32 e.s.b1 e.s.b2, .complex .f32 e.s.c1 e.s.c2, .float .f32 e.s.r, .float .f32 e.s.g, .float .f32 e.s.b, .float .f32 e.s.k, .float .f32 e.l.r, .float .f32 e.l.g, .float .f32 e.l.b] 38) := E0.out.below hb
  have G1 : Hid (Below w.heap.size w w1) := G0.out.trans (hb.mono G0.out.size)
  clear hb E0 G0 K
  have c0 := Blk.cellAt (i := 0) E1.out rfl
  have c1 := Blk.cellAt (i := 1) E1.out rfl
  have c2 := Blk.cellAt (i := 2) E1.out rfl
  have c3 := Blk.cellAt (i := 3) E1.out rfl
  have c4 := Blk.cellAt (i := 4) E1.out rfl
  have c5 := Blk.cellAt (i := 5) E1.out rfl
  have c6 := Blk.cellAt (i := 6) E1.out rfl
  have c7 := Blk.cellAt (i := 7) E1.out rfl
  have c8 := Blk.cellAt (i := 8) E1.out rfl
  have c9 := Blk.cellAt (i := 9) E1.out rfl
  have c10 := Blk.cellAt (i := 10) E1.out rfl
  have c11 := Blk.cellAt (i := 11) E1.out rfl
  have c12 := Blk.cellAt (i := 12) E1.out rfl
  simp only [List.getElem_toArray, List.getElem_cons_zero, List.getElem_cons_succ] at c0 c1 c2 c3 c4 c5 c6 c7 c8 c9 c10 c11 c12
  have l0 := E1.out.lt
  go_wp2_with fail
  refine (HV.out.call _).mono ?_
  rintro r2 w2 ⟨rfl, hb⟩
  have G2 : Hid (Below w.heap.size w w2) := (G1.out.alloc (by omega) _).trans (hb.mono (by simp; omega))
  have l2 := G1.out.size
  go_wp2
  go_ret2
  exact ⟨rfl, G2.out⟩⟩
theorem vMeth_add {s : Shd} {z1 z2 : Nat} : Meth 206 (.agg #[.complex .f32 s.a1 s.a2, .complex .f32 s.b1 s.b2, .complex .f32 s.c1 s.c2, .float .f32 s.r, .float .f32 s.g, .float .f32 s.b, .float .f32 s.k, .complex .f32 z1 z2]) "loop.example/g03020/impl.isValid" 176 (.agg #[.complex .f32 s.a1 s.a2, .complex .f32 s.b1 s.b2, .complex .f32 s.c1 s.c2, .float .f32 s.r, .float .f32 s.g, .float .f32 s.b, .float .f32 s.k, .complex .f32 z1 z2]) :=
  ⟨fun k w => by kernel_rfl, enters_of Tryz.func176 (by kernel_rfl) rfl⟩
theorem vMeth_take {n : Int} : Meth 210 (.agg #[.int .i64 n]) "loop.example/g03020/impl.isValid" 178 (.agg #[.int .i64 n]) :=
  ⟨fun k w => by kernel_rfl, enters_of Tryz.func178 (by kernel_rfl) rfl⟩
theorem vMeth_light {c : Lit} : Meth 212 (.agg #[.float .f32 c.r, .float .f32 c.g, .float .f32 c.b]) "loop.example/g03020/impl.isValid" 181 (.agg #[.float .f32 c.r, .float .f32 c.g, .float .f32 c.b]) :=
  ⟨fun k w => by kernel_rfl, enters_of Tryz.func181 (by kernel_rfl) rfl⟩
theorem vMeth_mirrors {n : Int} : Meth 214 (.agg #[.int .i64 n]) "loop.example/g03020/impl.isValid" 183 (.agg #[.int .i64 n]) :=
  ⟨fun k w => by kernel_rfl, enters_of Tryz.func183 (by kernel_rfl) rfl⟩
theorem vMeth_gravity {z1 z2 : Nat} : Meth 216 (.agg #[.complex .f32 z1 z2]) "loop.example/g03020/impl.isValid" 185 (.agg #[.complex .f32 z1 z2]) :=
  ⟨fun k w => by kernel_rfl, enters_of Tryz.func185 (by kernel_rfl) rfl⟩
theorem vMeth_push {n : Int} {z1 z2 : Nat} : Meth 218 (.agg #[.int .i64 n, .complex .f32 z1 z2]) "loop.example/g03020/impl.isValid" 187 (.agg #[.int .i64 n, .complex .f32 z1 z2]) :=
  ⟨fun k w => by kernel_rfl, enters_of Tryz.func187 (by kernel_rfl) rfl⟩
theorem vMeth_wait {n : Int} : Meth 220 (.agg #[.int .i64 n]) "loop.example/g03020/impl.isValid" 189 (.agg #[.int .i64 n]) :=
  ⟨fun k w => by kernel_rfl, enters_of Tryz.func189 (by kernel_rfl) rfl⟩
set_option maxHeartbeats 4000000 in
theorem isV_add {s : Shd} {z1 z2 : Nat} (S : ShdIs s true) (Q : PtIs z1 z2 true) : IsV 176 (.agg #[.complex .f32 s.a1 s.a2, .complex .f32 s.b1 s.b2, .complex .f32 s.c1 s.c2, .float .f32 s.r, .float .f32 s.g, .float .f32 s.b, .float .f32 s.k, .complex .f32 z1 z2]) true := ⟨fun w => by
  go_enter Tryz.func176, Tryz.ntmps176
  go_wp2_with fail
  generalize hX : w.alloc (.cells #[.complex .f32 s.a1 s.a2, .complex .f32 s.b1 s.b2, .complex .f32 s.c1 s.c2, .float .f32 s.r, .float .f32 s.g, .float .f32 s.b, .float .f32 s.k, .complex .f32 z1 z2] 206) = X
  have E0 : Hid (Blk X w.heap.size #[.complex .f32 s.a1 s.a2, .complex .f32 s.b1 s.b2, .complex .f32 s.c1 s.c2, .float .f32 s.r, .float .f32 s.g, .float .f32 s.b, .float .f32 s.k, .complex .f32 z1 z2] 206) := by rw [← hX]; exact Blk.new _ _ _
  have G0 : Hid (Below w.heap.size w X) := by rw [← hX]; show Below w.heap.size w _; (repeat' (first | (with_reducible exact Below.refl _ _) | (with_reducible assumption) | (with_reducible refine Below.alloc ?_ ?_ _) | (with_reducible refine Below.drew ?_) | (with_reducible refine Below.setCell ?_ ?_ _) | (with_reducible refine Below.trans ?_ (Below.mono (by assumption) ?_)) | (with_reducible exact Nat.le_refl _) | omega | (simp only [World.size_alloc, World.size_setCell, World.size_drew]; omega) | (simp; omega) | (simp; done)))
  clear hX
  refine (S.call _).mono ?_
  rintro e w1 ⟨rfl, hb⟩
  have c7 := Blk.cellAt (i := 7) (E0.out.below hb) rfl
  simp only [List.getElem_toArray, List.getElem_cons_zero, List.getElem_cons_succ] at c7
  have G1 : Hid (Below w.heap.size w w1) := G0.out.trans (hb.mono G0.out.size)
  clear hb E0 G0
  go_wp2_with (go_at_call 75; (with_reducible refine (Q.call _).mono ?_); rintro e w2 ⟨rfl, rfl⟩)
  go_ret
  exact ⟨rfl, G1.out⟩⟩
set_option maxHeartbeats 4000000 in
theorem isV_bead (n : Nat) : IsV 178 (.agg #[.int .i64 n]) (decide (n < 8)) := ⟨fun w => by
  by_cases h : n < 8
  · have hd : decide ((n : Int) < 8) = true := by simp; omega
    go_enter Tryz.func178, Tryz.ntmps178
    go_wp2
    go_ret
    exact ⟨by simp [h] <;> omega, by (repeat' (first | (with_reducible exact Below.refl _ _) | (with_reducible assumption) | (with_reducible refine Below.alloc ?_ ?_ _) | (with_reducible refine Below.drew ?_) | (with_reducible refine Below.setCell ?_ ?_ _) | (with_reducible refine Below.trans ?_ (Below.mono (by assumption) ?_)) | (with_reducible exact Nat.le_refl _) | omega | (simp only [World.size_alloc, World.size_setCell, World.size_drew]; omega) | (simp; omega) | (simp; done)))⟩
  · have hd : decide ((n : Int) < 8) = false := by simp; omega
    go_enter Tryz.func178, Tryz.ntmps178
    go_wp2
    go_ret
    exact ⟨by simp [h] <;> omega, by (repeat' (first | (with_reducible exact Below.refl _ _) | (with_reducible assumption) | (with_reducible refine Below.alloc ?_ ?_ _) | (with_reducible refine Below.drew ?_) | (with_reducible refine Below.setCell ?_ ?_ _) | (with_reducible refine Below.trans ?_ (Below.mono (by assumption) ?_)) | (with_reducible exact Nat.le_refl _) | omega | (simp only [World.size_alloc, World.size_setCell, World.size_drew]; omega) | (simp; omega) | (simp; done)))⟩⟩
set_option maxHeartbeats 4000000 in
theorem isV_light {c : Lit} (Q : ColIs c.r c.g c.b true) : IsV 181 (.agg #[.float .f32 c.r, .float .f32 c.g, .float .f32 c.b]) true := ⟨fun w => by
  go_enter Tryz.func181, Tryz.ntmps181
  go_wp2_with fail
  refine (Q.call _).mono ?_
  rintro e w1 ⟨rfl, hb⟩
  have G1 : Hid (Below w.heap.size w w1) := ((Below.refl _ _).alloc (Nat.le_refl _) _).trans (hb.mono (by simp))
  clear hb
  go_wp2
  go_ret
  exact ⟨rfl, G1.out⟩⟩
set_option maxHeartbeats 4000000 in
theorem isV_mirrors {n : Nat} (hn : n ≤ 3) : IsV 183 (.agg #[.int .i64 n]) true := ⟨fun w => by
  have YK := fun w => isKind_i n w
  rw [show kindB (n : Int) = true by unfold kindB; simp; omega] at YK
  go_enter Tryz.func183, Tryz.ntmps183
  go_wp2_with (go_at_call 45; (with_reducible refine (YK _).mono ?_); rintro e w3 ⟨rfl, rfl⟩)
  go_ret
  exact ⟨rfl, by (repeat' (first | (with_reducible exact Below.refl _ _) | (with_reducible assumption) | (with_reducible refine Below.alloc ?_ ?_ _) | (with_reducible refine Below.drew ?_) | (with_reducible refine Below.setCell ?_ ?_ _) | (with_reducible refine Below.trans ?_ (Below.mono (by assumption) ?_)) | (with_reducible exact Nat.le_refl _) | omega | (simp only [World.size_alloc, World.size_setCell, World.size_drew]; omega) | (simp; omega) | (simp; done)))⟩⟩
set_option maxHeartbeats 4000000 in
theorem isV_gravity {z1 z2 : Nat} (Q : PtIs z1 z2 true) : IsV 185 (.agg #[.complex .f32 z1 z2]) true := ⟨fun w => by
  go_enter Tryz.func185, Tryz.ntmps185
  go_wp2_with (go_at_call 75; (with_reducible refine (Q.call _).mono ?_); rintro e w3 ⟨rfl, rfl⟩)
  go_ret
  exact ⟨rfl, by (repeat' (first | (with_reducible exact Below.refl _ _) | (with_reducible assumption) | (with_reducible refine Below.alloc ?_ ?_ _) | (with_reducible refine Below.drew ?_) | (with_reducible refine Below.setCell ?_ ?_ _) | (with_reducible refine Below.trans ?_ (Below.mono (by assumption) ?_)) | (with_reducible exact Nat.le_refl _) | omega | (simp only [World.size_alloc, World.size_setCell, World.size_drew]; omega) | (simp; omega) | (simp; done)))⟩⟩
set_option maxHeartbeats 4000000 in
theorem isV_push {n z1 z2 : Nat} (Q : PtIs z1 z2 true) : IsV 187 (.agg #[.int .i64 n, .complex .f32 z1 z2]) (decide (n < 8)) := ⟨fun w => by
  have B := isV_bead n
  generalize decide (n < 8) = p at B ⊢
  go_enter Tryz.func187, Tryz.ntmps187
  go_wp2_with fail
  generalize hX : w.alloc (.cells #[.int .i64 n, .complex .f32 z1 z2] 218) = X
  have E0 : Hid (Blk X w.heap.size #[.int .i64 n, .complex .f32 z1 z2] 218) := by rw [← hX]; exact Blk.new _ _ _
  have G0 : Hid (Below w.heap.size w X) := by rw [← hX]; show Below w.heap.size w _; (repeat' (first | (with_reducible exact Below.refl _ _) | (with_reducible assumption) | (with_reducible refine Below.alloc ?_ ?_ _) | (with_reducible refine Below.drew ?_) | (with_reducible refine Below.setCell ?_ ?_ _) | (with_reducible refine Below.trans ?_ (Below.mono (by assumption) ?_)) | (with_reducible exact Nat.le_refl _) | omega | (simp only [World.size_alloc, World.size_setCell, World.size_drew]; omega) | (simp; omega) | (simp; done)))
  clear hX
  refine (B.call _).mono ?_
  rintro e w1 ⟨rfl, hb⟩
  have c1 := Blk.cellAt (i := 1) (E0.out.below hb) rfl
  simp only [List.getElem_toArray, List.getElem_cons_zero, List.getElem_cons_succ] at c1
  have G1 : Hid (Below w.heap.size w w1) := G0.out.trans (hb.mono G0.out.size)
  clear hb E0 G0
  cases p
  · go_wp2
    go_ret
    exact ⟨rfl, G1.out⟩
  · go_wp2_with (go_at_call 75; (with_reducible refine (Q.call _).mono ?_); rintro e w2 ⟨rfl, rfl⟩)
    go_ret
    exact ⟨rfl, G1.out⟩⟩
set_option maxHeartbeats 4000000 in
theorem isV_wait {n : Nat} (h1 : 1 ≤ n) (h2 : n ≤ 32) : IsV 189 (.agg #[.int .i64 n]) true := ⟨fun w => by
  have hd : decide ((n : Int) ≤ 32) = true := by simp; omega
  have hd2 : decide ((1 : Int) ≤ (n : Int)) = true := by simp; omega
  go_enter Tryz.func189, Tryz.ntmps189
  go_wp2
  all_goals (go_ret; exact ⟨by first | rfl | (simp; omega), by (repeat' (first | (with_reducible exact Below.refl _ _) | (with_reducible assumption) | (with_reducible refine Below.alloc ?_ ?_ _) | (with_reducible refine Below.drew ?_) | (with_reducible refine Below.setCell ?_ ?_ _) | (with_reducible refine Below.trans ?_ (Below.mono (by assumption) ?_)) | (with_reducible exact Nat.le_refl _) | omega | (simp only [World.size_alloc, World.size_setCell, World.size_drew]; omega) | (simp; omega) | (simp; done)))⟩)⟩
def Ev.iv : Ev → Value
  | .add s z => .iface 206 (.agg #[.complex .f32 s.a1 s.a2, .complex .f32 s.b1 s.b2, .complex .f32 s.c1 s.c2, .float .f32 s.r, .float .f32 s.g, .float .f32 s.b, .float .f32 s.k, .complex .f32 z.1.1 z.1.2])
  | .take n => .iface 210 (.agg #[.int .i64 n])
  | .light c => .iface 212 (.agg #[.float .f32 c.r, .float .f32 c.g, .float .f32 c.b])
  | .mirrors n => .iface 214 (.agg #[.int .i64 n])
  | .gravity z => .iface 216 (.agg #[.complex .f32 z.1.1 z.1.2])
  | .push n z => .iface 218 (.agg #[.int .i64 n, .complex .f32 z.1.1 z.1.2])
  | .wait n => .iface 220 (.agg #[.int .i64 n])
def Ev.yes : Ev → Bool
  | .take n => decide (n < 8)
  | .push n _ => decide (n < 8)
  | _ => true
theorem shd0_fin : shd0.Fin := ⟨fin_of_lt (by decide), fin_of_lt (by decide), fin_of_lt (by decide), fin_of_lt (by decide), fin_of_lt (by decide), fin_of_lt (by decide), fin_of_lt (by decide), fin_of_lt (by decide), fin_of_lt (by decide), fin_of_lt (by decide)⟩
theorem lit0_fin : lit0.Fin := ⟨fin_of_lt (by decide), fin_of_lt (by decide), fin_of_lt (by decide)⟩
theorem Lit.Ok.fin {c : Lit} (h : c.Ok) : c.Fin := ⟨fin_of_lt (by have := h.r; omega), fin_of_lt (by have := h.g; omega), fin_of_lt (by have := h.b; omega)⟩
theorem Shd.Drawn.fin {s : Shd} (h : s.Drawn) : s.Fin := ⟨ok_fin h.a1, ok_fin h.a2, ok_fin h.b1, ok_fin h.b2, ok_fin h.c1, ok_fin h.c2, fin_of_lt (by have := h.r; omega), fin_of_lt (by have := h.g; omega), fin_of_lt (by have := h.b; omega), fin_of_lt (by have := h.k; omega)⟩
theorem fin0 : Fin32 0 := fin_of_lt (by decide)
theorem Ev.Ok.fin {e : Ev} (h : e.Ok) : e.w.Fin := by
  cases e with
  | add s z => exact ⟨z.2.1.cl.fin, z.2.2.cl.fin, h.1.fin, lit0_fin⟩
  | take n => exact ⟨fin0, fin0, shd0_fin, lit0_fin⟩
  | light c => exact ⟨fin0, fin0, shd0_fin, Lit.Ok.fin h⟩
  | mirrors k => exact ⟨fin0, fin0, shd0_fin, lit0_fin⟩
  | gravity z => exact ⟨z.2.1.cl.fin, z.2.2.cl.fin, shd0_fin, lit0_fin⟩
  | push n z => exact ⟨z.2.1.cl.fin, z.2.2.cl.fin, shd0_fin, lit0_fin⟩
  | wait n => exact ⟨fin0, fin0, shd0_fin, lit0_fin⟩
theorem shdYes {s : Shd} (h : s.Ok) : ShdIs s true := by
  have k := shdIs s
  rwa [h.yes] at k
theorem evM_of {e : Ev} (h : e.Ok) : ∃ v, EvM e.w v e.yes ∧ (e.yes = true → v = e.iv) := by
  have hf := h.fin
  cases e with
  | add s z => exact ⟨_, valid_of hf byKind_add vMeth_add (isV_add (shdYes h.1.ok) (pt_is z)), fun _ => rfl⟩
  | take n =>
    have B := isV_bead n
    by_cases hn : n < 8
    · rw [decide_eq_true hn] at B
      refine ⟨_, ?_, fun _ => rfl⟩
      rw [show (Ev.take n).yes = true from decide_eq_true hn]
      exact valid_of hf byKind_take vMeth_take B
    · rw [decide_eq_false hn] at B
      refine ⟨.nilIface, ?_, fun hh => ?_⟩
      · rw [show (Ev.take n).yes = false from decide_eq_false hn]
        exact invalid_of hf byKind_take vMeth_take B
      · exact absurd (of_decide_eq_true hh) hn
  | light c => exact ⟨_, valid_of hf byKind_light vMeth_light (isV_light (colYes (.inl h.r) (.inl h.g) (.inl h.b))), fun _ => rfl⟩
  | mirrors k => exact ⟨_, valid_of hf byKind_mirrors vMeth_mirrors (isV_mirrors h), fun _ => rfl⟩
  | gravity z => exact ⟨_, valid_of hf byKind_gravity vMeth_gravity (isV_gravity (pt_is z)), fun _ => rfl⟩
  | push n z =>
    have B := isV_push (n := n) (pt_is z)
    by_cases hn : n < 8
    · rw [decide_eq_true hn] at B
      refine ⟨_, ?_, fun _ => rfl⟩
      rw [show (Ev.push n z).yes = true from decide_eq_true hn]
      exact valid_of hf byKind_push vMeth_push B
    · rw [decide_eq_false hn] at B
      refine ⟨.nilIface, ?_, fun hh => ?_⟩
      · rw [show (Ev.push n z).yes = false from decide_eq_false hn]
        exact invalid_of hf byKind_push vMeth_push B
      · exact absurd (of_decide_eq_true hh) hn
  | wait n => exact ⟨_, valid_of hf byKind_wait vMeth_wait (isV_wait h.1 (by have := h.2; omega)), fun _ => rfl⟩
end Go.Proofs.YtfdgijmmgllmgaaGreatDoor
