/-
  Texts Uf Ug Uh Uk, joined.
-/
import Derived.Test.YtfdgijmmgllmgaaGreatR19
import Derived.Test.YtfdgijmmgllmgaaGreatR20
import Derived.Test.YtfdgijmmgllmgaaGreatR22
import Derived.Stop.Asserts
import Derived.Recover
import Derived.Defers
import Derived.Deep.RegionHeld3
import Derived.Deep.DeepCutAuto
namespace Go.Proofs.YtfdgijmmgllmgaaGreat
open Go.ChangeShapes Go.WideShapes Go.ChangeAt Go.RowKit Go.Joins
set_option linter.unusedSimpArgs false
set_option linter.unusedVariables false
set_option maxRecDepth 100000
attribute [local go_sem] store_f
open Ieee Go.Lib
attribute [local go_sem] store_c
structure EvIs (F : FuncId) (e : Evw) (p : Bool) : Prop where
  call : ∀ w : World, Calls Tryz.prog F #[.agg #[.int .i64 e.kind, .int .i64 e.n, .complex .f32 e.z1 e.z2, .complex .f32 e.s.a1 e.s.a2, .complex .f32 e.s.b1 e.s.b2, .complex .f32 e.s.c1 e.s.c2, .float .f32 e.s.r, .float .f32 e.s.g, .float .f32 e.s.b, .float .f32 e.s.k, .float .f32 e.l.r, .float .f32 e.l.g, .float .f32 e.l.b]] w fun r w' => r = .returned (.bool p) ∧ Below w.heap.size w w'
set_option maxHeartbeats 4000000 in
theorem evIs {e : Evw} {v : Value} {p : Bool} (K : EvM e v p) : EvIs 73 e p := ⟨fun w => by
  go_enter Tryz.func73, Tryz.ntmps73
  go_wp2_with fail
  refine (K.call _).mono ?_
  rintro r w1 ⟨rfl, hb⟩
  have G1 : Hid (Below w.heap.size w w1) := ((Below.refl _ _).alloc (Nat.le_refl _) _).trans (hb.mono (by simp))
  clear hb
  go_wp2
  go_ret
  exact ⟨rfl, G1.out⟩⟩
structure LogIs (F : FuncId) (l : List Evw) (N : Nat) (p : Bool) : Prop where
  call : ∀ (w : World) (a : Option Addr) (cap : Nat), LiesZ w a (evCells l) → Calls Tryz.prog F #[.slice a N cap] w fun r w' => r = .returned (.bool p) ∧ Below w.heap.size w w'
theorem ev_nil {l : List Evw} (h : evCells l = []) : l = [] := flat_nil (f := Evw.cells) (m := 13) (by omega) (fun _ => rfl) h
set_option maxHeartbeats 16000000 in
theorem logIs {l : List Evw} {N : Nat} (hl : l.length = N) (hn : N ≤ 24) (hok : ∀ e ∈ l, EvIs 73 e true) : LogIs 35 l N true := ⟨fun w a cap hr => by
  have HK : Hid (∀ j, j < N → EvIs 73 (l.getD j default) true) := fun j hj => hok _ (by simp [List.getD, show j < l.length by omega])
  have HR := Lib.hid hr
  have HL := Lib.hid hl
  have hd : decide ((24 : Int) < (N : Int)) = false := by simp; omega
  have hd2 : decide (24 < N) = false := by simp; omega
  clear hr hok hl
  go_enter Tryz.func35, Tryz.ntmps35
  go_wp2_with fail
  go_loopw [10] (fun i wr => ∃ j : Nat, j ≤ N ∧ i = .int .i64 j ∧ Below w.heap.size w wr) (fun i _ => N - (intOf i).toNat)
  case atStart => exact ⟨0, by omega, rfl, Below.refl _ _⟩
  case round =>
    obtain ⟨j, hj, rfl, hbel⟩ := hrel
    have HB : Hid (Below w.heap.size w wr) := hbel
    have hbs := hbel.size
    by_cases hlt : j < N
    · have K := HK.out j hlt
      rcases HR.out with hnil | ⟨g, rfl, hR⟩
      · exfalso; have := HL.out; rw [ev_nil hnil] at this; simp at this; omega
      have EA := evAt (hR.below hbel) (k := j) (by have := HL.out; omega)
      rw [Nat.zero_add] at EA
      generalize l.getD j default = e at EA K
      obtain ⟨c0, c1, c2, c3, c4, c5, c6, c7, c8, c9, c10, c11, c12⟩ := EA
      clear hbel hR
      go_wp2_with fail
      refine (K.call _).mono ?_
      rintro r w2 ⟨rfl, hb⟩
      have HB2 : Hid (Below w.heap.size w w2) := (HB.out.alloc (by omega) _).trans (hb.mono (by simp; omega))
      clear hb c0 c1 c2 c3 c4 c5 c6 c7 c8 c9 c10 c11 c12
      go_wp2
      go_roundw
      case rel => exact ⟨j + 1, by omega, by go_num, HB2.out⟩
      case measure => simp [intOf]; omega
    · have hjm : j = N := by omega
      subst hjm
      clear hbel
      go_wp2
      go_ret
      exact ⟨rfl, HB.out⟩⟩
structure ShIs (F : FuncId) (s : Sho) (N M K : Nat) (p : Bool) : Prop where
  call : ∀ (w : World) (a b l : Option Addr) (ca cb cl : Nat), ShoIn w s a b l → Calls Tryz.prog F #[.agg #[.int .i64 s.size, .float .f32 s.step, .float .f32 s.lit.r, .float .f32 s.lit.g, .float .f32 s.lit.b, .slice a N ca, .int .i64 s.kind, .complex .f32 s.g1 s.g2, .float .f32 0, .slice b M cb, .int .i64 s.ticks, .slice l K cl]] w fun r w' => r = .returned (.bool p) ∧ Below w.heap.size w w'
structure ShAsk (s : Sho) (N M K : Nat) (p : Bool) : Prop where
  size : ∀ w : World, Calls Tryz.prog 30 #[.int .i64 s.size] w fun e w' => e = .returned (.bool true) ∧ w' = w
  step : StepIs s.step
  lit : ColIs s.lit.r s.lit.g s.lit.b true
  shs : ∀ a cap, AreIs a N cap s.shs
  tum : ∀ (w : World) (a : Option Addr) (cap : Nat), BwIn w a s.bds → Calls Tryz.prog 34 #[.agg #[.int .i64 s.kind, .complex .f32 s.g1 s.g2, .float .f32 0, .slice a M cap]] w fun e w' => e = .returned (.bool p) ∧ Below w.heap.size w w'
  len : p = true → M = N
  t0 : 0 ≤ s.ticks
  t200 : s.ticks ≤ 200
  log : p = true → LogIs 35 s.log K true
set_option maxHeartbeats 32000000 in
theorem shIs {s : Sho} {N M K : Nat} {p : Bool} (A : ShAsk s N M K p) : ShIs 10 s N M K p := ⟨fun w a b l ca cb cl hr => by
  have Y1 := Lib.hid A.size
  have Y2 := A.step
  have Y3 := A.lit
  have Y4 := A.shs a ca
  have Y5 := Lib.hid A.tum
  have Y6 := Lib.hid A.len
  have Y7 := Lib.hid A.log
  have t0 := A.t0
  have t200 := A.t200
  have HR := Lib.hid hr
  clear A hr
  go_enter Tryz.func10, Tryz.ntmps10
  go_wp2_with fail
  generalize hW : w.alloc (.cells #[.int .i64 s.size, .float .f32 s.step, .float .f32 s.lit.r, .float .f32 s.lit.g, .float .f32 s.lit.b, .slice a N ca, .int .i64 s.kind, .complex .f32 s.g1 s.g2, .float .f32 0, .slice b M cb, .int .i64 s.ticks, .slice l K cl] 34) = X
  have M0 : Hid (Blk X w.heap.size #[.int .i64 s.size, .float .f32 s.step, .float .f32 s.lit.r, .float .f32 s.lit.g, .float .f32 s.lit.b, .slice a N ca, .int .i64 s.kind, .complex .f32 s.g1 s.g2, .float .f32 0, .slice b M cb, .int .i64 s.ticks, .slice l K cl] 34) := by rw [← hW]; exact Blk.new _ _ _
  have I0 : Hid (ShoIn X s a b l) := by rw [← hW]; exact HR.out.alloc
  have G0 : Hid (Below w.heap.size w X) := by rw [← hW]; show Below w.heap.size w _; (repeat' (first | (with_reducible exact Below.refl _ _) | (with_reducible assumption) | (with_reducible refine Below.alloc ?_ ?_ _) | (with_reducible refine Below.drew ?_) | (with_reducible refine Below.setCell ?_ ?_ _) | (with_reducible refine Below.trans ?_ (Below.mono (by assumption) ?_)) | (with_reducible exact Nat.le_refl _) | omega | (simp only [World.size_alloc, World.size_setCell, World.size_drew]; omega) | (simp; omega) | (simp; done)))
  clear hW HR
  (obtain ⟨p0, p1, p2, p3, p4, p5, p6, p7, p8, p9, p10, p11⟩ := blk12 (M0.out))
  have l0 := M0.out.lt
  refine (Y1.out _).mono ?_
  rintro e w1 ⟨rfl, rfl⟩
  go_wp2_with fail
  refine (Y2.call _).mono ?_
  rintro e w2 ⟨rfl, rfl⟩
  go_wp2_with fail
  refine (Y3.call _).mono ?_
  rintro e w3 ⟨rfl, hb⟩
  have M3 := Lib.hid (M0.out.below hb)
  have I3 : Hid (ShoIn w3 s a b l) := I0.out.below hb
  have G3 : Hid (Below w.heap.size w w3) := G0.out.trans (hb.mono G0.out.size)
  clear hb M0 I0 G0 p0 p1 p2 p3 p4 p5 p6 p7 p8 p9 p10 p11 l0 Y1 Y2 Y3
  (obtain ⟨p0, p1, p2, p3, p4, p5, p6, p7, p8, p9, p10, p11⟩ := blk12 (M3.out))
  have l0 := M3.out.lt
  go_wp2_with fail
  refine (Y4.call _ (rowAt_of_lies I3.out.sh)).mono ?_
  rintro e w4 ⟨rfl, hb⟩
  have M4 := Lib.hid (M3.out.below hb)
  have I4 : Hid (ShoIn w4 s a b l) := I3.out.below hb
  have G4 : Hid (Below w.heap.size w w4) := G3.out.trans (hb.mono G3.out.size)
  clear hb M3 I3 G3 p0 p1 p2 p3 p4 p5 p6 p7 p8 p9 p10 p11 l0 Y4
  (obtain ⟨p0, p1, p2, p3, p4, p5, p6, p7, p8, p9, p10, p11⟩ := blk12 (M4.out))
  have l0 := M4.out.lt
  go_wp2_with fail
  refine (Y5.out _ _ _ (bwIn_of_lies I4.out.bd)).mono ?_
  rintro e w5 ⟨rfl, hb⟩
  have M5 := Lib.hid (M4.out.below hb)
  have I5 : Hid (ShoIn w5 s a b l) := I4.out.below hb
  have G5 : Hid (Below w.heap.size w w5) := G4.out.trans (hb.mono G4.out.size)
  clear hb M4 I4 G4 p0 p1 p2 p3 p4 p5 p6 p7 p8 p9 p10 p11 l0 Y5
  cases p
  · clear Y6 Y7
    go_wp2
    go_ret
    exact ⟨rfl, G5.out⟩
  · obtain rfl := Y6.out rfl
    have Y := Y7.out rfl
    clear Y6 Y7
    have hd : decide (0 ≤ s.ticks) = true := decide_eq_true t0
    have hd2 : decide (s.ticks ≤ 200) = true := decide_eq_true t200
    (obtain ⟨p0, p1, p2, p3, p4, p5, p6, p7, p8, p9, p10, p11⟩ := blk12 (M5.out))
    have l0 := M5.out.lt
    go_wp2_with fail
    refine (Y.call _ _ _ I5.out.lg).mono ?_
    rintro e w6 ⟨rfl, hb⟩
    have G6 : Hid (Below w.heap.size w w6) := G5.out.trans (hb.mono G5.out.size)
    clear hb M5 I5 G5 p0 p1 p2 p3 p4 p5 p6 p7 p8 p9 p10 p11 l0
    go_wp2
    go_ret
    exact ⟨rfl, G6.out⟩⟩
end Go.Proofs.YtfdgijmmgllmgaaGreat
namespace Go.Proofs.YtfdgijmmgllmgaaGreat
open Go.ChangeShapes Go.WideShapes Go.ChangeAt Go.RowKit Go.Joins
set_option linter.unusedSimpArgs false
set_option linter.unusedVariables false
set_option maxRecDepth 100000
attribute [local go_sem] store_f
open Ieee Go.Lib
attribute [local go_sem] store_c
theorem run_assert_panics {P : Program} {asserted t xT rtE : TypeId} {want : Array (String × TypeId)} (hu : P.underlying asserted = some (.interface want)) (h : (P.info? t).map (fun i => (lacking want i.methods).isEmpty) = some false) (he : P.underlying P.rt.typeAssertionError = some (.pointer rtE)) (v : Value) :
    ∃ u, ∀ w : World, ∃ cs pv, (Instr.typeAssert (.iface t v) xT asserted false).run P w = .halt (.panic (.iface u pv)) (w.alloc (.cells cs rtE)) := by
  obtain ⟨i, hi, hl⟩ := Option.map_eq_some_iff.1 h
  obtain ⟨m, hm⟩ := missingMethod_some (want := want) (got := i.methods) (fun e => by rw [e] at hl; cases hl)
  refine ⟨P.rt.typeAssertionError, fun w => ?_⟩
  simp [Instr.typeAssert, run_underlying hu, typeInfo, hi, hm, runtimePanic, elemOf, newVar, newRow, goPanic, go_sem]
  rw [run_underlying he]
  exact ⟨_, _, rfl⟩
theorem run_assert_has {P : Program} {asserted t xT : TypeId} {want : Array (String × TypeId)} (hu : P.underlying asserted = some (.interface want)) (h : (P.info? t).map (fun i => (lacking want i.methods).isEmpty) = some true) (v : Value) (w : World) :
    (Instr.typeAssert (.iface t v) xT asserted false).run P w = .ok (.iface t v) w := by
  obtain ⟨i, hi, hl⟩ := Option.map_eq_some_iff.1 h
  simp [Instr.typeAssert, run_underlying hu, typeInfo, hi, missingMethod_none (List.isEmpty_iff.1 hl)]
theorem catch_panicking (p : Addr) (x : Bool) (u : TypeId) (pv : Value) (older : List PanicEntry) (w : World) (hc : w.cell? p = some (.bool x)) (hz : w.frozen? p = false) :
    CallsD Tryz.prog 65 #[.pointer (some p)] (.panicking ({ v := .iface u pv, recovered := false } :: older)) w fun e u' w' =>
      e = .returned (.tuple #[]) ∧ u' = .panicking ({ v := .iface u pv, recovered := true } :: older) ∧ w' = w.setCell p (.bool true) := by
  refine callsD_of_wpS Tryz.func65 rfl fun c₀ cs hu => ?_
  apply wpS_seq
  apply wpS_region
  simp [wpOpsS, go_sem, recoverD, hu, Tryz.ntmps65, Exit.thenS]
  refine wpS_cond (t := true) (by simp [Act.eval, Array.replicate]) ?_
  simp only [if_true]
  apply wpS_region
  simp [wpOpsS, go_sem, hc, hz, bodyPostS, results, Tryz.results65]
theorem catch_idle (p : Addr) (w : World) :
    CallsD Tryz.prog 65 #[.pointer (some p)] .returning w fun e u' w' => e = .returned (.tuple #[]) ∧ u' = .returning ∧ w' = w := by
  refine callsD_of_wpS Tryz.func65 rfl fun c₀ cs hu => ?_
  apply wpS_seq
  apply wpS_region
  simp [wpOpsS, go_sem, recoverD, hu, Tryz.ntmps65, Exit.thenS]
  refine wpS_cond (t := false) (by simp [Act.eval, Array.replicate]) ?_
  simp only [Bool.false_eq_true, if_false]
  refine wpS_of_wp (wp_skip ?_)
  cases c₀
  simp_all [bodyPostS, results, Tryz.results65]
structure HasB (v : Value) (M : Nat) (p : Bool) : Prop where
  call : ∀ (w : World) (s : Sho) (N K : Nat) (a b l : Option Addr) (ca cb cl : Nat), Calls Tryz.prog 28 #[.agg #[.int .i64 s.size, .float .f32 s.step, .float .f32 s.lit.r, .float .f32 s.lit.g, .float .f32 s.lit.b, .slice a N ca, .int .i64 s.kind, .complex .f32 s.g1 s.g2, .float .f32 0, .slice b M cb, .int .i64 s.ticks, .slice l K cl], v] w fun r w' => r = .returned (.bool p) ∧ Below w.heap.size w w'
structure BeadOf (T : TypeId) (v r : Value) (n : Nat) : Prop where
  asrt : ∀ w : World, (Instr.typeAssert (.iface T v) 73 118 false).run Tryz.prog w = .ok (.iface T v) w
  meth : ∀ (k : Nat) (w : World), (method (k + 1) T v "loop.example/g03020/impl.beadIndex").run Tryz.prog w = .ok (184, r) w
  call : ∀ w : World, Calls Tryz.prog 184 #[r] w fun e w' => e = .returned (.int .i64 n) ∧ ∃ o, w' = w.alloc o
theorem index_i (n : Int) (w : World) : Calls Tryz.prog 184 #[.agg #[.int .i64 n]] w fun e w' => e = .returned (.int .i64 n) ∧ ∃ o, w' = w.alloc o := by
  go_enter Tryz.func184, Tryz.ntmps184
  go_wp2
  go_ret
  exact ⟨rfl, _, rfl⟩
theorem beadOf_take (n : Nat) : BeadOf 156 (.agg #[.int .i64 n]) (.agg #[.int .i64 n]) n :=
  ⟨fun w => run_assert_has Tryz.underlying118 (by kernel_rfl) _ w, fun k w => by kernel_rfl, index_i n⟩
theorem beadOf_push (n : Nat) (z1 z2 : Nat) : BeadOf 164 (.agg #[.int .i64 n, .complex .f32 z1 z2]) (.agg #[.int .i64 n]) n :=
  ⟨fun w => run_assert_has Tryz.underlying118 (by kernel_rfl) _ w, fun k w => by kernel_rfl, index_i n⟩
set_option maxHeartbeats 8000000 in
theorem hasB_bead {T : TypeId} {v r : Value} {n M : Nat} (B : BeadOf T v r n) : HasB (.iface T v) M (decide (n < M)) := ⟨fun w s N K a b l ca cb cl => by
  have hmf : ∀ (fn : Fn) (first cap : Array Value) (w : World), (Instr.makeFunc fn first cap).run Tryz.prog w = .ok (.func fn first cap) w := fun _ _ _ _ => rfl
  have ha := B.asrt
  have hm := B.meth
  have hc := B.call
  clear B
  go_enter_defers Tryz.func28, Tryz.ntmps28
  go_wp2_with fail
  refine wp_region_noPanic ?_
  go_region_with (go_simp; (refine (hc _).mono ?_); rintro e w1 ⟨rfl, o, rfl⟩)
  all_goals
    refine NoPanic.normal ?_
    go_wp2
    refine leaves_cons (f := 65) (args := #[.pointer (some ⟨w.heap.size + 1, 0, Option.none⟩)]) (by simp) (by simp [go_sem]) ?_
    refine (catch_idle ⟨w.heap.size + 1, 0, Option.none⟩ _).mono ?_
    rintro e u' w'' ⟨rfl, rfl, rfl⟩
    simp [Leaves, settle, results, Tryz.results28, go_sem]
    exact ((((Below.refl _ _).alloc (Nat.le_refl _) _).alloc (by simp) _).alloc (by simp; omega) _).drew⟩
structure NoBead (T : TypeId) (v : Value) (u rtE : TypeId) : Prop where
  asrt : ∀ w : World, ∃ cs pv, (Instr.typeAssert (.iface T v) 73 118 false).run Tryz.prog w = .halt (.panic (.iface u pv)) (w.alloc (.cells cs rtE))
def PanQ (u : TypeId) (pv : Value) (ptr : Value) (D : List Deferred) (W : World) : Exit → Act → World → Prop :=
  fun e a w => e = .panic [{ v := .iface u pv, recovered := false }] ∧ w = W ∧ a.tmps.getD 4 undef = ptr ∧ a.defers = D
theorem put_4 {d : Nat} (h : d ≠ 4) (a : Act) (v : Value) : (a.put (some d) v).tmps.getD 4 undef = a.tmps.getD 4 undef := by
  simp [Act.put, Array.getD_eq_getD_getElem?, Array.getElem?_setIfInBounds_ne h]
theorem panQ_put {u : TypeId} {pv ptr : Value} {D : List Deferred} {W : World} {d : Nat} (h : d ≠ 4) (v : Value) (c : List PanicEntry) (a : Act) (w : World) (hq : PanQ u pv ptr D W (.panic c) (a.put (some d) v) w) : PanQ u pv ptr D W (.panic c) a w :=
  ⟨hq.1, hq.2.1, by rw [← put_4 h a v]; exact hq.2.2.1, hq.2.2.2⟩
set_option maxHeartbeats 8000000 in
theorem hasB_none {T u rtE : TypeId} {v : Value} {M : Nat} (B : NoBead T v u rtE) : HasB (.iface T v) M true := ⟨fun w s N K a b l ca cb cl => by
  have hmf : ∀ (fn : Fn) (first cap : Array Value) (w : World), (Instr.makeFunc fn first cap).run Tryz.prog w = .ok (.func fn first cap) w := fun _ _ _ _ => rfl
  obtain ⟨cs, pv, hrun⟩ := B.asrt (((w.alloc (.cells #[.int .i64 s.size, .float .f32 s.step, .float .f32 s.lit.r, .float .f32 s.lit.g, .float .f32 s.lit.b, .slice a N ca, .int .i64 s.kind, .complex .f32 s.g1 s.g2, .float .f32 0, .slice b M cb, .int .i64 s.ticks, .slice l K cl] 34)).alloc (.cells #[.bool false] 4)).drew)
  clear B
  go_enter_defers Tryz.func28, Tryz.ntmps28
  go_wp2_with fail
  refine Code.wp_mono (Q := PanQ u pv (.pointer (some ⟨w.heap.size + 1, 0, Option.none⟩)) [{ target := Target.fn (Fn.func 65) #[.pointer (some ⟨w.heap.size + 1, 0, Option.none⟩)], args := #[] }] ((((w.alloc (.cells #[.int .i64 s.size, .float .f32 s.step, .float .f32 s.lit.r, .float .f32 s.lit.g, .float .f32 s.lit.b, .slice a N ca, .int .i64 s.kind, .complex .f32 s.g1 s.g2, .float .f32 0, .slice b M cb, .int .i64 s.ticks, .slice l K cl] 34)).alloc (.cells #[.bool false] 4)).drew).alloc (.cells cs rtE))) ?mono ?reg
  case mono =>
    rintro e a' w' ⟨rfl, rfl, h4, hD⟩
    show Leaves _ _ a'.tmps _ a'.defers _ _
    rw [hD]
    refine leaves_cons (f := 65) (args := #[.pointer (some ⟨w.heap.size + 1, 0, Option.none⟩)]) (by simp) (by simp [go_sem]) ?_
    refine (catch_panicking ⟨w.heap.size + 1, 0, Option.none⟩ false u pv [] _ (by simp [go_sem]) (by simp [go_sem]) ).mono ?_
    rintro e u' w'' ⟨rfl, rfl, rfl⟩
    have h5 : a'.tmps[4]?.getD undef = .pointer (some ⟨w.heap.size + 1, 0, Option.none⟩) := by simpa [Array.getD_eq_getD_getElem?] using h4
    simp [Leaves, settle, results, Tryz.results28, go_sem, h5]
    exact ((((Below.refl _ _).alloc (Nat.le_refl _) _).alloc (by simp) _).alloc (by simp; omega) _).drew
  case reg =>
    refine wp_region_any (by kernel_rfl) ?_
    change wpAny _ _ _ _ _ _ _ (World.drew _)
    refine wpAny_take (i := 0) (v := ?_) rfl (by kernel_rfl) (by kernel_rfl) (by kernel_rfl) (panQ_put (by decide) _) (Or.inl ⟨by rfl, ?_⟩) ?_
    rotate_left
    · intro w; go_simp; with_reducible rfl
    refine wpAny_take (i := 3) (v := ?_) rfl (by kernel_rfl) (by kernel_rfl) (by kernel_rfl) (panQ_put (by decide) _) (Or.inl ⟨by rfl, ?_⟩) ?_
    rotate_left
    · intro w; go_simp; with_reducible rfl
    refine wpAny_take (i := 4) (v := ?_) rfl (by kernel_rfl) (by kernel_rfl) (by kernel_rfl) (panQ_put (by decide) _) (Or.inl ⟨by rfl, ?_⟩) ?_
    rotate_left
    · intro w; go_simp; with_reducible rfl
    refine wpAny_ready (rs := [1, 5]) (by kernel_rfl) (by simp) ?_
    refine AllReady.cons rfl (fun K hK => ?_) (AllReady.cons rfl (fun K hK => ?_) AllReady.nil)
    · go_simp
      exact ⟨rfl, rfl, rfl, rfl⟩
    · go_simp
      refine hK _ _ ?_
      clear hK K
      refine wpAny_take (i := 6) (v := ?_) rfl (by kernel_rfl) (by kernel_rfl) (by kernel_rfl) (panQ_put (by decide) _) (Or.inl ⟨by rfl, ?_⟩) ?_
      rotate_left
      · intro w; go_simp; with_reducible rfl
      refine wpAny_ready (rs := [1]) (by kernel_rfl) (by simp) ?_
      refine AllReady.cons rfl (fun K hK => ?_) AllReady.nil
      go_simp
      exact ⟨rfl, rfl, rfl, rfl⟩⟩
theorem noBead_add (v : Value) : ∃ u, NoBead 152 v u 226 := by
  obtain ⟨u, h⟩ := run_assert_panics (P := Tryz.prog) (t := 152) (xT := 73) Tryz.underlying118 (by kernel_rfl) (show Tryz.prog.underlying Tryz.prog.rt.typeAssertionError = some (.pointer 226) by kernel_rfl) v
  exact ⟨u, ⟨h⟩⟩
theorem noBead_light (v : Value) : ∃ u, NoBead 158 v u 226 := by
  obtain ⟨u, h⟩ := run_assert_panics (P := Tryz.prog) (t := 158) (xT := 73) Tryz.underlying118 (by kernel_rfl) (show Tryz.prog.underlying Tryz.prog.rt.typeAssertionError = some (.pointer 226) by kernel_rfl) v
  exact ⟨u, ⟨h⟩⟩
theorem noBead_mirrors (v : Value) : ∃ u, NoBead 160 v u 226 := by
  obtain ⟨u, h⟩ := run_assert_panics (P := Tryz.prog) (t := 160) (xT := 73) Tryz.underlying118 (by kernel_rfl) (show Tryz.prog.underlying Tryz.prog.rt.typeAssertionError = some (.pointer 226) by kernel_rfl) v
  exact ⟨u, ⟨h⟩⟩
theorem noBead_gravity (v : Value) : ∃ u, NoBead 162 v u 226 := by
  obtain ⟨u, h⟩ := run_assert_panics (P := Tryz.prog) (t := 162) (xT := 73) Tryz.underlying118 (by kernel_rfl) (show Tryz.prog.underlying Tryz.prog.rt.typeAssertionError = some (.pointer 226) by kernel_rfl) v
  exact ⟨u, ⟨h⟩⟩
theorem noBead_wait (v : Value) : ∃ u, NoBead 166 v u 226 := by
  obtain ⟨u, h⟩ := run_assert_panics (P := Tryz.prog) (t := 166) (xT := 73) Tryz.underlying118 (by kernel_rfl) (show Tryz.prog.underlying Tryz.prog.rt.typeAssertionError = some (.pointer 226) by kernel_rfl) v
  exact ⟨u, ⟨h⟩⟩
def Ev.has (M : Nat) : Ev → Bool
  | .take n => decide (n < M)
  | .push n _ => decide (n < M)
  | _ => true
theorem hasB_of (e : Ev) (M : Nat) : HasB e.iv M (e.has M) := by
  cases e with
  | add s z => obtain ⟨u, h⟩ := noBead_add (.agg #[.complex .f32 s.a1 s.a2, .complex .f32 s.b1 s.b2, .complex .f32 s.c1 s.c2, .float .f32 s.r, .float .f32 s.g, .float .f32 s.b, .float .f32 s.k, .complex .f32 z.1.1 z.1.2]); exact hasB_none h
  | take n => exact hasB_bead (beadOf_take n)
  | light c => obtain ⟨u, h⟩ := noBead_light (.agg #[.float .f32 c.r, .float .f32 c.g, .float .f32 c.b]); exact hasB_none h
  | mirrors n => obtain ⟨u, h⟩ := noBead_mirrors (.agg #[.int .i64 n]); exact hasB_none h
  | gravity z => obtain ⟨u, h⟩ := noBead_gravity (.agg #[.complex .f32 z.1.1 z.1.2]); exact hasB_none h
  | push n z => exact hasB_bead (beadOf_push n z.1.1 z.1.2)
  | wait n => obtain ⟨u, h⟩ := noBead_wait (.agg #[.int .i64 n]); exact hasB_none h
end Go.Proofs.YtfdgijmmgllmgaaGreat
namespace Go.Proofs.YtfdgijmmgllmgaaGreat
open Go.ChangeShapes Go.WideShapes Go.ChangeAt Go.RowKit Go.Joins
set_option linter.unusedSimpArgs false
set_option linter.unusedVariables false
set_option maxRecDepth 100000
attribute [local go_sem] store_f
open Ieee Go.Lib
attribute [local go_sem] store_c
structure ChgOut (w : World) (e : Ending) (w' : World) (B P : Nat) (t : Sho) (N M K : Nat) (a b l : Option Addr) (ca cb cl : Nat) (p : Bool) : Prop where
  ret : e = .returned (.bool p)
  blk : Blk w' P #[.int .i64 t.size, .float .f32 t.step, .float .f32 t.lit.r, .float .f32 t.lit.g, .float .f32 t.lit.b, .slice a N ca, .int .i64 t.kind, .complex .f32 t.g1 t.g2, .float .f32 0, .slice b M cb, .int .i64 t.ticks, .slice l K cl] 34
  inn : ShoIn w' t a b l
  below : Below B w w'
  size : w.heap.size ≤ w'.heap.size
structure ChgM (F : FuncId) (r : Value) (s t : Sho) (N M K N' M' : Nat) (p : Bool) : Prop where
  call : ∀ (w : World) (B P : Nat) (a b l : Option Addr) (ca cb cl : Nat), Blk w P #[.int .i64 s.size, .float .f32 s.step, .float .f32 s.lit.r, .float .f32 s.lit.g, .float .f32 s.lit.b, .slice a N ca, .int .i64 s.kind, .complex .f32 s.g1 s.g2, .float .f32 0, .slice b M cb, .int .i64 s.ticks, .slice l K cl] 34 → ShoOwn w B s N M K a b l ca cb cl → B ≤ P →
    Calls Tryz.prog F #[r, .pointer (some ⟨P, 0, Option.none⟩)] w fun e w' => ∃ a' b' l' ca' cb' cl', ChgOut w e w' B P t N' M' K a' b' l' ca' cb' cl' p
theorem owns_blk {W : World} {B T U sz n m c P : Nat} {a : Option Addr} {xs : List Value} {cs : Array Value} (h : W.ownsRow B T sz (.slice a m c) n xs) (hb : Blk W P cs U) (hTU : T ≠ U) : ∀ g, a = some ⟨g, 0, Option.none⟩ → (some P : Option Nat) ≠ some g := fun g e eq => by
  cases eq
  subst e
  rcases h.2 with ⟨e0, _⟩ | ⟨g1, c1, cur1, e1, _, b1, _⟩
  · cases e0
  · cases e1
    have := b1.symm.trans hb
    simp at this
    exact hTU this.2
theorem ShoOwn.grownP {W w1 : World} {B : Nat} {s : Sho} {N M K P : Nat} {a b l : Option Addr} {ca cb cl : Nat} {cs : Array Value} (h : ShoOwn W B s N M K a b l ca cb cl) (hb : Blk W P cs 34) (hg : W.grownBy w1 (some P)) : ShoOwn w1 B s N M K a b l ca cb cl :=
  ⟨owns_other hg h.sh (owns_blk h.sh hb (by decide)), owns_other hg h.bd (owns_blk h.bd hb (by decide)), owns_other hg h.lg (owns_blk h.lg hb (by decide))⟩
theorem ShoOwn.setP {W : World} {B : Nat} {s : Sho} {N M K P i : Nat} {v : Value} {a b l : Option Addr} {ca cb cl : Nat} {cs : Array Value} (h : ShoOwn W B s N M K a b l ca cb cl) (hb : Blk W P cs 34) : ShoOwn (W.setCell ⟨P, i, Option.none⟩ v) B s N M K a b l ca cb cl :=
  h.grownP hb (grownBy_set (grownBy_refl _ _))
set_option maxHeartbeats 8000000 in
theorem chg_light {s : Sho} {N M K : Nat} {c : Lit} : ChgM 189 (.agg #[.float .f32 c.r, .float .f32 c.g, .float .f32 c.b]) s { s with lit := c } N M K N M true := ⟨fun w B P a b l ca cb cl hP hO hB => by
  have P0 := Lib.hid hP
  have O0 := Lib.hid hO
  have hlt := hP.lt
  (obtain ⟨p0, p1, p2, p3, p4, p5, p6, p7, p8, p9, p10, p11⟩ := blk12 (hP))
  have f2 := hP.free 2
  have f3 := hP.free 3
  have f4 := hP.free 4
  clear hP hO
  have RS : Hid (Blk (((w.setCell ⟨P, 2, Option.none⟩ (.float .f32 c.r)).setCell ⟨P, 3, Option.none⟩ (.float .f32 c.g)).setCell ⟨P, 4, Option.none⟩ (.float .f32 c.b)) P #[.int .i64 s.size, .float .f32 s.step, .float .f32 c.r, .float .f32 c.g, .float .f32 c.b, .slice a N ca, .int .i64 s.kind, .complex .f32 s.g1 s.g2, .float .f32 0, .slice b M cb, .int .i64 s.ticks, .slice l K cl] 34) := Blk.setAt rfl (Blk.setAt rfl (Blk.setAt rfl P0.out rfl) rfl) rfl
  have OS : Hid (ShoOwn (((w.setCell ⟨P, 2, Option.none⟩ (.float .f32 c.r)).setCell ⟨P, 3, Option.none⟩ (.float .f32 c.g)).setCell ⟨P, 4, Option.none⟩ (.float .f32 c.b)) B s N M K a b l ca cb cl) := O0.out.grownP P0.out (grownBy_set (grownBy_set (grownBy_set (grownBy_refl _ _))))
  have GS : Hid (Below B w (((w.setCell ⟨P, 2, Option.none⟩ (.float .f32 c.r)).setCell ⟨P, 3, Option.none⟩ (.float .f32 c.g)).setCell ⟨P, 4, Option.none⟩ (.float .f32 c.b))) := (((Below.refl _ _).setCell (by dsimp only; omega) _).setCell (by dsimp only; omega) _).setCell (by dsimp only; omega) _
  go_enter Tryz.func189, Tryz.ntmps189
  go_wp2
  go_ret
  exact ⟨a, b, l, ca, cb, cl, ⟨rfl, RS.out.alloc, ⟨OS.out.in_.sh.alloc, OS.out.in_.bd.alloc, OS.out.in_.lg.alloc⟩, GS.out.alloc (by simp; omega) _, by simp⟩⟩⟩
set_option maxHeartbeats 8000000 in
theorem chg_gravity {s : Sho} {N M K : Nat} {z1 z2 : Nat} : ChgM 193 (.agg #[.complex .f32 z1 z2]) s { s with g1 := z1, g2 := z2 } N M K N M true := ⟨fun w B P a b l ca cb cl hP hO hB => by
  have P0 := Lib.hid hP
  have O0 := Lib.hid hO
  have hlt := hP.lt
  (obtain ⟨p0, p1, p2, p3, p4, p5, p6, p7, p8, p9, p10, p11⟩ := blk12 (hP))
  have f7 := hP.free 7
  clear hP hO
  have RS : Hid (Blk (w.setCell ⟨P, 7, Option.none⟩ (.complex .f32 z1 z2)) P #[.int .i64 s.size, .float .f32 s.step, .float .f32 s.lit.r, .float .f32 s.lit.g, .float .f32 s.lit.b, .slice a N ca, .int .i64 s.kind, .complex .f32 z1 z2, .float .f32 0, .slice b M cb, .int .i64 s.ticks, .slice l K cl] 34) := Blk.setAt rfl P0.out rfl
  have OS : Hid (ShoOwn (w.setCell ⟨P, 7, Option.none⟩ (.complex .f32 z1 z2)) B s N M K a b l ca cb cl) := O0.out.setP P0.out
  have GS : Hid (Below B w (w.setCell ⟨P, 7, Option.none⟩ (.complex .f32 z1 z2))) := (Below.refl _ _).setCell (by dsimp only; omega) _
  go_enter Tryz.func193, Tryz.ntmps193
  go_wp2
  go_ret
  exact ⟨a, b, l, ca, cb, cl, ⟨rfl, RS.out.alloc, ⟨OS.out.in_.sh.alloc, OS.out.in_.bd.alloc, OS.out.in_.lg.alloc⟩, GS.out.alloc (by simp; omega) _, by simp⟩⟩⟩
end Go.Proofs.YtfdgijmmgllmgaaGreat
namespace Go.Proofs.YtfdgijmmgllmgaaGreat
open Go.ChangeShapes Go.WideShapes Go.ChangeAt Go.RowKit Go.Joins
set_option linter.unusedSimpArgs false
set_option linter.unusedVariables false
set_option maxRecDepth 100000
attribute [local go_sem] store_f
open Ieee Go.Lib
attribute [local go_sem] store_c
structure RowOf (W : World) (B T sz : Nat) (a : Option Addr) (xs : List Value) (g : Nat) : Prop where
  at_ : a = some ⟨g, 0, Option.none⟩
  ge : B ≤ g
  lt : g < W.heap.size
  lie : LieAt W g 0 xs
  free : ∀ i, W.frozen? ⟨g, i, Option.none⟩ = false
  blk : ∃ cs, Blk W g cs T
theorem rowOf {W : World} {B T sz n c : Nat} {a : Option Addr} {xs : List Value} (h : W.ownsRow B T sz (.slice a n c) n xs) (hn : 0 < n) : ∃ g, RowOf W B T sz a xs g := by
  have h0 := h
  rcases h.2 with ⟨_, e⟩ | ⟨g, cap, cur, e1, hb, hg, _⟩
  · omega
  · cases e1
    have hB : Blk W g cur T := hg
    refine ⟨g, rfl, hb, hB.lt, fun j u hj => ?_, hB.free, cur, hB⟩
    rw [Nat.zero_add, h0.cellAt _ (by have := (List.getElem?_eq_some_iff.1 hj).1; have := h0.1; omega)]
    exact hj
theorem LieAt.setAt {W : World} {g i : Nat} {xs : List Value} {v : Value} (h : LieAt W g 0 xs) (hi : i < xs.length) : LieAt (W.setCell ⟨g, i, Option.none⟩ v) g 0 (xs.set i v) := fun j u hj => by
  rw [Nat.zero_add]
  by_cases e : i = j
  · subst e
    rw [List.getElem?_set_self hi] at hj
    cases hj
    have h1 := h i xs[i] (by simp [hi])
    rw [Nat.zero_add] at h1
    exact World.cell?_setCell_same _ _ _ h1
  · rw [List.getElem?_set_ne e] at hj
    have h1 := h j u hj
    rw [Nat.zero_add] at h1
    exact cSetOff (by dsimp only; omega) h1
theorem LiesZ.other {W : World} {a : Option Addr} {g i : Nat} {v : Value} {xs : List Value} (h : LiesZ W a xs) (hne : a ≠ some ⟨g, 0, Option.none⟩) : LiesZ (W.setCell ⟨g, i, Option.none⟩ v) a xs := by
  rcases h with h | ⟨k, e, h⟩
  · exact .inl h
  · exact .inr ⟨k, e, h.set fun e' => hne (by rw [e, e'])⟩
theorem bw_set1 (L : List Bw) : ∀ n x y, n < L.length → bwCells (L.set n ⟨(L.getD n default).a1, (L.getD n default).a2, x, y⟩) = (bwCells L).set (n * 2 + 1) (.complex .f32 x y) := by
  induction L with
  | nil => intro n x y h; simp at h
  | cons b L ih =>
    intro n x y h
    cases n with
    | zero => rfl
    | succ n =>
      have := ih n x y (by simpa using h)
      have e : bwCells (b :: L) = .complex .f32 b.a1 b.a2 :: .complex .f32 b.v1 b.v2 :: bwCells L := rfl
      rw [e, show (n + 1) * 2 + 1 = (n * 2 + 1) + 1 + 1 by omega]
      show _ = Value.complex .f32 b.a1 b.a2 :: .complex .f32 b.v1 b.v2 :: (bwCells L).set (n * 2 + 1) (.complex .f32 x y)
      rw [← this]
      rfl
set_option maxHeartbeats 16000000 in
theorem chg_push {s : Sho} {N M K n : Nat} {z1 z2 x y : Nat} (hn : n < M) (hm : s.bds.length = M) (hM : M ≤ 8) (J : Join 90 (s.bds.getD n default).v1 (s.bds.getD n default).v2 z1 z2 x y) : ChgM 195 (.agg #[.int .i64 n, .complex .f32 z1 z2]) s { s with bds := s.bds.set n ⟨(s.bds.getD n default).a1, (s.bds.getD n default).a2, x, y⟩ } N M K N M true := ⟨fun w B P a b l ca cb cl hP hO hB => by
  obtain ⟨g, HG⟩ := rowOf hO.bd (by omega)
  obtain rfl := HG.at_
  have hgP : g ≠ P := fun e => owns_blk hO.bd hP (by decide) g rfl (by rw [e])
  have hsh := owns_apart hO.sh hO.bd (by decide)
  have hlg := owns_apart hO.lg hO.bd (by decide)
  have P0 := Lib.hid hP
  have I0 := Lib.hid hO.in_
  have L0 := Lib.hid HG.lie
  have hgl := HG.lt
  have hgB := HG.ge
  obtain ⟨gcs, hgb⟩ := HG.blk
  have HGB := Lib.hid hgb
  have hlt := hP.lt
  have hbw := (bwRow_of_lie HG.lie) n (by omega)
  have HS : Hid (bwCells (s.bds.set n ⟨(s.bds.getD n default).a1, (s.bds.getD n default).a2, x, y⟩) = (bwCells s.bds).set (n * 2 + 1) (.complex .f32 x y)) := bw_set1 _ _ _ _ (by omega)
  have HSH := Lib.hid hsh
  have HLG := Lib.hid hlg
  have HLEN := Lib.hid hm
  generalize s.bds.set n ⟨(s.bds.getD n default).a1, (s.bds.getD n default).a2, x, y⟩ = T at *
  generalize (s.bds.getD n default).v1 = v1 at *
  generalize (s.bds.getD n default).v2 = v2 at *
  have hc1 := hbw.2
  clear hP hO HG hsh hlg hgb hbw hm
  go_enter Tryz.func195, Tryz.ntmps195
  go_wp2_with fail
  generalize hX : w.alloc (.cells #[.int .i64 n, .complex .f32 z1 z2] 164) = X
  have P1 : Hid (Blk X P #[.int .i64 s.size, .float .f32 s.step, .float .f32 s.lit.r, .float .f32 s.lit.g, .float .f32 s.lit.b, .slice a N ca, .int .i64 s.kind, .complex .f32 s.g1 s.g2, .float .f32 0, .slice (some ⟨g, 0, Option.none⟩) M cb, .int .i64 s.ticks, .slice l K cl] 34) := by rw [← hX]; exact P0.out.alloc
  have E1 : Hid (Blk X w.heap.size #[.int .i64 n, .complex .f32 z1 z2] 164) := by rw [← hX]; exact Blk.new _ _ _
  have I1 : Hid (ShoIn X s a (some ⟨g, 0, Option.none⟩) l) := by rw [← hX]; exact I0.out.alloc
  have L1 : Hid (LieAt X g 0 (bwCells s.bds)) := by rw [← hX]; exact L0.out.alloc
  have c1 : X.cell? ⟨g, n * 2 + 1, Option.none⟩ = some (.complex .f32 v1 v2) := by rw [← hX]; exact cAlloc hc1
  have f1 : X.frozen? ⟨g, n * 2 + 1, Option.none⟩ = false := by rw [← hX]; exact (HGB.out.alloc).free _
  have G1 : Hid (Below B w X) := by rw [← hX]; exact (Below.refl _ _).alloc (by omega) _
  have sX : w.heap.size < X.heap.size := by rw [← hX]; simp
  clear hX P0 I0 L0 hc1 HGB
  have p9 := Blk.cellAt (i := 9) P1.out rfl
  have q0 := Blk.cellAt (i := 0) E1.out rfl
  have q1 := Blk.cellAt (i := 1) E1.out rfl
  simp only [List.getElem_toArray, List.getElem_cons_zero, List.getElem_cons_succ] at p9 q0 q1
  have lP : P < X.heap.size := P1.out.lt
  have lg : g < X.heap.size := by omega
  have hk0 : (0 : Int) ≤ (n : Int) := by omega
  have hk1 : (n : Int) < (M : Int) := by omega
  go_region
  go_wp2_with fail
  go_region_held3 (fun wx => X.heap.size ≤ wx.heap.size ∧ P < wx.heap.size ∧ w.heap.size < wx.heap.size ∧ g < wx.heap.size ∧ wx.cell? ⟨P, 9, Option.none⟩ = some (.slice (some ⟨g, 0, Option.none⟩) M cb) ∧ wx.cell? ⟨w.heap.size, 0, Option.none⟩ = some (.int .i64 n) ∧ wx.cell? ⟨w.heap.size, 1, Option.none⟩ = some (.complex .f32 z1 z2))
    (((repeat' apply And.intro) <;> first | (with_reducible assumption) | (((repeat (first | (with_reducible assumption) | (with_reducible exact cNewAt (by first | rfl | (simp only [World.size_alloc, World.size_setCell, World.size_drew]; done) | omega) rfl) | (with_reducible exact sNewAt (by first | rfl | (simp only [World.size_alloc, World.size_setCell, World.size_drew]; done) | omega) rfl) | (simp; done) | (with_reducible apply cAlloc) | (with_reducible apply cDrew) | (with_reducible refine cSet (by dsimp only; omega) ?_) | (with_reducible refine cSetOff (by dsimp only; omega) ?_) | (with_reducible apply cSame) | (with_reducible refine cBelow (by assumption) ?_) | (with_reducible apply sAlloc) | (with_reducible apply sDrew) | (with_reducible refine sBelow (by assumption) ?_) | (with_reducible refine sSet (by dsimp only; omega) ?_))); first | done | (simp [*]; done)); done) | (simp only [World.size_alloc, World.size_setCell, World.size_drew]; omega) | omega | (go_keep; done) | ((repeat' (first | (with_reducible exact Below.refl _ _) | (with_reducible assumption) | (with_reducible refine Below.alloc ?_ ?_ _) | (with_reducible refine Below.drew ?_) | (with_reducible refine Below.setCell ?_ ?_ _) | (with_reducible refine Below.trans ?_ (Below.mono (by assumption) ?_)) | (with_reducible exact Nat.le_refl _) | omega | (simp only [World.size_alloc, World.size_setCell, World.size_drew]; omega) | (simp; omega) | (simp; done))); done)))
    (first | (go_at_call 118; (with_reducible refine (J.call _).mono ?_); rintro e w3 ⟨rfl, rfl⟩))
  all_goals
    rename_i hHeld
    clear hHeld
    go_wp2
    go_ret
    refine ⟨a, some ⟨g, 0, Option.none⟩, l, ca, cb, cl, ⟨rfl, ?_, ?_, ?_, ?_⟩⟩
    · exact ((P1.out.other (by dsimp only; omega)).drew).drew
    · refine ⟨?_, ?_, ?_⟩
      · exact (LiesZ.other I1.out.sh HSH.out).drew.drew
      · refine Or.inr ⟨g, rfl, ?_⟩
        have h := L1.out.setAt (i := n * 2 + 1) (v := .complex .f32 x y) (by rw [bwCells_len, HLEN.out]; omega)
        rw [← HS.out] at h
        exact h.drew.drew
      · exact (LiesZ.other I1.out.lg HLG.out).drew.drew
    · exact ((G1.out.setCell (by dsimp only; omega) _).drew).drew
    · show w.heap.size ≤ _
      simp
      omega⟩
end Go.Proofs.YtfdgijmmgllmgaaGreat
