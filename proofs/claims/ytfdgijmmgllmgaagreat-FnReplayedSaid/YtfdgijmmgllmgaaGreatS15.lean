/-
  Texts Ud Tr Gt Ceq, joined.
-/
import Derived.Test.YtfdgijmmgllmgaaGreatS13
import Derived.WalkLawsBesides
import Derived.Test.YtfdgijmmgllmgaaGreatS10
import Derived.Deep.QuietTactic
import Derived.BigQuiet
import Derived.Test.YtfdgijmmgllmgaaGreatS11
import Derived.Test.YtfdgijmmgllmgaaGreatS06
import Derived.StillTailTactics
import Derived.Test.YtfdgijmmgllmgaaGreatS05
import Derived.Test.YtfdgijmmgllmgaaGreatS12
import Derived.Deep.RegionHeld3
namespace Go.Proofs.YtfdgijmmgllmgaaGreat
open Go.ChangeShapes Go.WideShapes Go.ChangeAt Go.RowKit Go.Joins
set_option linter.unusedSimpArgs false
set_option linter.unusedVariables false
set_option maxRecDepth 100000
attribute [local go_sem] store_f
open Ieee Go.Lib
attribute [local go_sem] store_c
/-- An event with nothing beside its own fields: what the program makes of it. -/
structure EvB (e : Evw) (T : TypeId) (v : Value) : Prop where
  call : ∀ w : World, Calls Tryz.prog 64 #[.agg #[.int .i64 e.kind, .int .i64 e.n, .complex .f32 e.z1 e.z2, .complex .f32 e.s.a1 e.s.a2, .complex .f32 e.s.b1 e.s.b2, .complex .f32 e.s.c1 e.s.c2, .float .f32 e.s.r, .float .f32 e.s.g, .float .f32 e.s.b, .float .f32 e.s.k, .float .f32 e.l.r, .float .f32 e.l.g, .float .f32 e.l.b]] w fun r w' => r = .returned (.tuple #[.iface T v, .agg #[.int .i64 e.kind, .int .i64 e.n, .complex .f32 e.z1 e.z2, .complex .f32 e.s.a1 e.s.a2, .complex .f32 e.s.b1 e.s.b2, .complex .f32 e.s.c1 e.s.c2, .float .f32 e.s.r, .float .f32 e.s.g, .float .f32 e.s.b, .float .f32 e.s.k, .float .f32 e.l.r, .float .f32 e.l.g, .float .f32 e.l.b], .bool true]) ∧ Below w.heap.size w w'
set_option maxHeartbeats 8000000 in
theorem byKind_add {s : Shd} {z1 z2 : Nat} : EvB ⟨1, 0, z1, z2, s, lit0⟩ 152 (.agg #[.complex .f32 s.a1 s.a2, .complex .f32 s.b1 s.b2, .complex .f32 s.c1 s.c2, .float .f32 s.r, .float .f32 s.g, .float .f32 s.b, .float .f32 s.k, .complex .f32 z1 z2]) := ⟨fun w => by
  show Calls _ _ #[.agg #[.int .i64 1, .int .i64 0, .complex .f32 z1 z2, .complex .f32 s.a1 s.a2, .complex .f32 s.b1 s.b2, .complex .f32 s.c1 s.c2, .float .f32 s.r, .float .f32 s.g, .float .f32 s.b, .float .f32 s.k, .float .f32 0, .float .f32 0, .float .f32 0]] _ fun r w' => r = .returned (.tuple #[.iface 152 (.agg #[.complex .f32 s.a1 s.a2, .complex .f32 s.b1 s.b2, .complex .f32 s.c1 s.c2, .float .f32 s.r, .float .f32 s.g, .float .f32 s.b, .float .f32 s.k, .complex .f32 z1 z2]), .agg #[.int .i64 1, .int .i64 0, .complex .f32 z1 z2, .complex .f32 s.a1 s.a2, .complex .f32 s.b1 s.b2, .complex .f32 s.c1 s.c2, .float .f32 s.r, .float .f32 s.g, .float .f32 s.b, .float .f32 s.k, .float .f32 0, .float .f32 0, .float .f32 0], .bool true]) ∧ Below w.heap.size w w'
  go_enter Tryz.func64, Tryz.ntmps64
  go_wp2_with fail
  go_region
  all_goals
    go_wp2
    exact bodyPost_ret (v := .tuple #[.iface 152 (.agg #[.complex .f32 s.a1 s.a2, .complex .f32 s.b1 s.b2, .complex .f32 s.c1 s.c2, .float .f32 s.r, .float .f32 s.g, .float .f32 s.b, .float .f32 s.k, .complex .f32 z1 z2]), .agg #[.int .i64 1, .int .i64 0, .complex .f32 z1 z2, .complex .f32 s.a1 s.a2, .complex .f32 s.b1 s.b2, .complex .f32 s.c1 s.c2, .float .f32 s.r, .float .f32 s.g, .float .f32 s.b, .float .f32 s.k, .float .f32 0, .float .f32 0, .float .f32 0], .bool true]) (by simp [results, Tryz.results64, go_sem]) rfl ⟨rfl, (((Below.refl _ _).alloc (Nat.le_refl _) _).alloc (by simp) _).drew⟩⟩
set_option maxHeartbeats 8000000 in
theorem byKind_take {n : Int} : EvB ⟨2, n, 0, 0, shd0, lit0⟩ 156 (.agg #[.int .i64 n]) := ⟨fun w => by
  show Calls _ _ #[.agg #[.int .i64 2, .int .i64 n, .complex .f32 0 0, .complex .f32 0 0, .complex .f32 0 0, .complex .f32 0 0, .float .f32 0, .float .f32 0, .float .f32 0, .float .f32 0, .float .f32 0, .float .f32 0, .float .f32 0]] _ fun r w' => r = .returned (.tuple #[.iface 156 (.agg #[.int .i64 n]), .agg #[.int .i64 2, .int .i64 n, .complex .f32 0 0, .complex .f32 0 0, .complex .f32 0 0, .complex .f32 0 0, .float .f32 0, .float .f32 0, .float .f32 0, .float .f32 0, .float .f32 0, .float .f32 0, .float .f32 0], .bool true]) ∧ Below w.heap.size w w'
  go_enter Tryz.func64, Tryz.ntmps64
  go_wp2_with fail
  go_region
  all_goals
    go_wp2
    exact bodyPost_ret (v := .tuple #[.iface 156 (.agg #[.int .i64 n]), .agg #[.int .i64 2, .int .i64 n, .complex .f32 0 0, .complex .f32 0 0, .complex .f32 0 0, .complex .f32 0 0, .float .f32 0, .float .f32 0, .float .f32 0, .float .f32 0, .float .f32 0, .float .f32 0, .float .f32 0], .bool true]) (by simp [results, Tryz.results64, go_sem]) rfl ⟨rfl, (((Below.refl _ _).alloc (Nat.le_refl _) _).alloc (by simp) _).drew⟩⟩
set_option maxHeartbeats 8000000 in
theorem byKind_light {c : Lit} : EvB ⟨3, 0, 0, 0, shd0, c⟩ 158 (.agg #[.float .f32 c.r, .float .f32 c.g, .float .f32 c.b]) := ⟨fun w => by
  show Calls _ _ #[.agg #[.int .i64 3, .int .i64 0, .complex .f32 0 0, .complex .f32 0 0, .complex .f32 0 0, .complex .f32 0 0, .float .f32 0, .float .f32 0, .float .f32 0, .float .f32 0, .float .f32 c.r, .float .f32 c.g, .float .f32 c.b]] _ fun r w' => r = .returned (.tuple #[.iface 158 (.agg #[.float .f32 c.r, .float .f32 c.g, .float .f32 c.b]), .agg #[.int .i64 3, .int .i64 0, .complex .f32 0 0, .complex .f32 0 0, .complex .f32 0 0, .complex .f32 0 0, .float .f32 0, .float .f32 0, .float .f32 0, .float .f32 0, .float .f32 c.r, .float .f32 c.g, .float .f32 c.b], .bool true]) ∧ Below w.heap.size w w'
  go_enter Tryz.func64, Tryz.ntmps64
  go_wp2_with fail
  go_region
  all_goals
    go_wp2
    exact bodyPost_ret (v := .tuple #[.iface 158 (.agg #[.float .f32 c.r, .float .f32 c.g, .float .f32 c.b]), .agg #[.int .i64 3, .int .i64 0, .complex .f32 0 0, .complex .f32 0 0, .complex .f32 0 0, .complex .f32 0 0, .float .f32 0, .float .f32 0, .float .f32 0, .float .f32 0, .float .f32 c.r, .float .f32 c.g, .float .f32 c.b], .bool true]) (by simp [results, Tryz.results64, go_sem]) rfl ⟨rfl, (((Below.refl _ _).alloc (Nat.le_refl _) _).alloc (by simp) _).drew⟩⟩
set_option maxHeartbeats 8000000 in
theorem byKind_mirrors {n : Int} : EvB ⟨4, n, 0, 0, shd0, lit0⟩ 160 (.agg #[.int .i64 n]) := ⟨fun w => by
  show Calls _ _ #[.agg #[.int .i64 4, .int .i64 n, .complex .f32 0 0, .complex .f32 0 0, .complex .f32 0 0, .complex .f32 0 0, .float .f32 0, .float .f32 0, .float .f32 0, .float .f32 0, .float .f32 0, .float .f32 0, .float .f32 0]] _ fun r w' => r = .returned (.tuple #[.iface 160 (.agg #[.int .i64 n]), .agg #[.int .i64 4, .int .i64 n, .complex .f32 0 0, .complex .f32 0 0, .complex .f32 0 0, .complex .f32 0 0, .float .f32 0, .float .f32 0, .float .f32 0, .float .f32 0, .float .f32 0, .float .f32 0, .float .f32 0], .bool true]) ∧ Below w.heap.size w w'
  go_enter Tryz.func64, Tryz.ntmps64
  go_wp2_with fail
  go_region
  all_goals
    go_wp2
    exact bodyPost_ret (v := .tuple #[.iface 160 (.agg #[.int .i64 n]), .agg #[.int .i64 4, .int .i64 n, .complex .f32 0 0, .complex .f32 0 0, .complex .f32 0 0, .complex .f32 0 0, .float .f32 0, .float .f32 0, .float .f32 0, .float .f32 0, .float .f32 0, .float .f32 0, .float .f32 0], .bool true]) (by simp [results, Tryz.results64, go_sem]) rfl ⟨rfl, (((Below.refl _ _).alloc (Nat.le_refl _) _).alloc (by simp) _).drew⟩⟩
set_option maxHeartbeats 8000000 in
theorem byKind_gravity {z1 z2 : Nat} : EvB ⟨5, 0, z1, z2, shd0, lit0⟩ 162 (.agg #[.complex .f32 z1 z2]) := ⟨fun w => by
  show Calls _ _ #[.agg #[.int .i64 5, .int .i64 0, .complex .f32 z1 z2, .complex .f32 0 0, .complex .f32 0 0, .complex .f32 0 0, .float .f32 0, .float .f32 0, .float .f32 0, .float .f32 0, .float .f32 0, .float .f32 0, .float .f32 0]] _ fun r w' => r = .returned (.tuple #[.iface 162 (.agg #[.complex .f32 z1 z2]), .agg #[.int .i64 5, .int .i64 0, .complex .f32 z1 z2, .complex .f32 0 0, .complex .f32 0 0, .complex .f32 0 0, .float .f32 0, .float .f32 0, .float .f32 0, .float .f32 0, .float .f32 0, .float .f32 0, .float .f32 0], .bool true]) ∧ Below w.heap.size w w'
  go_enter Tryz.func64, Tryz.ntmps64
  go_wp2_with fail
  go_region
  all_goals
    go_wp2
    exact bodyPost_ret (v := .tuple #[.iface 162 (.agg #[.complex .f32 z1 z2]), .agg #[.int .i64 5, .int .i64 0, .complex .f32 z1 z2, .complex .f32 0 0, .complex .f32 0 0, .complex .f32 0 0, .float .f32 0, .float .f32 0, .float .f32 0, .float .f32 0, .float .f32 0, .float .f32 0, .float .f32 0], .bool true]) (by simp [results, Tryz.results64, go_sem]) rfl ⟨rfl, (((Below.refl _ _).alloc (Nat.le_refl _) _).alloc (by simp) _).drew⟩⟩
set_option maxHeartbeats 8000000 in
theorem byKind_push {n : Int} {z1 z2 : Nat} : EvB ⟨6, n, z1, z2, shd0, lit0⟩ 164 (.agg #[.int .i64 n, .complex .f32 z1 z2]) := ⟨fun w => by
  show Calls _ _ #[.agg #[.int .i64 6, .int .i64 n, .complex .f32 z1 z2, .complex .f32 0 0, .complex .f32 0 0, .complex .f32 0 0, .float .f32 0, .float .f32 0, .float .f32 0, .float .f32 0, .float .f32 0, .float .f32 0, .float .f32 0]] _ fun r w' => r = .returned (.tuple #[.iface 164 (.agg #[.int .i64 n, .complex .f32 z1 z2]), .agg #[.int .i64 6, .int .i64 n, .complex .f32 z1 z2, .complex .f32 0 0, .complex .f32 0 0, .complex .f32 0 0, .float .f32 0, .float .f32 0, .float .f32 0, .float .f32 0, .float .f32 0, .float .f32 0, .float .f32 0], .bool true]) ∧ Below w.heap.size w w'
  go_enter Tryz.func64, Tryz.ntmps64
  go_wp2_with fail
  go_region
  all_goals
    go_wp2
    exact bodyPost_ret (v := .tuple #[.iface 164 (.agg #[.int .i64 n, .complex .f32 z1 z2]), .agg #[.int .i64 6, .int .i64 n, .complex .f32 z1 z2, .complex .f32 0 0, .complex .f32 0 0, .complex .f32 0 0, .float .f32 0, .float .f32 0, .float .f32 0, .float .f32 0, .float .f32 0, .float .f32 0, .float .f32 0], .bool true]) (by simp [results, Tryz.results64, go_sem]) rfl ⟨rfl, (((Below.refl _ _).alloc (Nat.le_refl _) _).alloc (by simp) _).drew⟩⟩
set_option maxHeartbeats 8000000 in
theorem byKind_wait {n : Int} : EvB ⟨7, n, 0, 0, shd0, lit0⟩ 166 (.agg #[.int .i64 n]) := ⟨fun w => by
  show Calls _ _ #[.agg #[.int .i64 7, .int .i64 n, .complex .f32 0 0, .complex .f32 0 0, .complex .f32 0 0, .complex .f32 0 0, .float .f32 0, .float .f32 0, .float .f32 0, .float .f32 0, .float .f32 0, .float .f32 0, .float .f32 0]] _ fun r w' => r = .returned (.tuple #[.iface 166 (.agg #[.int .i64 n]), .agg #[.int .i64 7, .int .i64 n, .complex .f32 0 0, .complex .f32 0 0, .complex .f32 0 0, .complex .f32 0 0, .float .f32 0, .float .f32 0, .float .f32 0, .float .f32 0, .float .f32 0, .float .f32 0, .float .f32 0], .bool true]) ∧ Below w.heap.size w w'
  go_enter Tryz.func64, Tryz.ntmps64
  go_wp2_with fail
  go_region
  all_goals
    go_wp2
    exact bodyPost_ret (v := .tuple #[.iface 166 (.agg #[.int .i64 n]), .agg #[.int .i64 7, .int .i64 n, .complex .f32 0 0, .complex .f32 0 0, .complex .f32 0 0, .complex .f32 0 0, .float .f32 0, .float .f32 0, .float .f32 0, .float .f32 0, .float .f32 0, .float .f32 0, .float .f32 0], .bool true]) (by simp [results, Tryz.results64, go_sem]) rfl ⟨rfl, (((Below.refl _ _).alloc (Nat.le_refl _) _).alloc (by simp) _).drew⟩⟩
end Go.Proofs.YtfdgijmmgllmgaaGreat
namespace Go.Proofs.YtfdgijmmgllmgaaGreat
open Go.ChangeShapes Go.WideShapes Go.ChangeAt Go.RowKit Go.Joins
set_option linter.unusedSimpArgs false
set_option linter.unusedVariables false
set_option maxRecDepth 100000
attribute [local go_sem] store_f
open Ieee Go.Lib
attribute [local go_sem] store_c
theorem run_equalIn_c (P : Program) (w : World) (d : Nat) (t : TypeId) (a b x y : Nat) (h : P.underlying t = some (.complex .f32)) : (Op.equalIn (d + 1) t (.complex .f32 a b) (.complex .f32 x y)).run P w = .ok ((FloatKind.f32.format.order a x == some .eq) && (FloatKind.f32.format.order b y == some .eq)) w := by
  simp [Op.equalIn, run_underlying h, Op.floatEq]
attribute [local go_sem] run_equalIn_c
structure Bw.Fin (b : Bw) : Prop where
  a1 : Fin32 b.a1
  a2 : Fin32 b.a2
  v1 : Fin32 b.v1
  v2 : Fin32 b.v2
theorem run_eq_bead {b : Bw} (h : b.Fin) (w : World) : (Op.equalIn 10000 59 (.agg #[.complex .f32 b.a1 b.a2, .complex .f32 b.v1 b.v2]) (.agg #[.complex .f32 b.a1 b.a2, .complex .f32 b.v1 b.v2])).run Tryz.prog w = .ok true w := by
  have u := Tryz.underlying28
  have a24 := Tryz.isAgg28
  have z24 := Tryz.sizeOf28
  have hS : Tryz.prog.underlying 59 = some (.struct (Tryz.prog.fieldsOf 59)) := by kernel_rfl
  have hp : Tryz.prog.stoodInHeld 59 = false := by kernel_rfl
  have e1 := order_self h.a1
  have e2 := order_self h.a2
  have e3 := order_self h.v1
  have e4 := order_self h.v2
  rw [show (10000 : Nat) = 9999 + 1 from rfl, run_equalIn_agg w 9999 59 _ _ hS hp]
  simp only [Program.fieldsOf, Tryz.underlying59]
  go_simp
structure EqBs (L : List Bw) : Prop where
  call : ∀ (w : World) (a b : Option Addr) (ca cb : Nat), BwIn w a L → BwIn w b L → Calls Tryz.prog 38 #[.slice a L.length ca, .slice b L.length cb] w fun e w' => e = .returned (.bool true) ∧ Below w.heap.size w w'
set_option maxHeartbeats 8000000 in
theorem eqBs {L : List Bw} (hn : L.length ≤ 8) (hf : ∀ b ∈ L, b.Fin) : EqBs L := ⟨fun w a b ca cb h1 h2 => by
  have R1 := Lib.hid h1
  have R2 := Lib.hid h2
  have HF := Lib.hid hf
  obtain ⟨N, hN⟩ : ∃ N, N = L.length := ⟨_, rfl⟩
  have HN := Lib.hid hN
  rw [← hN] at hn ⊢
  clear h1 h2 hf hN
  go_enter Tryz.func38, Tryz.ntmps38
  go_wp2_with fail
  go_loopw [13] (fun i wr => ∃ j : Nat, j ≤ N ∧ i = .int .i64 j ∧ Below w.heap.size w wr) (fun i _ => N - (intOf i).toNat)
  case atStart => exact ⟨0, by omega, rfl, Below.refl _ _⟩
  case round =>
    obtain ⟨j, hj, rfl, hbel⟩ := hrel
    by_cases hlt : j < N
    · rcases R1.out with hnil | ⟨g, rfl, hr1⟩
      · exfalso; have := HN.out; rw [hnil] at this; simp at this; omega
      rcases R2.out with hnil | ⟨k, rfl, hr2⟩
      · exfalso; have := HN.out; rw [hnil] at this; simp at this; omega
      obtain ⟨c0, c1⟩ := hr1.below hbel j (by have := HN.out; omega)
      obtain ⟨d0, d1⟩ := hr2.below hbel j (by have := HN.out; omega)
      have op := fun w => run_eq_bead (HF.out (L.getD j default) (getD_mem (by have := HN.out; omega))) w
      generalize L.getD j default = s at *
      have hj0 : (0 : Int) ≤ (j : Int) := by omega
      have hj1 : (j : Int) < (N : Int) := by omega
      clear hr1 hr2
      go_wp2_with fail
      go_quiet (fail)
      go_wp2
      have hds := hbel.size
      go_roundw
      case rel => exact ⟨j + 1, by omega, by go_num, hbel.trans (below_draws _ _ _)⟩
      case measure => simp [intOf]; omega
    · have hjm : j = N := by omega
      subst hjm
      go_wp2
      go_ret
      exact ⟨rfl, hbel⟩⟩
structure SameT (kind : Int) (g1 g2 ls N : Nat) (L : List Bw) : Prop where
  call : ∀ (w : World) (a b : Option Addr) (ca cb : Nat), BwIn w a L → BwIn w b L → Calls Tryz.prog 15 #[.agg #[.int .i64 kind, .complex .f32 g1 g2, .float .f32 ls, .slice a N ca], .agg #[.int .i64 kind, .complex .f32 g1 g2, .float .f32 ls, .slice b N cb]] w fun e w' => e = .returned (.bool true) ∧ Below w.heap.size w w'
set_option maxHeartbeats 8000000 in
theorem sameT {kind : Int} {g1 g2 ls N : Nat} {L : List Bw} (hL : L.length = N) (hn : N ≤ 8) (hf : ∀ b ∈ L, b.Fin) (f1 : Fin32 g1) (f2 : Fin32 g2) (f3 : Fin32 ls) : SameT kind g1 g2 ls N L := ⟨fun w a b ca cb h1 h2 => by
  have E := (eqBs (L := L) (by omega) hf).call
  rw [hL] at E
  have HE := Lib.hid E
  have e1 := order_self f1
  have e2 := order_self f2
  have e3 := order_self f3
  have R1 : Hid (BwIn ((w.alloc (.cells #[.int .i64 kind, .complex .f32 g1 g2, .float .f32 ls, .slice a N ca] 31)).alloc (.cells #[.int .i64 kind, .complex .f32 g1 g2, .float .f32 ls, .slice b N cb] 31)) a L) := h1.alloc.alloc
  have R2 : Hid (BwIn ((w.alloc (.cells #[.int .i64 kind, .complex .f32 g1 g2, .float .f32 ls, .slice a N ca] 31)).alloc (.cells #[.int .i64 kind, .complex .f32 g1 g2, .float .f32 ls, .slice b N cb] 31)) b L) := h2.alloc.alloc
  have hop : ∀ w, (binOp .eql 28 (.complex .f32 g1 g2) (.complex .f32 g1 g2)).run Tryz.prog w = .ok (.bool true) w := fun w => by rw [run_eql_complex, e1, e2]; rfl
  clear h1 h2 hf f1 f2 f3 e1 e2 E hL
  go_enter Tryz.func15, Tryz.ntmps15
  go_wp2_with (simp only [hop])
  refine (HE.out _ _ _ _ _ R1.out R2.out).mono ?_
  rintro e w2 ⟨rfl, hb⟩
  have HB := Lib.hid hb
  clear hb
  go_wp2
  go_ret
  exact ⟨rfl, by have hb := HB.out; (repeat' (first | (with_reducible exact Below.refl _ _) | (with_reducible assumption) | (with_reducible refine Below.alloc ?_ ?_ _) | (with_reducible refine Below.drew ?_) | (with_reducible refine Below.setCell ?_ ?_ _) | (with_reducible refine Below.trans ?_ (Below.mono (by assumption) ?_)) | (with_reducible exact Nat.le_refl _) | omega | (simp only [World.size_alloc, World.size_setCell, World.size_drew]; omega) | (simp; omega) | (simp; done)))⟩⟩
end Go.Proofs.YtfdgijmmgllmgaaGreat
namespace Go.Proofs.YtfdgijmmgllmgaaGreat
open Go.ChangeShapes Go.WideShapes Go.ChangeAt Go.RowKit Go.Joins
set_option linter.unusedSimpArgs false
set_option linter.unusedVariables false
set_option maxRecDepth 100000
attribute [local go_sem] store_f
open Ieee
attribute [local go_sem] store_c
theorem colYes {r g b : Nat} (hr : Part r) (hg : Part g) (hb : Part b) : ColIs r g b true := by
  have h := colIs r g b
  rwa [parts_col hr hg hb] at h
end Go.Proofs.YtfdgijmmgllmgaaGreat
namespace Go.Proofs.YtfdgijmmgllmgaaGreat
open Go.ChangeShapes Go.WideShapes Go.ChangeAt Go.RowKit Go.Joins
set_option linter.unusedSimpArgs false
set_option linter.unusedVariables false
set_option maxRecDepth 100000
attribute [local go_sem] store_f
open Ieee
theorem run_equalIn_g (P : Program) (w : World) (d : Nat) (t : TypeId) (a b : Nat) (h : P.underlying t = some (.float .f32)) : (Op.equalIn (d + 1) t (.float .f32 a) (.float .f32 b)).run P w = .ok (FloatKind.f32.format.order a b == some .eq) w := by
  simp [Op.equalIn, run_underlying h, Op.floatEq]
attribute [local go_sem] run_equalIn_g
end Go.Proofs.YtfdgijmmgllmgaaGreat
