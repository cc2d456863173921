/-
  Texts Ud Tr Cconv Cs Ct CeFilter, joined.
-/
import Derived.Test.YtfdgijmmgllmgaaGreatDoorS12
import Derived.WalkLawsBesides
import Derived.Test.YtfdgijmmgllmgaaGreatDoorS08
import Derived.Deep.QuietTactic
import Derived.BigQuiet
import Derived.Test.YtfdgijmmgllmgaaGreatDoorS09
import Derived.Test.YtfdgijmmgllmgaaGreatDoorS06
namespace Go.Proofs.YtfdgijmmgllmgaaGreatDoor
open Go.ChangeShapes Go.WideShapes Go.ChangeAt Go.RowKit Go.Joins
set_option linter.unusedSimpArgs false
set_option linter.unusedVariables false
set_option maxRecDepth 100000
attribute [local go_sem] store_f
open Ieee Go.Lib
attribute [local go_sem] store_c
structure EvB (e : Evw) (T : TypeId) (v : Value) : Prop where
  call : ∀ w : World, Calls Tryz.prog 140 #[.agg #[.int .i64 e.kind, .int .i64 e.n, .complex .f32 e.z1 e.z2, .complex .f32 e.s.a1 e.s.a2, .complex .f32 e.s.b1 e.s.b2, .complex .f32 e.s.c1 e.s.c2, .float .f32 e.s.r, .float .f32 e.s.g, .float .f32 e.s.b, .float .f32 e.s.k, .float .f32 e.l.r, .float .f32 e.l.g, .float .f32 e.l.b]] w fun r w' => r = .returned (.tuple #[.iface T v, .agg #[.int .i64 e.kind, .int .i64 e.n, .complex .f32 e.z1 e.z2, .complex .f32 e.s.a1 e.s.a2, .complex .f32 e.s.b1 e.s.b2, .complex .f32 e.s.c1 e.s.c2, .float .f32 e.s.r, .float .f32 e.s.g, .float .f32 e.s.b, .float .f32 e.s.k, .float .f32 e.l.r, .float .f32 e.l.g, .float .f32 e.l.b], .bool true]) ∧ Below w.heap.size w w'
set_option maxHeartbeats 8000000 in
theorem byKind_add {s : Shd} {z1 z2 : Nat} : EvB ⟨1, 0, z1, z2, s, lit0⟩ 206 (.agg #[.complex .f32 s.a1 s.a2, .complex .f32 s.b1 s.b2, .complex .f32 s.c1 s.c2, .float .f32 s.r, .float .f32 s.g, .float .f32 s.b, .float .f32 s.k, .complex .f32 z1 z2]) := ⟨fun w => by
  show Calls _ _ #[.agg #[.int .i64 1, .int .i64 0, .complex .f32 z1 z2, .complex .f32 s.a1 s.a2, .complex .f32 s.b1 s.b2, .complex .f32 s.c1 s.c2, .float .f32 s.r, .float .f32 s.g, .float .f32 s.b, .float .f32 s.k, .float .f32 0, .float .f32 0, .float .f32 0]] _ fun r w' => r = .returned (.tuple #[.iface 206 (.agg #[.complex .f32 s.a1 s.a2, .complex .f32 s.b1 s.b2, .complex .f32 s.c1 s.c2, .float .f32 s.r, .float .f32 s.g, .float .f32 s.b, .float .f32 s.k, .complex .f32 z1 z2]), .agg #[.int .i64 1, .int .i64 0, .complex .f32 z1 z2, .complex .f32 s.a1 s.a2, .complex .f32 s.b1 s.b2, .complex .f32 s.c1 s.c2, .float .f32 s.r, .float .f32 s.g, .float .f32 s.b, .float .f32 s.k, .float .f32 0, .float .f32 0, .float .f32 0], .bool true]) ∧ Below w.heap.size w w'
  go_enter Tryz.func140, Tryz.ntmps140
  go_wp2_with fail
  go_region
  all_goals
    go_wp2
    exact bodyPost_ret (v := .tuple #[.iface 206 (.agg #[.complex .f32 s.a1 s.a2, .complex .f32 s.b1 s.b2, .complex .f32 s.c1 s.c2, .float .f32 s.r, .float .f32 s.g, .float .f32 s.b, .float .f32 s.k, .complex .f32 z1 z2]), .agg #[.int .i64 1, .int .i64 0, .complex .f32 z1 z2, .complex .f32 s.a1 s.a2, .complex .f32 s.b1 s.b2, .complex .f32 s.c1 s.c2, .float .f32 s.r, .float .f32 s.g, .float .f32 s.b, .float .f32 s.k, .float .f32 0, .float .f32 0, .float .f32 0], .bool true]) (by simp [results, Tryz.results140, go_sem]) rfl ⟨rfl, (((Below.refl _ _).alloc (Nat.le_refl _) _).alloc (by simp) _).drew⟩⟩
set_option maxHeartbeats 8000000 in
theorem byKind_take {n : Int} : EvB ⟨2, n, 0, 0, shd0, lit0⟩ 210 (.agg #[.int .i64 n]) := ⟨fun w => by
  show Calls _ _ #[.agg #[.int .i64 2, .int .i64 n, .complex .f32 0 0, .complex .f32 0 0, .complex .f32 0 0, .complex .f32 0 0, .float .f32 0, .float .f32 0, .float .f32 0, .float .f32 0, .float .f32 0, .float .f32 0, .float .f32 0]] _ fun r w' => r = .returned (.tuple #[.iface 210 (.agg #[.int .i64 n]), .agg #[.int .i64 2, .int .i64 n, .complex .f32 0 0, .complex .f32 0 0, .complex .f32 0 0, .complex .f32 0 0, .float .f32 0, .float .f32 0, .float .f32 0, .float .f32 0, .float .f32 0, .float .f32 0, .float .f32 0], .bool true]) ∧ Below w.heap.size w w'
  go_enter Tryz.func140, Tryz.ntmps140
  go_wp2_with fail
  go_region
  all_goals
    go_wp2
    exact bodyPost_ret (v := .tuple #[.iface 210 (.agg #[.int .i64 n]), .agg #[.int .i64 2, .int .i64 n, .complex .f32 0 0, .complex .f32 0 0, .complex .f32 0 0, .complex .f32 0 0, .float .f32 0, .float .f32 0, .float .f32 0, .float .f32 0, .float .f32 0, .float .f32 0, .float .f32 0], .bool true]) (by simp [results, Tryz.results140, go_sem]) rfl ⟨rfl, (((Below.refl _ _).alloc (Nat.le_refl _) _).alloc (by simp) _).drew⟩⟩
set_option maxHeartbeats 8000000 in
theorem byKind_light {c : Lit} : EvB ⟨3, 0, 0, 0, shd0, c⟩ 212 (.agg #[.float .f32 c.r, .float .f32 c.g, .float .f32 c.b]) := ⟨fun w => by
  show Calls _ _ #[.agg #[.int .i64 3, .int .i64 0, .complex .f32 0 0, .complex .f32 0 0, .complex .f32 0 0, .complex .f32 0 0, .float .f32 0, .float .f32 0, .float .f32 0, .float .f32 0, .float .f32 c.r, .float .f32 c.g, .float .f32 c.b]] _ fun r w' => r = .returned (.tuple #[.iface 212 (.agg #[.float .f32 c.r, .float .f32 c.g, .float .f32 c.b]), .agg #[.int .i64 3, .int .i64 0, .complex .f32 0 0, .complex .f32 0 0, .complex .f32 0 0, .complex .f32 0 0, .float .f32 0, .float .f32 0, .float .f32 0, .float .f32 0, .float .f32 c.r, .float .f32 c.g, .float .f32 c.b], .bool true]) ∧ Below w.heap.size w w'
  go_enter Tryz.func140, Tryz.ntmps140
  go_wp2_with fail
  go_region
  all_goals
    go_wp2
    exact bodyPost_ret (v := .tuple #[.iface 212 (.agg #[.float .f32 c.r, .float .f32 c.g, .float .f32 c.b]), .agg #[.int .i64 3, .int .i64 0, .complex .f32 0 0, .complex .f32 0 0, .complex .f32 0 0, .complex .f32 0 0, .float .f32 0, .float .f32 0, .float .f32 0, .float .f32 0, .float .f32 c.r, .float .f32 c.g, .float .f32 c.b], .bool true]) (by simp [results, Tryz.results140, go_sem]) rfl ⟨rfl, (((Below.refl _ _).alloc (Nat.le_refl _) _).alloc (by simp) _).drew⟩⟩
set_option maxHeartbeats 8000000 in
theorem byKind_mirrors {n : Int} : EvB ⟨4, n, 0, 0, shd0, lit0⟩ 214 (.agg #[.int .i64 n]) := ⟨fun w => by
  show Calls _ _ #[.agg #[.int .i64 4, .int .i64 n, .complex .f32 0 0, .complex .f32 0 0, .complex .f32 0 0, .complex .f32 0 0, .float .f32 0, .float .f32 0, .float .f32 0, .float .f32 0, .float .f32 0, .float .f32 0, .float .f32 0]] _ fun r w' => r = .returned (.tuple #[.iface 214 (.agg #[.int .i64 n]), .agg #[.int .i64 4, .int .i64 n, .complex .f32 0 0, .complex .f32 0 0, .complex .f32 0 0, .complex .f32 0 0, .float .f32 0, .float .f32 0, .float .f32 0, .float .f32 0, .float .f32 0, .float .f32 0, .float .f32 0], .bool true]) ∧ Below w.heap.size w w'
  go_enter Tryz.func140, Tryz.ntmps140
  go_wp2_with fail
  go_region
  all_goals
    go_wp2
    exact bodyPost_ret (v := .tuple #[.iface 214 (.agg #[.int .i64 n]), .agg #[.int .i64 4, .int .i64 n, .complex .f32 0 0, .complex .f32 0 0, .complex .f32 0 0, .complex .f32 0 0, .float .f32 0, .float .f32 0, .float .f32 0, .float .f32 0, .float .f32 0, .float .f32 0, .float .f32 0], .bool true]) (by simp [results, Tryz.results140, go_sem]) rfl ⟨rfl, (((Below.refl _ _).alloc (Nat.le_refl _) _).alloc (by simp) _).drew⟩⟩
set_option maxHeartbeats 8000000 in
theorem byKind_gravity {z1 z2 : Nat} : EvB ⟨5, 0, z1, z2, shd0, lit0⟩ 216 (.agg #[.complex .f32 z1 z2]) := ⟨fun w => by
  show Calls _ _ #[.agg #[.int .i64 5, .int .i64 0, .complex .f32 z1 z2, .complex .f32 0 0, .complex .f32 0 0, .complex .f32 0 0, .float .f32 0, .float .f32 0, .float .f32 0, .float .f32 0, .float .f32 0, .float .f32 0, .float .f32 0]] _ fun r w' => r = .returned (.tuple #[.iface 216 (.agg #[.complex .f32 z1 z2]), .agg #[.int .i64 5, .int .i64 0, .complex .f32 z1 z2, .complex .f32 0 0, .complex .f32 0 0, .complex .f32 0 0, .float .f32 0, .float .f32 0, .float .f32 0, .float .f32 0, .float .f32 0, .float .f32 0, .float .f32 0], .bool true]) ∧ Below w.heap.size w w'
  go_enter Tryz.func140, Tryz.ntmps140
  go_wp2_with fail
  go_region
  all_goals
    go_wp2
    exact bodyPost_ret (v := .tuple #[.iface 216 (.agg #[.complex .f32 z1 z2]), .agg #[.int .i64 5, .int .i64 0, .complex .f32 z1 z2, .complex .f32 0 0, .complex .f32 0 0, .complex .f32 0 0, .float .f32 0, .float .f32 0, .float .f32 0, .float .f32 0, .float .f32 0, .float .f32 0, .float .f32 0], .bool true]) (by simp [results, Tryz.results140, go_sem]) rfl ⟨rfl, (((Below.refl _ _).alloc (Nat.le_refl _) _).alloc (by simp) _).drew⟩⟩
set_option maxHeartbeats 8000000 in
theorem byKind_push {n : Int} {z1 z2 : Nat} : EvB ⟨6, n, z1, z2, shd0, lit0⟩ 218 (.agg #[.int .i64 n, .complex .f32 z1 z2]) := ⟨fun w => by
  show Calls _ _ #[.agg #[.int .i64 6, .int .i64 n, .complex .f32 z1 z2, .complex .f32 0 0, .complex .f32 0 0, .complex .f32 0 0, .float .f32 0, .float .f32 0, .float .f32 0, .float .f32 0, .float .f32 0, .float .f32 0, .float .f32 0]] _ fun r w' => r = .returned (.tuple #[.iface 218 (.agg #[.int .i64 n, .complex .f32 z1 z2]), .agg #[.int .i64 6, .int .i64 n, .complex .f32 z1 z2, .complex .f32 0 0, .complex .f32 0 0, .complex .f32 0 0, .float .f32 0, .float .f32 0, .float .f32 0, .float .f32 0, .float .f32 0, .float .f32 0, .float .f32 0], .bool true]) ∧ Below w.heap.size w w'
  go_enter Tryz.func140, Tryz.ntmps140
  go_wp2_with fail
  go_region
  all_goals
    go_wp2
    exact bodyPost_ret (v := .tuple #[.iface 218 (.agg #[.int .i64 n, .complex .f32 z1 z2]), .agg #[.int .i64 6, .int .i64 n, .complex .f32 z1 z2, .complex .f32 0 0, .complex .f32 0 0, .complex .f32 0 0, .float .f32 0, .float .f32 0, .float .f32 0, .float .f32 0, .float .f32 0, .float .f32 0, .float .f32 0], .bool true]) (by simp [results, Tryz.results140, go_sem]) rfl ⟨rfl, (((Below.refl _ _).alloc (Nat.le_refl _) _).alloc (by simp) _).drew⟩⟩
set_option maxHeartbeats 8000000 in
theorem byKind_wait {n : Int} : EvB ⟨7, n, 0, 0, shd0, lit0⟩ 220 (.agg #[.int .i64 n]) := ⟨fun w => by
  show Calls _ _ #[.agg #[.int .i64 7, .int .i64 n, .complex .f32 0 0, .complex .f32 0 0, .complex .f32 0 0, .complex .f32 0 0, .float .f32 0, .float .f32 0, .float .f32 0, .float .f32 0, .float .f32 0, .float .f32 0, .float .f32 0]] _ fun r w' => r = .returned (.tuple #[.iface 220 (.agg #[.int .i64 n]), .agg #[.int .i64 7, .int .i64 n, .complex .f32 0 0, .complex .f32 0 0, .complex .f32 0 0, .complex .f32 0 0, .float .f32 0, .float .f32 0, .float .f32 0, .float .f32 0, .float .f32 0, .float .f32 0, .float .f32 0], .bool true]) ∧ Below w.heap.size w w'
  go_enter Tryz.func140, Tryz.ntmps140
  go_wp2_with fail
  go_region
  all_goals
    go_wp2
    exact bodyPost_ret (v := .tuple #[.iface 220 (.agg #[.int .i64 n]), .agg #[.int .i64 7, .int .i64 n, .complex .f32 0 0, .complex .f32 0 0, .complex .f32 0 0, .complex .f32 0 0, .float .f32 0, .float .f32 0, .float .f32 0, .float .f32 0, .float .f32 0, .float .f32 0, .float .f32 0], .bool true]) (by simp [results, Tryz.results140, go_sem]) rfl ⟨rfl, (((Below.refl _ _).alloc (Nat.le_refl _) _).alloc (by simp) _).drew⟩⟩
end Go.Proofs.YtfdgijmmgllmgaaGreatDoor
namespace Go.Proofs.YtfdgijmmgllmgaaGreatDoor
open Go.ChangeShapes Go.WideShapes Go.ChangeAt Go.RowKit Go.Joins
set_option linter.unusedSimpArgs false
set_option linter.unusedVariables false
set_option maxRecDepth 100000
attribute [local go_sem] store_f
open Ieee Go.Lib
attribute [local go_sem] store_c
theorem run_equalIn_c (P : Program) (w : World) (d : Nat) (t : TypeId) (a b x y : Nat) (h : P.underlying t = some (.complex .f32)) : (Op.equalIn (d + 1) t (.complex .f32 a b) (.complex .f32 x y)).run P w = .ok ((FloatKind.f32.format.order a x == some .eq) && (FloatKind.f32.format.order b y == some .eq)) w := by
  simp [Op.equalIn, run_underlying h, Op.floatEq]
attribute [local go_sem] run_equalIn_c
structure Bw.Fin (b : Bw) : Prop where
  a1 : Fin32 b.a1
  a2 : Fin32 b.a2
  v1 : Fin32 b.v1
  v2 : Fin32 b.v2
end Go.Proofs.YtfdgijmmgllmgaaGreatDoor
namespace Go.Proofs.YtfdgijmmgllmgaaGreatDoor
open Ieee
abbrev F64 : Format := FloatKind.f64.format
theorem F64_sw : F64.signWeight = 9223372036854775808 := by kernel_rfl
theorem F64_inf : F64.infRung = 9218868437227405312 := by kernel_rfl
theorem F64_bin : F64.binade = 4503599627370496 := by kernel_rfl
theorem F64_lp : F64.leastPlace = -(1074 : Nat) := by kernel_rfl
def Fin64 (x : Nat) : Prop := rungOf F64 x < F64.infRung
theorem mag_exact (f : Format) {m P : Nat} (h : m < 2 * f.binade) : magOf f (rn f (m * 2 ^ P) 0) = m * 2 ^ P := by
  rcases Nat.eq_zero_or_pos m with e | e
  · subst e
    have : rn f (0 * 2 ^ P) 0 ≤ 0 := rn_le f (by simp)
    have : rn f (0 * 2 ^ P) 0 = 0 := by omega
    rw [this, magOf_zero]; simp
  · rw [magOf_rn, log2_shift (by omega)]
    have h1 : m.log2 ≤ f.fractionBits := by
      have : m.log2 < f.fractionBits + 1 := (Nat.log2_lt (by omega)).2 (by rw [Nat.pow_succ, Nat.mul_comm]; exact h)
      omega
    generalize hu : m.log2 + P - (f.fractionBits + 0) = u
    have hle : u ≤ P := by omega
    have e2 : m * 2 ^ P = m * 2 ^ (P - u) * 2 ^ u := by rw [Nat.mul_assoc, ← Nat.pow_add, Nat.sub_add_cancel hle]
    rw [e2, Nat.zero_add]
    have h2 := cutAt_le (n := m * 2 ^ (P - u) * 2 ^ u) (g := 2 ^ u) (K := m * 2 ^ (P - u)) (Nat.two_pow_pos u) (Nat.le_refl _)
    have h3 := cutAt_ge (n := m * 2 ^ (P - u) * 2 ^ u) (g := 2 ^ u) (K := m * 2 ^ (P - u)) (Nat.two_pow_pos u) (Nat.le_refl _)
    rw [Nat.le_antisymm h2 h3]
theorem up_le {x : Nat} (h : Fin32 x) : upOf F32 (rungOf F32 x) ≤ 253 := by
  have h1 : rungOf F32 x < F32.infRung := h
  unfold upOf
  rw [F32_inf] at h1
  rw [F32_bin]
  omega
theorem sig_lt (x : Nat) : sigOf F32 (rungOf F32 x) < 16777216 := by
  have := sigOf_lt F32 (rungOf F32 x)
  rw [F32_bin] at this
  omega
def wrung (x : Nat) : Nat := rn F64 (magOf F32 (rungOf F32 x) * 2 ^ 925) 0
def prung (N : Nat) : Nat := rn F64 (N * 2 ^ 776) 0
theorem one_scale (s u k : Nat) : s * 2 ^ u * 2 ^ k = s * 2 ^ (u + k) := by rw [Nat.mul_assoc, ← Nat.pow_add]
theorem two_scales (x y a b c : Nat) (h : a + a = b + c) : x * 2 ^ a * (y * 2 ^ a) = x * y * 2 ^ b * 2 ^ c := by
  rw [Nat.mul_assoc (x * y), ← Nat.pow_add, Nat.mul_assoc x, Nat.mul_left_comm (2 ^ a), ← Nat.pow_add, ← Nat.mul_assoc, h]
theorem two_sigs (s t u v k : Nat) : s * 2 ^ u * (t * 2 ^ v) * 2 ^ k = s * t * 2 ^ (u + v + k) := by
  simp only [Nat.pow_add]; ac_rfl
theorem rn_scale0 (f : Format) (N k : Nat) : rn f (N * 2 ^ k) k = rn f N 0 := by
  have := rn_scale f (N := N) (k := k) (Q := 0)
  rw [Nat.zero_add] at this; exact this
def wide (x : Nat) : Nat := F64.word (negOf F32 x) (wrung x)
theorem wide_rn {x : Nat} (h : Fin32 x) : wrung x ≤ 5188146770730811392 ∧ magOf F64 (wrung x) = magOf F32 (rungOf F32 x) * 2 ^ 925 := by
  have hs := sig_lt x
  have hu := up_le h
  have e : magOf F32 (rungOf F32 x) * 2 ^ 925 = sigOf F32 (rungOf F32 x) * 2 ^ (upOf F32 (rungOf F32 x) + 925) := one_scale _ _ 925
  constructor
  · unfold wrung
    refine rn_le F64 ?_
    rw [e, Nat.pow_zero, Nat.mul_one]
    have h1 := Nat.mul_le_mul (Nat.le_of_lt hs) (Nat.pow_le_pow_right (n := 2) (by decide) (Nat.add_le_add_right hu 925))
    have h2 : 16777216 * 2 ^ (253 + 925) ≤ magOf F64 5188146770730811392 := by decide +kernel
    exact Nat.le_trans h1 h2
  · unfold wrung
    rw [e]
    exact mag_exact F64 (by rw [F64_bin]; omega)
theorem wide_fin {x : Nat} (h : Fin32 x) : Fin64 (wide x) := by
  unfold Fin64 wide
  have := (wide_rn h).1
  rw [rungOf_word F64 _ (by rw [F64_sw]; omega), F64_inf]
  omega
theorem wide_rung {x : Nat} (h : Fin32 x) : rungOf F64 (wide x) = wrung x := by
  unfold wide
  have := (wide_rn h).1
  rw [rungOf_word F64 _ (by rw [F64_sw]; omega)]
theorem wide_neg {x : Nat} (h : Fin32 x) : negOf F64 (wide x) = negOf F32 x := by
  unfold wide
  have := (wide_rn h).1
  rw [negOf_word F64 _ (by rw [F64_sw]; omega)]
theorem wide_mag {x : Nat} (h : Fin32 x) : magOf F64 (rungOf F64 (wide x)) = magOf F32 (rungOf F32 x) * 2 ^ 925 := by
  rw [wide_rung h]; exact (wide_rn h).2
theorem not_inf64 {s : Bool} {r : Nat} (h : r < 9218868437227405312) : (F64.read (F64.word s r)).isInfinity = false := by
  have : rungOf F64 (F64.word s r) < F64.infRung := by rw [rungOf_word F64 s (by rw [F64_sw]; omega), F64_inf]; exact h
  rw [read_fin F64 this]; rfl
theorem wide_bits {x : Nat} (h : Fin32 x) : floatToFloatBits .f32 x .f64 = some (wide x) := by
  have e : F64.write (.number (negOf F32 x) (sigOf F32 (rungOf F32 x)) (F32.leastPlace + (upOf F32 (rungOf F32 x) : Nat))) = wide x := by
    show F64.nearest _ _ _ = _
    rw [nearest_rn F64 _ _ _ F64.leastPlace (upOf F32 (rungOf F32 x) + 925) 0 (by rw [F32_lp, F64_lp]; omega) (by omega)]
    have e2 : sigOf F32 (rungOf F32 x) * 2 ^ (upOf F32 (rungOf F32 x) + 925) = magOf F32 (rungOf F32 x) * 2 ^ 925 := (one_scale _ _ 925).symm
    rw [e2]
    show F64.word (negOf F32 x) (min (wrung x) F64.infRung) = _
    rw [Nat.min_eq_left (by have := (wide_rn h).1; rw [F64_inf]; omega)]
    rfl
  have hni : (F64.read (wide x)).isInfinity = false := not_inf64 (by have := (wide_rn h).1; omega)
  unfold floatToFloatBits
  rw [if_neg (by decide)]
  have hr : FloatKind.f32.decode x = .number (negOf F32 x) (sigOf F32 (rungOf F32 x)) (F32.leastPlace + (upOf F32 (rungOf F32 x) : Nat)) := read_fin F32 h
  rw [hr]
  show (if (F64.read (F64.write _)).isInfinity = true then none else some (F64.write _)) = _
  rw [e, hni]; rfl
theorem not_inf32 {s : Bool} {r : Nat} (h : r < 2139095040) : (F32.read (F32.word s r)).isInfinity = false := by
  have : rungOf F32 (F32.word s r) < F32.infRung := fin_word s h
  rw [read_fin F32 this]; rfl
theorem wide_mul {a b : Nat} (ha : Part a) (hb : Part b) :
    ∃ z r, F64.mul (wide a) (wide b) = some z ∧ floatToFloatBits .f64 z .f32 = some r ∧ F32.mul a b = some r := by
  have fa := ha.fin
  have fb := hb.fin
  have e1 := mul_fin F64 (q := 1074) F64_lp (wide_fin fa) (wide_fin fb)
  rw [wide_neg fa, wide_neg fb, wide_mag fa, wide_mag fb] at e1
  have eN : magOf F32 (rungOf F32 a) * 2 ^ 925 * (magOf F32 (rungOf F32 b) * 2 ^ 925) = (pm a * pm b * 2 ^ 776) * 2 ^ 1074 := two_scales _ _ 925 776 1074 (by omega)
  have hscale : rn F64 ((pm a * pm b * 2 ^ 776) * 2 ^ 1074) 1074 = prung (pm a * pm b) := rn_scale0 F64 _ 1074
  have hbound : pm a * pm b * 2 ^ 776 ≤ magOf F64 4607182418800017408 := by
    have h1 : pm a * pm b ≤ 2 ^ 149 * 2 ^ 149 := Nat.mul_le_mul ha.pm_le hb.pm_le
    have h2 : 2 ^ 149 * 2 ^ 149 * 2 ^ 776 ≤ magOf F64 4607182418800017408 := by decide +kernel
    exact Nat.le_trans (Nat.mul_le_mul_right _ h1) h2
  have hle : prung (pm a * pm b) ≤ 4607182418800017408 := rn_le F64 (by rw [Nat.pow_zero, Nat.mul_one]; exact hbound)
  have hexact : magOf F64 (prung (pm a * pm b)) = pm a * pm b * 2 ^ 776 := by
    have e : pm a * pm b * 2 ^ 776 = sigOf F32 (rungOf F32 a) * sigOf F32 (rungOf F32 b) * 2 ^ (upOf F32 (rungOf F32 a) + upOf F32 (rungOf F32 b) + 776) := two_sigs _ _ _ _ 776
    unfold prung
    rw [e]
    refine mag_exact F64 ?_
    have h1 := sig_lt a
    have h2 := sig_lt b
    have : sigOf F32 (rungOf F32 a) * sigOf F32 (rungOf F32 b) ≤ 16777216 * 16777216 := Nat.mul_le_mul (by omega) (by omega)
    rw [F64_bin]; omega
  rw [eN] at e1
  have e1' : F64.mul (wide a) (wide b) = some (F64.word (negOf F32 a ^^ negOf F32 b) (prung (pm a * pm b))) := by
    rw [e1]
    unfold roundMul
    rw [hscale, Nat.min_eq_left (by rw [F64_inf]; omega)]
  have e32 := mul_fin F32 (q := 149) F32_lp fa fb
  have hN : pm a * pm b ≤ magOf F32 (rungOf F32 a) * 2 ^ 149 := Nat.mul_le_mul_left _ hb.pm_le
  have hra := ha.rung
  obtain ⟨r1, l1⟩ := roundMul_eq 149 (negOf F32 a ^^ negOf F32 b) (pm a * pm b) (R := rungOf F32 a) (by omega) hN
  refine ⟨_, F32.word (negOf F32 a ^^ negOf F32 b) (rn F32 (pm a * pm b) 149), e1', ?_, e32.trans (congrArg some r1)⟩
  have hz : rungOf F64 (F64.word (negOf F32 a ^^ negOf F32 b) (prung (pm a * pm b))) = prung (pm a * pm b) := rungOf_word F64 _ (by rw [F64_sw]; omega)
  have hzn : negOf F64 (F64.word (negOf F32 a ^^ negOf F32 b) (prung (pm a * pm b))) = (negOf F32 a ^^ negOf F32 b) := negOf_word F64 _ (by rw [F64_sw]; omega)
  have hzf : rungOf F64 (F64.word (negOf F32 a ^^ negOf F32 b) (prung (pm a * pm b))) < F64.infRung := by rw [hz, F64_inf]; omega
  unfold floatToFloatBits
  rw [if_neg (by decide)]
  have hr : FloatKind.f64.decode (F64.word (negOf F32 a ^^ negOf F32 b) (prung (pm a * pm b))) = .number (negOf F32 a ^^ negOf F32 b) (sigOf F64 (prung (pm a * pm b))) (F64.leastPlace + (upOf F64 (prung (pm a * pm b)) : Nat)) := by
    have := read_fin F64 hzf
    rw [hz, hzn] at this
    exact this
  rw [hr]
  have e : F32.write (.number (negOf F32 a ^^ negOf F32 b) (sigOf F64 (prung (pm a * pm b))) (F64.leastPlace + (upOf F64 (prung (pm a * pm b)) : Nat))) = F32.word (negOf F32 a ^^ negOf F32 b) (rn F32 (pm a * pm b) 149) := by
    show F32.nearest _ _ _ = _
    rw [nearest_rn F32 _ _ _ F64.leastPlace (upOf F64 (prung (pm a * pm b))) 925 rfl (by rw [F32_lp, F64_lp]; omega)]
    have e2 : sigOf F64 (prung (pm a * pm b)) * 2 ^ upOf F64 (prung (pm a * pm b)) = pm a * pm b * 2 ^ 776 := hexact
    have e3 : rn F32 (pm a * pm b * 2 ^ 776) 925 = rn F32 (pm a * pm b) 149 := rn_scale F32 (N := pm a * pm b) (k := 776) (Q := 149)
    rw [e2, e3, Nat.min_eq_left (by rw [F32_inf]; omega)]
  have hni : (F32.read (F32.word (negOf F32 a ^^ negOf F32 b) (rn F32 (pm a * pm b) 149))).isInfinity = false := not_inf32 (by omega)
  show (if (F32.read (F32.write _)).isInfinity = true then none else some (F32.write _)) = _
  rw [e, hni]; rfl
end Go.Proofs.YtfdgijmmgllmgaaGreatDoor
namespace Go.Proofs.YtfdgijmmgllmgaaGreatDoor
open Go.ChangeShapes Go.WideShapes Go.ChangeAt Go.RowKit Go.Joins
set_option linter.unusedSimpArgs false
set_option linter.unusedVariables false
set_option maxRecDepth 100000
attribute [local go_sem] store_f
theorem productOf_p {a b : Nat} (ha : Part a) (hb : Part b) (w : World) :
    Calls Tryz.prog 85 #[.float .f32 a, .float .f32 b] w fun e w' => e = .returned (.float .f32 (mulB a b)) ∧ w' = w := by
  obtain ⟨r, e, hf, _⟩ := mul_part ha hb
  have h := productOf_i a b r w e
  rw [set_clean hf] at h
  have e2 : mulB a b = cleanB r := by unfold mulB; rw [e]; rfl
  rw [e2]; exact h
theorem differenceOf_p {a b : Nat} (ha : Part a) (hb : Part b) (w : World) :
    Calls Tryz.prog 115 #[.float .f32 a, .float .f32 b] w fun e w' => e = .returned (.float .f32 (subB a b)) ∧ w' = w := by
  obtain ⟨r, e, hf, _⟩ := sub_part ha hb
  have h := differenceOf_i a b r w e
  rw [set_clean hf] at h
  have e2 : subB a b = cleanB r := by unfold subB; rw [e]; rfl
  rw [e2]; exact h
theorem sumOf_p {a b : Nat} (ha : Part a) (hb : Part b) (w : World) :
    Calls Tryz.prog 88 #[.float .f32 a, .float .f32 b] w fun e w' => e = .returned (.float .f32 (addB a b)) ∧ w' = w := by
  obtain ⟨r, e, hf, _⟩ := add_part ha hb
  have h := sumOf_i a b r w e
  rw [set_clean hf] at h
  have e2 : addB a b = cleanB r := by unfold addB; rw [e]; rfl
  rw [e2]; exact h
theorem filterPart_i {a b : Nat} (ha : Part a) (hb : Part b) (w : World) :
    Calls Tryz.prog 122 #[.agg #[.float .f32 a, .float .f32 b]] w fun e w' => e = .returned (.float .f32 (mulB a b)) ∧ Below w.heap.size w w' := by
  have K : Hid (∀ w : World, Calls Tryz.prog 85 #[.float .f32 a, .float .f32 b] w fun e w' => e = .returned (.float .f32 (mulB a b)) ∧ w' = w) := fun w => productOf_p ha hb w
  clear ha hb
  go_enter Tryz.func122, Tryz.ntmps122
  go_wp2_with (go_at_call 85; refine (K.out _).mono ?_; rintro e w1 ⟨rfl, rfl⟩)
  go_returns; exact ⟨rfl, by (repeat' (first | (with_reducible exact Below.refl _ _) | (with_reducible assumption) | (with_reducible refine Below.alloc ?_ ?_ _) | (with_reducible refine Below.drew ?_) | (with_reducible refine Below.setCell ?_ ?_ _) | (with_reducible refine Below.trans ?_ (Below.mono (by assumption) ?_)) | (with_reducible exact Nat.le_refl _) | omega | (simp only [World.size_alloc, World.size_setCell, World.size_drew]; omega) | (simp; omega) | (simp; done)))⟩
theorem pairsOf_i (a b c x y z : Nat) (w : World) :
    Calls Tryz.prog 118 #[colV a b c, colV x y z] w fun e w' => e = .returned (.agg #[.float .f32 a, .float .f32 x, .float .f32 b, .float .f32 y, .float .f32 c, .float .f32 z]) ∧ Below w.heap.size w w' := by
  unfold colV
  go_enter Tryz.func118, Tryz.ntmps118
  go_wp2
  go_returns; exact ⟨rfl, by (repeat' (first | (with_reducible exact Below.refl _ _) | (with_reducible assumption) | (with_reducible refine Below.alloc ?_ ?_ _) | (with_reducible refine Below.drew ?_) | (with_reducible refine Below.setCell ?_ ?_ _) | (with_reducible refine Below.trans ?_ (Below.mono (by assumption) ?_)) | (with_reducible exact Nat.le_refl _) | omega | (simp only [World.size_alloc, World.size_setCell, World.size_drew]; omega) | (simp; omega) | (simp; done)))⟩
end Go.Proofs.YtfdgijmmgllmgaaGreatDoor
namespace Go.Proofs.YtfdgijmmgllmgaaGreatDoor
open Go.ChangeShapes Go.WideShapes Go.ChangeAt Go.RowKit Go.Joins
set_option linter.unusedSimpArgs false
set_option linter.unusedVariables false
set_option maxRecDepth 100000
attribute [local go_sem] store_f
theorem shareOf_i {a k : Nat} (ha : Part a) (hk : Part k) (w : World) :
    Calls Tryz.prog 121 #[.float .f32 a, .float .f64 (wide k)] w fun e w' => e = .returned (.float .f32 (mulB a k)) ∧ w' = w := by
  obtain ⟨z, r, h1, h2, h3⟩ := wide_mul ha hk
  have qa := fun w => run_convert_float_float (P := Tryz.prog) w 24 159 .f32 .f64 a _ (by rw [Tryz.underlying24]; rfl) Tryz.underlying159 (wide_bits ha.fin)
  have qm := fun t w => run_float_arith (P := Tryz.prog) w .mul t .f64 (wide a) (wide k) z h1
  have qr := fun w => run_convert_float_float (P := Tryz.prog) w 159 24 .f64 .f32 z r (by rw [Tryz.underlying159]; rfl) Tryz.underlying24 h2
  obtain ⟨r', e3, hf, _⟩ := mul_part ha hk
  have e : mulB a k = setB r := by
    rw [h3] at e3; cases e3
    rw [set_clean hf]; unfold mulB; rw [h3]; rfl
  rw [e]
  clear h1 h2 h3 e e3 hf ha hk
  generalize wide a = ya at qa qm
  generalize wide k = yk at qm
  go_enter Tryz.func121, Tryz.ntmps121
  go_wp2_with (first | simp only [qa] | simp only [qm] | simp only [qr] | (go_at_call 123; refine (settle_i _ _).mono ?_; rintro e w1 ⟨rfl, rfl⟩))
  all_goals (go_ret; exact ⟨rfl, rfl⟩)
theorem areColours_i (a b c x y z : Nat) (w : World) :
    Calls Tryz.prog 114 #[colV a b c, colV x y z] w fun e w' => e = .returned (.bool (colB a b c && colB x y z)) ∧ Below w.heap.size w w' := by
  have K1 : Hid (∀ w : World, Calls Tryz.prog 20 #[colV a b c] w fun e w' => e = .returned (.bool (colB a b c)) ∧ Below w.heap.size w w') := fun w => isColour_i a b c w
  have K2 : Hid (∀ w : World, Calls Tryz.prog 20 #[colV x y z] w fun e w' => e = .returned (.bool (colB x y z)) ∧ Below w.heap.size w w') := fun w => isColour_i x y z w
  generalize colB a b c = p at K1 ⊢
  generalize colB x y z = q at K2 ⊢
  unfold colV at K1 K2 ⊢
  cases p
  all_goals
    go_enter Tryz.func114, Tryz.ntmps114
    go_wp2_with (go_at_call 20; (first | refine (K1.out _).mono ?_ | refine (K2.out _).mono ?_); rintro e w1 ⟨rfl, hb⟩; obtain ⟨hc, hf⟩ := bcell hb; have HL := keepL (by (repeat (first | (with_reducible assumption) | (with_reducible apply AllLt.alloc) | (with_reducible apply AllLt.setCell) | (with_reducible apply AllLt.drew) | (with_reducible exact AllLt.nil _)))) hb; have hq := HL; simp only [AllLt, and_true, World.size_alloc, World.size_setCell, World.size_drew] at hq; have hbs := hb.size; try simp only [World.size_alloc, World.size_setCell, World.size_drew] at hbs)
    all_goals (go_returns; exact ⟨by simp, by (repeat' (first | (with_reducible exact Below.refl _ _) | (with_reducible assumption) | (with_reducible refine Below.alloc ?_ ?_ _) | (with_reducible refine Below.drew ?_) | (with_reducible refine Below.setCell ?_ ?_ _) | (with_reducible refine Below.trans ?_ (Below.mono (by assumption) ?_)) | (with_reducible exact Nat.le_refl _) | omega | (simp only [World.size_alloc, World.size_setCell, World.size_drew]; omega) | (simp; omega) | (simp; done)))⟩)
theorem colB_parts {a b c : Nat} (ha : a < 4294967296) (hb : b < 4294967296) (hc : c < 4294967296) (h : colB a b c = true) : Part a ∧ Part b ∧ Part c := by
  unfold colB at h
  simp only [Bool.and_eq_true] at h
  exact ⟨share_part ha h.1.1, share_part hb h.1.2, share_part hc h.2⟩
theorem parts_colB {a b c : Nat} (ha : Part a) (hb : Part b) (hc : Part c) : colB a b c = true := by
  unfold colB; rw [part_share ha, part_share hb, part_share hc]; rfl
end Go.Proofs.YtfdgijmmgllmgaaGreatDoor
namespace Go.Proofs.YtfdgijmmgllmgaaGreatDoor
open Go.ChangeShapes Go.WideShapes Go.ChangeAt Go.RowKit Go.Joins
set_option linter.unusedSimpArgs false
set_option linter.unusedVariables false
set_option maxRecDepth 100000
attribute [local go_sem] store_f
theorem eachFilter_i (a0 b0 a1 b1 a2 b2 : Nat) (y0 y1 y2 : Nat) (w : World)
    (k0 : ∀ w1 : World, Below w.heap.size w w1 → Calls Tryz.prog 122 #[.agg #[.float .f32 a0, .float .f32 b0]] w1 fun e w' => e = .returned (.float .f32 y0) ∧ Below w1.heap.size w1 w')
    (k1 : ∀ w1 : World, Below w.heap.size w w1 → Calls Tryz.prog 122 #[.agg #[.float .f32 a1, .float .f32 b1]] w1 fun e w' => e = .returned (.float .f32 y1) ∧ Below w1.heap.size w1 w')
    (k2 : ∀ w1 : World, Below w.heap.size w w1 → Calls Tryz.prog 122 #[.agg #[.float .f32 a2, .float .f32 b2]] w1 fun e w' => e = .returned (.float .f32 y2) ∧ Below w1.heap.size w1 w')
    : Calls Tryz.prog 117 #[.agg #[.float .f32 a0, .float .f32 b0, .float .f32 a1, .float .f32 b1, .float .f32 a2, .float .f32 b2], .func (.func 122) #[] #[]] w fun e w' =>
      e = .returned (.agg #[.float .f32 y0, .float .f32 y1, .float .f32 y2]) ∧ Below w.heap.size w w' := by
  have K0 : Hid (∀ w1 : World, Below w.heap.size w w1 → Calls Tryz.prog 122 #[.agg #[.float .f32 a0, .float .f32 b0]] w1 fun e w' => e = .returned (.float .f32 y0) ∧ Below w1.heap.size w1 w') := k0
  have K1 : Hid (∀ w1 : World, Below w.heap.size w w1 → Calls Tryz.prog 122 #[.agg #[.float .f32 a1, .float .f32 b1]] w1 fun e w' => e = .returned (.float .f32 y1) ∧ Below w1.heap.size w1 w') := k1
  have K2 : Hid (∀ w1 : World, Below w.heap.size w w1 → Calls Tryz.prog 122 #[.agg #[.float .f32 a2, .float .f32 b2]] w1 fun e w' => e = .returned (.float .f32 y2) ∧ Below w1.heap.size w1 w') := k2
  clear k0 k1 k2
  have x0 : ∀ w : World, (Instr.index 164 (.agg #[.float .f32 a0, .float .f32 b0, .float .f32 a1, .float .f32 b1, .float .f32 a2, .float .f32 b2]) (.int .i64 0)).run Tryz.prog w = .ok (.agg #[.float .f32 a0, .float .f32 b0]) w := fun _ => by kernel_rfl
  have x1 : ∀ w : World, (Instr.index 164 (.agg #[.float .f32 a0, .float .f32 b0, .float .f32 a1, .float .f32 b1, .float .f32 a2, .float .f32 b2]) (.int .i64 1)).run Tryz.prog w = .ok (.agg #[.float .f32 a1, .float .f32 b1]) w := fun _ => by kernel_rfl
  have x2 : ∀ w : World, (Instr.index 164 (.agg #[.float .f32 a0, .float .f32 b0, .float .f32 a1, .float .f32 b1, .float .f32 a2, .float .f32 b2]) (.int .i64 2)).run Tryz.prog w = .ok (.agg #[.float .f32 a2, .float .f32 b2]) w := fun _ => by kernel_rfl
  go_enter Tryz.func117, Tryz.ntmps117
  go_wp2_with fail
  go_loopw [9] (fun i wr => ∃ k : Int, (k = 0 ∨ k = 1 ∨ k = 2 ∨ k = 3) ∧ i = .int .i64 k ∧ Blk wr (w.heap.size + 2) (row3 (.float .f32 y0) (.float .f32 y1) (.float .f32 y2) (.float .f32 0) k) 104 ∧ Blk wr (w.heap.size + 1) #[.float .f32 0, .float .f32 0, .float .f32 0] 104 ∧ Below w.heap.size w wr)
    (fun i _ => 3 - (intOf i).toNat)
  case atStart => exact ⟨0, Or.inl rfl, rfl, Blk.newAt (by simp), (Blk.newAt (by simp)).alloc, by (repeat' (first | (with_reducible exact Below.refl _ _) | (with_reducible assumption) | (with_reducible refine Below.alloc ?_ ?_ _) | (with_reducible refine Below.drew ?_) | (with_reducible refine Below.setCell ?_ ?_ _) | (with_reducible refine Below.trans ?_ (Below.mono (by assumption) ?_)) | (with_reducible exact Nat.le_refl _) | omega | (simp only [World.size_alloc, World.size_setCell, World.size_drew]; omega) | (simp; omega) | (simp; done)))⟩
  case round =>
    obtain ⟨k, hk, rfl, hB2, hB1, hbel⟩ := hrel
    have l2 := hB2.lt
    have l1 := hB1.lt
    have c20 := hB2.cell 0
    have c21 := hB2.cell 1
    have c22 := hB2.cell 2
    have f20 := hB2.free 0
    have f21 := hB2.free 1
    have f22 := hB2.free 2
    have c10 := hB1.cell 0
    have c11 := hB1.cell 1
    have c12 := hB1.cell 2
    have f10 := hB1.free 0
    have f11 := hB1.free 1
    have f12 := hB1.free 2
    have H2 : Hid (Blk wr (w.heap.size + 2) (row3 (.float .f32 y0) (.float .f32 y1) (.float .f32 y2) (.float .f32 0) k) 104) := hB2
    have H1 : Hid (Blk wr (w.heap.size + 1) #[.float .f32 0, .float .f32 0, .float .f32 0] 104) := hB1
    clear hB2 hB1
    rcases hk with rfl | rfl | rfl | rfl
    all_goals simp [row3] at c20 c21 c22 c10 c11 c12
    · go_wp2_with (first | simp only [x0] | (go_at_call 122; refine (K0.out _ (by (repeat' (first | (with_reducible exact Below.refl _ _) | (with_reducible assumption) | (with_reducible refine Below.alloc ?_ ?_ _) | (with_reducible refine Below.drew ?_) | (with_reducible refine Below.setCell ?_ ?_ _) | (with_reducible refine Below.trans ?_ (Below.mono (by assumption) ?_)) | (with_reducible exact Nat.le_refl _) | omega | (simp only [World.size_alloc, World.size_setCell, World.size_drew]; omega) | (simp; omega) | (simp; done))))).mono ?_; rintro e w1 ⟨rfl, hb⟩; obtain ⟨hc, hf⟩ := bcell hb; have HL := keepL (by (repeat (first | (with_reducible assumption) | (with_reducible apply AllLt.alloc) | (with_reducible apply AllLt.setCell) | (with_reducible apply AllLt.drew) | (with_reducible exact AllLt.nil _)))) hb; have hq := HL; simp only [AllLt, and_true, World.size_alloc, World.size_setCell, World.size_drew] at hq; have hbs := hb.size; try simp only [World.size_alloc, World.size_setCell, World.size_drew] at hbs))
      go_roundw
      case rel => exact ⟨1, by omega, rfl, Blk.setAt (cs := row3 (.float .f32 y0) (.float .f32 y1) (.float .f32 y2) (.float .f32 0) 0) (by omega) (by (repeat (first | (with_reducible exact H2.out) | (with_reducible refine Blk.below ?_ (by assumption)) | (with_reducible refine Blk.alloc ?_) | (with_reducible refine Blk.drew ?_) | (with_reducible refine Blk.other ?_ (by dsimp only; omega))))) rfl, by (repeat (first | (with_reducible exact H1.out) | (with_reducible refine Blk.below ?_ (by assumption)) | (with_reducible refine Blk.alloc ?_) | (with_reducible refine Blk.drew ?_) | (with_reducible refine Blk.other ?_ (by dsimp only; omega)))), by (repeat' (first | (with_reducible exact Below.refl _ _) | (with_reducible assumption) | (with_reducible refine Below.alloc ?_ ?_ _) | (with_reducible refine Below.drew ?_) | (with_reducible refine Below.setCell ?_ ?_ _) | (with_reducible refine Below.trans ?_ (Below.mono (by assumption) ?_)) | (with_reducible exact Nat.le_refl _) | omega | (simp only [World.size_alloc, World.size_setCell, World.size_drew]; omega) | (simp; omega) | (simp; done)))⟩
      case measure => simp [intOf]
    · go_wp2_with (first | simp only [x1] | (go_at_call 122; refine (K1.out _ (by (repeat' (first | (with_reducible exact Below.refl _ _) | (with_reducible assumption) | (with_reducible refine Below.alloc ?_ ?_ _) | (with_reducible refine Below.drew ?_) | (with_reducible refine Below.setCell ?_ ?_ _) | (with_reducible refine Below.trans ?_ (Below.mono (by assumption) ?_)) | (with_reducible exact Nat.le_refl _) | omega | (simp only [World.size_alloc, World.size_setCell, World.size_drew]; omega) | (simp; omega) | (simp; done))))).mono ?_; rintro e w1 ⟨rfl, hb⟩; obtain ⟨hc, hf⟩ := bcell hb; have HL := keepL (by (repeat (first | (with_reducible assumption) | (with_reducible apply AllLt.alloc) | (with_reducible apply AllLt.setCell) | (with_reducible apply AllLt.drew) | (with_reducible exact AllLt.nil _)))) hb; have hq := HL; simp only [AllLt, and_true, World.size_alloc, World.size_setCell, World.size_drew] at hq; have hbs := hb.size; try simp only [World.size_alloc, World.size_setCell, World.size_drew] at hbs))
      go_roundw
      case rel => exact ⟨2, by omega, rfl, Blk.setAt (cs := row3 (.float .f32 y0) (.float .f32 y1) (.float .f32 y2) (.float .f32 0) 1) (by omega) (by (repeat (first | (with_reducible exact H2.out) | (with_reducible refine Blk.below ?_ (by assumption)) | (with_reducible refine Blk.alloc ?_) | (with_reducible refine Blk.drew ?_) | (with_reducible refine Blk.other ?_ (by dsimp only; omega))))) rfl, by (repeat (first | (with_reducible exact H1.out) | (with_reducible refine Blk.below ?_ (by assumption)) | (with_reducible refine Blk.alloc ?_) | (with_reducible refine Blk.drew ?_) | (with_reducible refine Blk.other ?_ (by dsimp only; omega)))), by (repeat' (first | (with_reducible exact Below.refl _ _) | (with_reducible assumption) | (with_reducible refine Below.alloc ?_ ?_ _) | (with_reducible refine Below.drew ?_) | (with_reducible refine Below.setCell ?_ ?_ _) | (with_reducible refine Below.trans ?_ (Below.mono (by assumption) ?_)) | (with_reducible exact Nat.le_refl _) | omega | (simp only [World.size_alloc, World.size_setCell, World.size_drew]; omega) | (simp; omega) | (simp; done)))⟩
      case measure => simp [intOf]
    · go_wp2_with (first | simp only [x2] | (go_at_call 122; refine (K2.out _ (by (repeat' (first | (with_reducible exact Below.refl _ _) | (with_reducible assumption) | (with_reducible refine Below.alloc ?_ ?_ _) | (with_reducible refine Below.drew ?_) | (with_reducible refine Below.setCell ?_ ?_ _) | (with_reducible refine Below.trans ?_ (Below.mono (by assumption) ?_)) | (with_reducible exact Nat.le_refl _) | omega | (simp only [World.size_alloc, World.size_setCell, World.size_drew]; omega) | (simp; omega) | (simp; done))))).mono ?_; rintro e w1 ⟨rfl, hb⟩; obtain ⟨hc, hf⟩ := bcell hb; have HL := keepL (by (repeat (first | (with_reducible assumption) | (with_reducible apply AllLt.alloc) | (with_reducible apply AllLt.setCell) | (with_reducible apply AllLt.drew) | (with_reducible exact AllLt.nil _)))) hb; have hq := HL; simp only [AllLt, and_true, World.size_alloc, World.size_setCell, World.size_drew] at hq; have hbs := hb.size; try simp only [World.size_alloc, World.size_setCell, World.size_drew] at hbs))
      go_roundw
      case rel => exact ⟨3, by omega, rfl, Blk.setAt (cs := row3 (.float .f32 y0) (.float .f32 y1) (.float .f32 y2) (.float .f32 0) 2) (by omega) (by (repeat (first | (with_reducible exact H2.out) | (with_reducible refine Blk.below ?_ (by assumption)) | (with_reducible refine Blk.alloc ?_) | (with_reducible refine Blk.drew ?_) | (with_reducible refine Blk.other ?_ (by dsimp only; omega))))) rfl, by (repeat (first | (with_reducible exact H1.out) | (with_reducible refine Blk.below ?_ (by assumption)) | (with_reducible refine Blk.alloc ?_) | (with_reducible refine Blk.drew ?_) | (with_reducible refine Blk.other ?_ (by dsimp only; omega)))), by (repeat' (first | (with_reducible exact Below.refl _ _) | (with_reducible assumption) | (with_reducible refine Below.alloc ?_ ?_ _) | (with_reducible refine Below.drew ?_) | (with_reducible refine Below.setCell ?_ ?_ _) | (with_reducible refine Below.trans ?_ (Below.mono (by assumption) ?_)) | (with_reducible exact Nat.le_refl _) | omega | (simp only [World.size_alloc, World.size_setCell, World.size_drew]; omega) | (simp; omega) | (simp; done)))⟩
      case measure => simp [intOf]
    · have d0 := (H1.out.set (i := 0) (v := .float .f32 y0)).cell 0
      have d1 := ((H1.out.set (i := 0) (v := .float .f32 y0)).set (i := 1) (v := .float .f32 y1)).cell 1
      have d2 := (((H1.out.set (i := 0) (v := .float .f32 y0)).set (i := 1) (v := .float .f32 y1)).set (i := 2) (v := .float .f32 y2)).cell 2
      simp only [List.setIfInBounds_toArray, List.set_cons_zero, List.set_cons_succ, List.getElem?_toArray, List.getElem?_cons_zero, List.getElem?_cons_succ] at d0 d1 d2
      go_wp2
      exact bodyPost_ret (v := .agg #[.float .f32 y0, .float .f32 y1, .float .f32 y2]) (by simp [results, Tryz.results117, go_sem, d0, d1, d2]) rfl ⟨rfl, by (repeat' (first | (with_reducible exact Below.refl _ _) | (with_reducible assumption) | (with_reducible refine Below.alloc ?_ ?_ _) | (with_reducible refine Below.drew ?_) | (with_reducible refine Below.setCell ?_ ?_ _) | (with_reducible refine Below.trans ?_ (Below.mono (by assumption) ?_)) | (with_reducible exact Nat.le_refl _) | omega | (simp only [World.size_alloc, World.size_setCell, World.size_drew]; omega) | (simp; omega) | (simp; done)))⟩
end Go.Proofs.YtfdgijmmgllmgaaGreatDoor
