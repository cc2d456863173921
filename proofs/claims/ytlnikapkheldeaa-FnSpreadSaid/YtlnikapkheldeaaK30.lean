/-
  Texts of this proof, joined: Gd, Ge, Gj, Cmx.
-/
import Derived.Test.YtlnikapkheldeaaK29
import Derived.Maps.AppendAt
import Derived.Test.YtlnikapkheldeaaK26
/-
  The least and the greatest of three singles; which point lies in a shard.
-/
namespace Go.Proofs.Ytlnikapkheldeaa
open Go.ChangeShapes Go.WideShapes Go.ChangeAt Go.RowKit Go.Joins
set_option linter.unusedSimpArgs false
set_option linter.unusedVariables false
set_option maxRecDepth 100000
attribute [local go_sem] store_f
open Ieee

def minG (o : Ordering) (x y : Nat) : Nat := match o with | .lt => x | .gt => y | .eq => if (FloatKind.f32.decode x).neg then x else y
def maxG (o : Ordering) (x y : Nat) : Nat := match o with | .lt => y | .gt => x | .eq => if (FloatKind.f32.decode x).neg then y else x
theorem run_min_g (P : Program) (w : World) (ts : Array TypeId) (t : TypeId) (x y : Nat) (o : Ordering) (h : FloatKind.f32.format.order x y = some o) : (Builtin.min_ ts t #[.float .f32 x, .float .f32 y]).run P w = .ok (.float .f32 (minG o x y)) w := by
  cases o <;> simp [Builtin.min_, Builtin.min2, h, minG]
theorem run_max_g (P : Program) (w : World) (ts : Array TypeId) (t : TypeId) (x y : Nat) (o : Ordering) (h : FloatKind.f32.format.order x y = some o) : (Builtin.max_ ts t #[.float .f32 x, .float .f32 y]).run P w = .ok (.float .f32 (maxG o x y)) w := by
  cases o <;> simp [Builtin.max_, Builtin.max2, h, maxG]
theorem cmp_cases (a b : Int) : (compare a b = .lt ∧ a < b) ∨ (compare a b = .eq ∧ a = b) ∨ (compare a b = .gt ∧ b < a) := by
  rcases Int.lt_trichotomy a b with h | h | h
  · exact .inl ⟨by simp [compare, compareOfLessAndEq, h], h⟩
  · exact .inr (.inl ⟨by simp [h], h⟩)
  · exact .inr (.inr ⟨by
      have h1 : ¬ a < b := by omega
      have h2 : ¬ a = b := by omega
      simp [compare, compareOfLessAndEq, h1, h2], h⟩)
/-- The lesser of two finite singles is one of them, and has the lesser value. -/
theorem min_val {x y : Nat} (hx : Fin32 x) (hy : Fin32 y) : ∃ m, (∀ (P : Program) (w : World) ts t, (Builtin.min_ ts t #[.float .f32 x, .float .f32 y]).run P w = .ok (.float .f32 m) w) ∧ Fin32 m ∧ m < max (x + 1) (y + 1) ∧ valOf F32 m ≤ valOf F32 x ∧ valOf F32 m ≤ valOf F32 y ∧ (valOf F32 m = valOf F32 x ∨ valOf F32 m = valOf F32 y) := by
  have h := order_fin F32 hx hy
  refine ⟨minG (compare (valOf F32 x) (valOf F32 y)) x y, fun P w ts t => run_min_g P w ts t x y _ h, ?_⟩
  rcases cmp_cases (valOf F32 x) (valOf F32 y) with ⟨e, h1⟩ | ⟨e, h1⟩ | ⟨e, h1⟩
  · rw [e]; exact ⟨hx, by simp [minG]; omega, by simp only [minG]; omega, by simp only [minG]; omega, .inl rfl⟩
  · rw [e]
    simp only [minG]
    split
    · exact ⟨hx, by omega, by omega, by omega, .inl rfl⟩
    · exact ⟨hy, by omega, by omega, by omega, .inr rfl⟩
  · rw [e]; exact ⟨hy, by simp [minG]; omega, by simp only [minG]; omega, by simp only [minG]; omega, .inr rfl⟩
theorem max_val {x y : Nat} (hx : Fin32 x) (hy : Fin32 y) : ∃ m, (∀ (P : Program) (w : World) ts t, (Builtin.max_ ts t #[.float .f32 x, .float .f32 y]).run P w = .ok (.float .f32 m) w) ∧ Fin32 m ∧ m < max (x + 1) (y + 1) ∧ valOf F32 x ≤ valOf F32 m ∧ valOf F32 y ≤ valOf F32 m ∧ (valOf F32 m = valOf F32 x ∨ valOf F32 m = valOf F32 y) := by
  have h := order_fin F32 hx hy
  refine ⟨maxG (compare (valOf F32 x) (valOf F32 y)) x y, fun P w ts t => run_max_g P w ts t x y _ h, ?_⟩
  rcases cmp_cases (valOf F32 x) (valOf F32 y) with ⟨e, h1⟩ | ⟨e, h1⟩ | ⟨e, h1⟩
  · rw [e]; exact ⟨hy, by simp [maxG]; omega, by simp only [maxG]; omega, by simp only [maxG]; omega, .inr rfl⟩
  · rw [e]
    simp only [maxG]
    split
    · exact ⟨hy, by omega, by omega, by omega, .inr rfl⟩
    · exact ⟨hx, by omega, by omega, by omega, .inl rfl⟩
  · rw [e]; exact ⟨hx, by simp [maxG]; omega, by simp only [maxG]; omega, by simp only [maxG]; omega, .inl rfl⟩

/-- Three singles from a block's head on. -/
structure Row3 (w : World) (g x y z : Nat) : Prop where
  c0 : w.cell? ⟨g, 0, Option.none⟩ = some (.float .f32 x)
  c1 : w.cell? ⟨g, 1, Option.none⟩ = some (.float .f32 y)
  c2 : w.cell? ⟨g, 2, Option.none⟩ = some (.float .f32 z)

structure Min2 (x y m : Nat) : Prop where
  run : ∀ (P : Program) (w : World) ts t, (Builtin.min_ ts t #[.float .f32 x, .float .f32 y]).run P w = .ok (.float .f32 m) w
structure Max2 (x y m : Nat) : Prop where
  run : ∀ (P : Program) (w : World) ts t, (Builtin.max_ ts t #[.float .f32 x, .float .f32 y]).run P w = .ok (.float .f32 m) w

set_option maxHeartbeats 1000000 in
theorem slMin {x y z m n : Nat} (M : Min2 x y m) (N : Min2 m z n) (w : World) (g cap : Nat) (R : Row3 w g x y z) :
    Calls Try.prog 173 #[.slice (some ⟨g, 0, Option.none⟩) 3 cap] w fun e w' => e = .returned (.float .f32 n) ∧ w' = w := by
  obtain ⟨c0, c1, c2⟩ := R
  have q1 := M.run Try.prog
  have q2 := N.run Try.prog
  go_enter Try.func173, Try.ntmps173
  go_wp2_with fail
  go_loop [3, 4] (fun v i => (v = .float .f32 x ∧ i = .int .i64 1) ∨ (v = .float .f32 m ∧ i = .int .i64 2) ∨ (v = .float .f32 n ∧ i = .int .i64 3)) (fun _ i => 3 - (intOf i).toNat)
  case atStart => exact .inl ⟨rfl, rfl⟩
  case round =>
    rcases hrel with ⟨rfl, rfl⟩ | ⟨rfl, rfl⟩ | ⟨rfl, rfl⟩
    · go_wp2_with (simp only [q1])
      go_round
      case rel => simp
      case measure => simp [intOf]
    · go_wp2_with (simp only [q2])
      go_round
      case rel => simp
      case measure => simp [intOf]
    · go_wp2
      go_ret
      exact ⟨rfl, rfl⟩
set_option maxHeartbeats 1000000 in
theorem slMax {x y z m n : Nat} (M : Max2 x y m) (N : Max2 m z n) (w : World) (g cap : Nat) (R : Row3 w g x y z) :
    Calls Try.prog 174 #[.slice (some ⟨g, 0, Option.none⟩) 3 cap] w fun e w' => e = .returned (.float .f32 n) ∧ w' = w := by
  obtain ⟨c0, c1, c2⟩ := R
  have q1 := M.run Try.prog
  have q2 := N.run Try.prog
  go_enter Try.func174, Try.ntmps174
  go_wp2_with fail
  go_loop [3, 4] (fun v i => (v = .float .f32 x ∧ i = .int .i64 1) ∨ (v = .float .f32 m ∧ i = .int .i64 2) ∨ (v = .float .f32 n ∧ i = .int .i64 3)) (fun _ i => 3 - (intOf i).toNat)
  case atStart => exact .inl ⟨rfl, rfl⟩
  case round =>
    rcases hrel with ⟨rfl, rfl⟩ | ⟨rfl, rfl⟩ | ⟨rfl, rfl⟩
    · go_wp2_with (simp only [q1])
      go_round
      case rel => simp
      case measure => simp [intOf]
    · go_wp2_with (simp only [q2])
      go_round
      case rel => simp
      case measure => simp [intOf]
    · go_wp2
      go_ret
      exact ⟨rfl, rfl⟩
end Go.Proofs.Ytlnikapkheldeaa

/-
  The sides of a point for a shard; whether it lies in it.
-/
namespace Go.Proofs.Ytlnikapkheldeaa
open Go.ChangeShapes Go.WideShapes Go.ChangeAt Go.RowKit Go.Joins
set_option linter.unusedSimpArgs false
set_option linter.unusedVariables false
set_option maxRecDepth 100000
attribute [local go_sem] store_f
open Ieee

theorem infoF : (Try.prog.info? 47).map (fun i => (i.zero, i.size, i.bytes)) = some (some (.float .f32 0), 1, 4) := by kernel_rfl
structure SidesIs (s : Shd) (p1 p2 x y z : Nat) : Prop where
  call : ∀ w : World, Calls Try.prog 172 #[.agg #[.complex .f32 s.a1 s.a2, .complex .f32 s.b1 s.b2, .complex .f32 s.c1 s.c2, .float .f32 s.r, .float .f32 s.g, .float .f32 s.b, .float .f32 s.k], .complex .f32 p1 p2] w fun e w' => ∃ g cap, e = .returned (.slice (some ⟨g, 0, Option.none⟩) 3 cap) ∧ Row3 w' g x y z ∧ Below w.heap.size w w'

set_option maxHeartbeats 4000000 in
theorem sides_of {s : Shd} {p1 p2 x y z : Nat} (C : Corn s) (X : SideIs s.a1 s.a2 s.b1 s.b2 p1 p2 x) (Y : SideIs s.b1 s.b2 s.c1 s.c2 p1 p2 y) (Z : SideIs s.c1 s.c2 s.a1 s.a2 p1 p2 z) : SidesIs s p1 p2 x y z := ⟨fun w => by
  obtain ⟨i0, hi, hz0, hz1, hz2⟩ := info_parts infoF
  go_enter Try.func172, Try.ntmps172
  go_wp2_with fail
  refine (C.call _).mono ?_
  rintro e w1 ⟨rfl, hB, hb1⟩
  have hbel : Below w.heap.size w w1 := by (repeat' (first | (with_reducible exact Below.refl _ _) | (with_reducible assumption) | (with_reducible refine Below.alloc ?_ ?_ _) | (with_reducible refine Below.drew ?_) | (with_reducible refine Below.setCell ?_ ?_ _) | (with_reducible refine Below.trans ?_ (Below.mono (by assumption) ?_)) | (with_reducible exact Nat.le_refl _) | omega | (simp only [World.size_alloc, World.size_setCell, World.size_drew]; omega) | (simp; omega) | (simp; done)))
  simp only [World.size_alloc] at hB
  have hl := hB.lt
  have HC : Hid (Blk w1 (w.heap.size + 1 + 1) #[.complex .f32 s.a1 s.a2, .complex .f32 s.b1 s.b2, .complex .f32 s.c1 s.c2] 28) := hB
  have HB : Hid (Below w.heap.size w w1) := hbel
  have hs1 := hbel.size
  clear hB hb1 hbel
  go_wp2_with fail
  go_loopw [6, 7, 8, 14] (fun v _ _ i wr => ∃ k : Nat, k ≤ 3 ∧ i = .int .i64 k ∧ wr.ownsRow w1.heap.size 47 1 v k (([x, y, z].take k).map (Value.float .f32)) ∧ v ≠ .slice Option.none 0 0 ∧ Below w1.heap.size w1 wr)
    (fun _ _ _ i _ => 3 - (intOf i).toNat)
  case atStart => exact ⟨0, by omega, rfl, World.ownsRow_lit _ #[] 0 (by simp) (by unfold maxLen; omega) rfl, by simp, by (repeat' (first | (with_reducible exact Below.refl _ _) | (with_reducible assumption) | (with_reducible refine Below.alloc ?_ ?_ _) | (with_reducible refine Below.drew ?_) | (with_reducible refine Below.setCell ?_ ?_ _) | (with_reducible refine Below.trans ?_ (Below.mono (by assumption) ?_)) | (with_reducible exact Nat.le_refl _) | omega | (simp only [World.size_alloc, World.size_setCell, World.size_drew]; omega) | (simp; omega) | (simp; done)))⟩
  case round =>
    obtain ⟨k, hk, rfl, hown, hnn, hbel⟩ := hrel
    have HN : Hid (u6 ≠ .slice Option.none 0 0) := hnn
    have hbs := hbel.size
    have c0 := cBelow hbel (Blk.cellAt (i := 0) HC.out rfl)
    have c1 := cBelow hbel (Blk.cellAt (i := 1) HC.out rfl)
    have c2 := cBelow hbel (Blk.cellAt (i := 2) HC.out rfl)
    simp only [List.getElem_toArray, List.getElem_cons_zero, List.getElem_cons_succ] at c0 c1 c2
    clear hnn
    rcases (by omega : k = 0 ∨ k = 1 ∨ k = 2 ∨ k = 3) with rfl | rfl | rfl | rfl
    · replace hown : wr.ownsRow w1.heap.size 47 1 u6 0 [] := hown
      go_wp2_with (first | (go_at_call 203; refine (X.call _).mono ?_; rintro e w2 ⟨rfl, rfl⟩) | (at_builtin; go_loud (refine wpList_append_own _ rfl _ _ 113 rfl w1.heap.size 47 i0 (.float .f32 0) 1 4 Try.underlying113 hi hz0 hz1 hz2 rfl (by decide) _ 0 [] rfl ?hown ⟨w2.heap.size, 0, Option.none⟩ 1 1 [.float .f32 x] rfl rfl ?c1 ?c2 ?c3 ?c4 ?c5 ?_)))
      case hown => (change World.ownsRow _ _ _ _ u6 _ _; (repeat (first | (with_reducible assumption) | (with_reducible refine World.ownsRow.alloc ?_ _) | (with_reducible refine World.ownsRow.drew ?_) | (with_reducible refine ownsBelow (by assumption) ?_))))
      case c1 =>
        intro j u hj
        rcases j with _ | j <;> simp at hj
        subst hj
        simp [Addr.add]
      case c2 =>
        intro u hu
        simp at hu
        subst hu
        rfl
      case c3 => (unfold maxLen; omega)
      case c4 => omega
      case c5 => first | omega | (simp only [World.size_alloc, World.size_setCell, World.size_drew]; omega)
      intro v' w3 hown' hgrow hvn
      have HV : Hid (v' ≠ .slice Option.none 0 0) := hvn
      have hb3 : Below w1.heap.size w1 w3 := Below.grown (by (repeat' (first | (with_reducible exact Below.refl _ _) | (with_reducible assumption) | (with_reducible refine Below.alloc ?_ ?_ _) | (with_reducible refine Below.drew ?_) | (with_reducible refine Below.setCell ?_ ?_ _) | (with_reducible refine Below.trans ?_ (Below.mono (by assumption) ?_)) | (with_reducible exact Nat.le_refl _) | omega | (simp only [World.size_alloc, World.size_setCell, World.size_drew]; omega) | (simp; omega) | (simp; done)))) hgrow (by first | omega | (simp only [World.size_alloc, World.size_setCell, World.size_drew]; omega)) (fun q hq => (hown.lt q hq).1)
      clear hgrow hvn
      go_wp2
      go_roundw
      case rel => exact ⟨1, by omega, by go_num, by simpa using hown', HV.out, hb3⟩
      case measure => simp [intOf]
    · replace hown : wr.ownsRow w1.heap.size 47 1 u6 1 [.float .f32 x] := hown
      go_wp2_with (first | (go_at_call 203; refine (Y.call _).mono ?_; rintro e w2 ⟨rfl, rfl⟩) | (at_builtin; go_loud (refine wpList_append_own _ rfl _ _ 113 rfl w1.heap.size 47 i0 (.float .f32 0) 1 4 Try.underlying113 hi hz0 hz1 hz2 rfl (by decide) _ 1 [.float .f32 x] rfl ?hown ⟨w2.heap.size, 0, Option.none⟩ 1 1 [.float .f32 y] rfl rfl ?c1 ?c2 ?c3 ?c4 ?c5 ?_)))
      case hown => (change World.ownsRow _ _ _ _ u6 _ _; (repeat (first | (with_reducible assumption) | (with_reducible refine World.ownsRow.alloc ?_ _) | (with_reducible refine World.ownsRow.drew ?_) | (with_reducible refine ownsBelow (by assumption) ?_))))
      case c1 =>
        intro j u hj
        rcases j with _ | j <;> simp at hj
        subst hj
        simp [Addr.add]
      case c2 =>
        intro u hu
        simp at hu
        subst hu
        rfl
      case c3 => (unfold maxLen; omega)
      case c4 => omega
      case c5 => first | omega | (simp only [World.size_alloc, World.size_setCell, World.size_drew]; omega)
      intro v' w3 hown' hgrow hvn
      have HV : Hid (v' ≠ .slice Option.none 0 0) := hvn
      have hb3 : Below w1.heap.size w1 w3 := Below.grown (by (repeat' (first | (with_reducible exact Below.refl _ _) | (with_reducible assumption) | (with_reducible refine Below.alloc ?_ ?_ _) | (with_reducible refine Below.drew ?_) | (with_reducible refine Below.setCell ?_ ?_ _) | (with_reducible refine Below.trans ?_ (Below.mono (by assumption) ?_)) | (with_reducible exact Nat.le_refl _) | omega | (simp only [World.size_alloc, World.size_setCell, World.size_drew]; omega) | (simp; omega) | (simp; done)))) hgrow (by first | omega | (simp only [World.size_alloc, World.size_setCell, World.size_drew]; omega)) (fun q hq => (hown.lt q hq).1)
      clear hgrow hvn
      go_wp2
      go_roundw
      case rel => exact ⟨2, by omega, by go_num, by simpa using hown', HV.out, hb3⟩
      case measure => simp [intOf]
    · replace hown : wr.ownsRow w1.heap.size 47 1 u6 2 [.float .f32 x, .float .f32 y] := hown
      go_wp2_with (first | (go_at_call 203; refine (Z.call _).mono ?_; rintro e w2 ⟨rfl, rfl⟩) | (at_builtin; go_loud (refine wpList_append_own _ rfl _ _ 113 rfl w1.heap.size 47 i0 (.float .f32 0) 1 4 Try.underlying113 hi hz0 hz1 hz2 rfl (by decide) _ 2 [.float .f32 x, .float .f32 y] rfl ?hown ⟨w2.heap.size, 0, Option.none⟩ 1 1 [.float .f32 z] rfl rfl ?c1 ?c2 ?c3 ?c4 ?c5 ?_)))
      case hown => (change World.ownsRow _ _ _ _ u6 _ _; (repeat (first | (with_reducible assumption) | (with_reducible refine World.ownsRow.alloc ?_ _) | (with_reducible refine World.ownsRow.drew ?_) | (with_reducible refine ownsBelow (by assumption) ?_))))
      case c1 =>
        intro j u hj
        rcases j with _ | j <;> simp at hj
        subst hj
        simp [Addr.add]
      case c2 =>
        intro u hu
        simp at hu
        subst hu
        rfl
      case c3 => (unfold maxLen; omega)
      case c4 => omega
      case c5 => first | omega | (simp only [World.size_alloc, World.size_setCell, World.size_drew]; omega)
      intro v' w3 hown' hgrow hvn
      have HV : Hid (v' ≠ .slice Option.none 0 0) := hvn
      have hb3 : Below w1.heap.size w1 w3 := Below.grown (by (repeat' (first | (with_reducible exact Below.refl _ _) | (with_reducible assumption) | (with_reducible refine Below.alloc ?_ ?_ _) | (with_reducible refine Below.drew ?_) | (with_reducible refine Below.setCell ?_ ?_ _) | (with_reducible refine Below.trans ?_ (Below.mono (by assumption) ?_)) | (with_reducible exact Nat.le_refl _) | omega | (simp only [World.size_alloc, World.size_setCell, World.size_drew]; omega) | (simp; omega) | (simp; done)))) hgrow (by first | omega | (simp only [World.size_alloc, World.size_setCell, World.size_drew]; omega)) (fun q hq => (hown.lt q hq).1)
      clear hgrow hvn
      go_wp2
      go_roundw
      case rel => exact ⟨3, by omega, by go_num, by simpa using hown', HV.out, hb3⟩
      case measure => simp [intOf]
    · rcases ownsRow_forms hown with ⟨e, _⟩ | ⟨g, cap, rfl⟩
      · exact absurd e HN.out
      have HR : Hid (Row3 wr g x y z) := ⟨by rw [hown.cellAt 0 (by omega)]; rfl, by rw [hown.cellAt 1 (by omega)]; rfl, by rw [hown.cellAt 2 (by omega)]; rfl⟩
      have HBB : Hid (Below w.heap.size w wr) := HB.out.trans (hbel.mono hs1)
      clear c0 c1 c2 hown hbel
      go_wp2
      go_ret
      exact ⟨g, cap, rfl, HR.out, HBB.out⟩⟩

/-- Which point lies in a shard, by the values of its sides. -/
def inZ (x y z : Int) : Bool := decide ((0 ≤ x ∧ 0 ≤ y ∧ 0 ≤ z) ∨ (x ≤ 0 ∧ y ≤ 0 ∧ z ≤ 0))
def inSh (s : Shd) (p1 p2 : Nat) : Bool :=
  inZ (valOf F32 (sideW s.a1 s.a2 s.b1 s.b2 p1 p2)) (valOf F32 (sideW s.b1 s.b2 s.c1 s.c2 p1 p2)) (valOf F32 (sideW s.c1 s.c2 s.a1 s.a2 p1 p2))
structure InIs (s : Shd) (p1 p2 : Nat) (t : Bool) : Prop where
  call : ∀ w : World, Calls Try.prog 140 #[.agg #[.complex .f32 s.a1 s.a2, .complex .f32 s.b1 s.b2, .complex .f32 s.c1 s.c2, .float .f32 s.r, .float .f32 s.g, .float .f32 s.b, .float .f32 s.k], .complex .f32 p1 p2] w fun e w' => e = .returned (.bool t) ∧ Below w.heap.size w w'
structure MinR (x y z n : Nat) : Prop where
  call : ∀ (w : World) (g cap : Nat), Row3 w g x y z → Calls Try.prog 173 #[.slice (some ⟨g, 0, Option.none⟩) 3 cap] w fun e w' => e = .returned (.float .f32 n) ∧ w' = w
structure MaxR (x y z n : Nat) : Prop where
  call : ∀ (w : World) (g cap : Nat), Row3 w g x y z → Calls Try.prog 174 #[.slice (some ⟨g, 0, Option.none⟩) 3 cap] w fun e w' => e = .returned (.float .f32 n) ∧ w' = w

set_option maxHeartbeats 2000000 in
theorem in_of {s : Shd} {p1 p2 x y z m n : Nat} {u v : Bool} (S : ShdIs s true) (P : PtIs p1 p2 true) (D : SidesIs s p1 p2 x y z) (M : MinR x y z m) (N : MaxR x y z n)
    (hu : (FloatKind.f32.format.order m 0 == some .gt || FloatKind.f32.format.order m 0 == some .eq) = u) (hv : (FloatKind.f32.format.order n 0 == some .lt || FloatKind.f32.format.order n 0 == some .eq) = v) : InIs s p1 p2 (u || v) := ⟨fun w => by
  go_enter Try.func140, Try.ntmps140
  go_wp2_with fail
  refine (S.call _).mono ?_
  rintro e w1 ⟨rfl, hb1⟩
  have HS : Hid (Blk w1 w.heap.size #[.complex .f32 s.a1 s.a2, .complex .f32 s.b1 s.b2, .complex .f32 s.c1 s.c2, .float .f32 s.r, .float .f32 s.g, .float .f32 s.b, .float .f32 s.k] 57) := Blk.belowAt hb1 (Blk.newAt rfl)
  have hB1 : Below w.heap.size w w1 := by (repeat' (first | (with_reducible exact Below.refl _ _) | (with_reducible assumption) | (with_reducible refine Below.alloc ?_ ?_ _) | (with_reducible refine Below.drew ?_) | (with_reducible refine Below.setCell ?_ ?_ _) | (with_reducible refine Below.trans ?_ (Below.mono (by assumption) ?_)) | (with_reducible exact Nat.le_refl _) | omega | (simp only [World.size_alloc, World.size_setCell, World.size_drew]; omega) | (simp; omega) | (simp; done)))
  have HB : Hid (Below w.heap.size w w1) := hB1
  have hl := HS.out.lt
  have hs1 := HB.out.size
  clear hb1 hB1
  have d0 := Blk.cellAt (i := 0) HS.out rfl
  have d1 := Blk.cellAt (i := 1) HS.out rfl
  have d2 := Blk.cellAt (i := 2) HS.out rfl
  have d3 := Blk.cellAt (i := 3) HS.out rfl
  have d4 := Blk.cellAt (i := 4) HS.out rfl
  have d5 := Blk.cellAt (i := 5) HS.out rfl
  have d6 := Blk.cellAt (i := 6) HS.out rfl
  simp only [List.getElem_toArray, List.getElem_cons_zero, List.getElem_cons_succ] at d0 d1 d2 d3 d4 d5 d6
  go_wp2_with (go_at_call 77; refine (P.call _).mono ?_; rintro e w2 ⟨rfl, rfl⟩)
  refine (D.call _).mono ?_
  rintro e w3 ⟨g, cap, rfl, hR, hb3⟩
  have HR : Hid (Row3 w3 g x y z) := hR
  have HB3 : Hid (Below w.heap.size w w3) := HB.out.trans (hb3.mono hs1)
  clear hR hb3 d0 d1 d2 d3 d4 d5 d6
  cases u
  · go_wp2_with (first | (go_at_call 173; refine (M.call _ _ _ HR.out).mono ?_; rintro e w4 ⟨rfl, rfl⟩; simp only [hu]) | (go_at_call 174; refine (N.call _ _ _ HR.out).mono ?_; rintro e w5 ⟨rfl, rfl⟩))
    all_goals (go_ret; exact ⟨by simp_all, HB3.out⟩)
  · go_wp2_with (first | (go_at_call 173; refine (M.call _ _ _ HR.out).mono ?_; rintro e w4 ⟨rfl, rfl⟩; simp only [hu]) | (go_at_call 174; refine (N.call _ _ _ HR.out).mono ?_; rintro e w5 ⟨rfl, rfl⟩))
    all_goals (go_ret; exact ⟨by simp_all, HB3.out⟩)⟩
end Go.Proofs.Ytlnikapkheldeaa

/-
  Are they shards? In which shards a point lies.
-/
namespace Go.Proofs.Ytlnikapkheldeaa
open Go.ChangeShapes Go.WideShapes Go.ChangeAt Go.RowKit Go.Joins
set_option linter.unusedSimpArgs false
set_option linter.unusedVariables false
set_option maxRecDepth 100000
attribute [local go_sem] store_f
open Ieee
attribute [local go_sem] store_c

structure AreIs (a : Option Addr) (n cap : Nat) (l : List Shd) : Prop where
  call : ∀ w : World, RowAt w a l → Calls Try.prog 93 #[.slice a n cap] w fun e w' => e = .returned (.bool true) ∧ Below w.heap.size w w'

set_option maxHeartbeats 4000000 in
theorem areIs {a : Option Addr} {cap : Nat} {l : List Shd} (hlen : l.length ≤ 12) (hok : ∀ s ∈ l, s.Ok) : AreIs a l.length cap l := ⟨fun w hrow => by
  have HK : Hid (∀ j, j < l.length → ShdIs (l.getD j default) true) := fun j hj => by
    have h := shdIs (l.getD j default)
    rwa [(hok _ (by simp [List.getD, hj])).yes] at h
  have HR : Hid (RowAt w a l) := hrow
  clear hrow hok
  go_enter Try.func93, Try.ntmps93
  go_wp2_with fail
  go_loopw [10] (fun i wr => ∃ j : Nat, j ≤ l.length ∧ i = .int .i64 j ∧ Below w.heap.size w wr) (fun i _ => l.length - (intOf i).toNat)
  case atStart => exact ⟨0, by omega, rfl, Below.refl _ _⟩
  case round =>
    obtain ⟨j, hj, rfl, hbel⟩ := hrel
    have HB : Hid (Below w.heap.size w wr) := hbel
    have hbs := hbel.size
    by_cases hlt : j < l.length
    · have K := HK.out j hlt
      rcases HR.out with hnil | ⟨b, off, rfl, hR⟩
      · exfalso; rw [hnil] at hlt; simp at hlt
      have hrow := (ShRow.below hR hbel) j hlt
      generalize l.getD j default = s at hrow K
      obtain ⟨d0, d1, d2, d3, d4, d5, d6⟩ := hrow
      clear hbel hR
      go_wp2_with fail
      refine (K.call _).mono ?_
      rintro e w2 ⟨rfl, hb⟩
      have HB2 : Hid (Below w.heap.size w w2) := (HB.out.alloc (by omega) _).trans (hb.mono (by simp; omega))
      clear hb d0 d1 d2 d3 d4 d5 d6
      go_wp2
      go_roundw
      case rel => exact ⟨j + 1, by omega, by go_num, HB2.out⟩
      case measure => simp [intOf]; omega
    · have hjm : j = l.length := by omega
      subst hjm
      clear hbel
      go_wp2
      go_ret
      exact ⟨rfl, HB.out⟩⟩

/-- The places of the shards among the first j in which a point lies. -/
def laysTo (l : List Shd) (x y j : Nat) : List Nat := (List.range j).filter fun i => inSh (l.getD i default) x y
theorem lays_yes {l : List Shd} {x y j : Nat} (h : inSh (l.getD j default) x y = true) : laysTo l x y (j + 1) = laysTo l x y j ++ [j] := by
  unfold laysTo
  rw [List.range_succ, List.filter_append]
  simp only [List.filter_cons, h, if_true, List.filter_nil]
theorem lays_no {l : List Shd} {x y j : Nat} (h : inSh (l.getD j default) x y = false) : laysTo l x y (j + 1) = laysTo l x y j := by
  unfold laysTo
  rw [List.range_succ, List.filter_append]
  simp only [List.filter_cons, h, Bool.false_eq_true, if_false, List.filter_nil, List.append_nil]
theorem lays_le (l : List Shd) (x y j : Nat) : (laysTo l x y j).length ≤ j := by
  have := List.length_filter_le (fun i => inSh (l.getD i default) x y) (List.range j)
  simpa [laysTo] using this
def intCells (l : List Nat) : List Value := l.map fun (n : Nat) => Value.int .i64 n
theorem intCells_snoc (l : List Nat) (n : Nat) : intCells (l ++ [n]) = intCells l ++ [.int .i64 n] := by simp [intCells]
theorem infoI : (Try.prog.info? 3).map (fun i => (i.zero, i.size, i.bytes)) = some (some (.int .i64 0), 1, 8) := by kernel_rfl

/-- What LayersAt gives. -/
structure Layers (w : World) (e : Ending) (w' : World) (m : List Nat) : Prop where
  ret : ∃ g cap, e = .returned (.slice (some ⟨g, 0, Option.none⟩) m.length cap) ∧ g < w'.heap.size ∧ ∀ k, k < m.length → w'.cell? ⟨g, k, Option.none⟩ = some (.int .i64 (m.getD k 0 : Nat))
  below : Below w.heap.size w w'

end Go.Proofs.Ytlnikapkheldeaa

/-
  MixColours on both sides.
-/
namespace Go.Proofs.Ytlnikapkheldeaa
open Go.ChangeShapes Go.WideShapes Go.ChangeAt Go.RowKit Go.Joins
set_option linter.unusedSimpArgs false
set_option linter.unusedVariables false
set_option maxRecDepth 100000
attribute [local go_sem] store_f

structure AreC (a b c x y z : Nat) (p : Bool) : Prop where
  call : ∀ w : World, Calls Try.prog 151 #[.agg #[.float .f32 a, .float .f32 b, .float .f32 c], .agg #[.float .f32 x, .float .f32 y, .float .f32 z]] w fun e w' => e = .returned (.bool p) ∧ Below w.heap.size w w'
structure ShaI (k : Nat) (p : Bool) : Prop where
  call : ∀ w : World, Calls Try.prog 137 #[.float .f32 k] w fun e w' => e = .returned (.bool p) ∧ w' = w
structure ShaS (k : Nat) (p : Bool) : Prop where
  call : ∀ w : World, Calls Try.prog 159 #[.float .f32 k] w fun e w' => e = .returned (.bool p) ∧ Below w.heap.size w w'

theorem mix_i_no1 (a b c x y z k : Nat) (K : AreC a b c x y z false) (w : World) :
    Calls Try.prog 141 #[colV a b c, colV x y z, .float .f32 k] w fun e w' => e = .returned (colV 0 0 0) ∧ Below w.heap.size w w' := by
  unfold colV
  go_enter Try.func141, Try.ntmps141
  go_wp2_with (go_at_call 151; refine (K.call _).mono ?_; rintro e w1 ⟨rfl, hb⟩; obtain ⟨hc, hf⟩ := bcell hb; have HL := keepL (by (repeat (first | (with_reducible assumption) | (with_reducible apply AllLt.alloc) | (with_reducible apply AllLt.setCell) | (with_reducible apply AllLt.drew) | (with_reducible exact AllLt.nil _)))) hb; have hq := HL; simp only [AllLt, and_true, World.size_alloc, World.size_setCell, World.size_drew] at hq; have hbs := hb.size; try simp only [World.size_alloc, World.size_setCell, World.size_drew] at hbs)
  (have HB : Blk w1 (w.heap.size + 2) #[.float .f32 0, .float .f32 0, .float .f32 0] 49 := (by (repeat (first | (with_reducible exact Blk.newAt (by simp; done)) | (with_reducible refine Blk.below ?_ (by assumption)) | (with_reducible refine Blk.alloc ?_) | (with_reducible refine Blk.drew ?_) | (with_reducible refine Blk.other ?_ (by dsimp only; omega))))); (have d0 := (HB.set (i := 0) (v := .float .f32 0)).cell 0; have d1 := ((HB.set (i := 0) (v := .float .f32 0)).set (i := 1) (v := .float .f32 0)).cell 1; have d2 := (((HB.set (i := 0) (v := .float .f32 0)).set (i := 1) (v := .float .f32 0)).set (i := 2) (v := .float .f32 0)).cell 2; simp only [List.setIfInBounds_toArray, List.set_cons_zero, List.set_cons_succ, List.getElem?_toArray, List.getElem?_cons_zero, List.getElem?_cons_succ] at d0 d1 d2; exact bodyPost_ret (v := .agg #[.float .f32 0, .float .f32 0, .float .f32 0]) (by simp [results, Try.results141, go_sem, d0, d1, d2]) rfl ⟨rfl, by (repeat' (first | (with_reducible exact Below.refl _ _) | (with_reducible assumption) | (with_reducible refine Below.alloc ?_ ?_ _) | (with_reducible refine Below.drew ?_) | (with_reducible refine Below.setCell ?_ ?_ _) | (with_reducible refine Below.trans ?_ (Below.mono (by assumption) ?_)) | (with_reducible exact Nat.le_refl _) | omega | (simp only [World.size_alloc, World.size_setCell, World.size_drew]; omega) | (simp; omega) | (simp; done)))⟩))

theorem mix_i_no2 (a b c x y z k : Nat) (K : AreC a b c x y z true) (S : ShaI k false) (w : World) :
    Calls Try.prog 141 #[colV a b c, colV x y z, .float .f32 k] w fun e w' => e = .returned (colV 0 0 0) ∧ Below w.heap.size w w' := by
  unfold colV
  go_enter Try.func141, Try.ntmps141
  go_wp2_with (first | (go_at_call 151; refine (K.call _).mono ?_; rintro e w1 ⟨rfl, hb⟩; obtain ⟨hc, hf⟩ := bcell hb; have HL := keepL (by (repeat (first | (with_reducible assumption) | (with_reducible apply AllLt.alloc) | (with_reducible apply AllLt.setCell) | (with_reducible apply AllLt.drew) | (with_reducible exact AllLt.nil _)))) hb; have hq := HL; simp only [AllLt, and_true, World.size_alloc, World.size_setCell, World.size_drew] at hq; have hbs := hb.size; try simp only [World.size_alloc, World.size_setCell, World.size_drew] at hbs) | (go_at_call 137; refine (S.call _).mono ?_; rintro e w2 ⟨rfl, rfl⟩))
  (have HB : Blk w2 (w.heap.size + 2) #[.float .f32 0, .float .f32 0, .float .f32 0] 49 := (by (repeat (first | (with_reducible exact Blk.newAt (by simp; done)) | (with_reducible refine Blk.below ?_ (by assumption)) | (with_reducible refine Blk.alloc ?_) | (with_reducible refine Blk.drew ?_) | (with_reducible refine Blk.other ?_ (by dsimp only; omega))))); (have d0 := (HB.set (i := 0) (v := .float .f32 0)).cell 0; have d1 := ((HB.set (i := 0) (v := .float .f32 0)).set (i := 1) (v := .float .f32 0)).cell 1; have d2 := (((HB.set (i := 0) (v := .float .f32 0)).set (i := 1) (v := .float .f32 0)).set (i := 2) (v := .float .f32 0)).cell 2; simp only [List.setIfInBounds_toArray, List.set_cons_zero, List.set_cons_succ, List.getElem?_toArray, List.getElem?_cons_zero, List.getElem?_cons_succ] at d0 d1 d2; exact bodyPost_ret (v := .agg #[.float .f32 0, .float .f32 0, .float .f32 0]) (by simp [results, Try.results141, go_sem, d0, d1, d2]) rfl ⟨rfl, by (repeat' (first | (with_reducible exact Below.refl _ _) | (with_reducible assumption) | (with_reducible refine Below.alloc ?_ ?_ _) | (with_reducible refine Below.drew ?_) | (with_reducible refine Below.setCell ?_ ?_ _) | (with_reducible refine Below.trans ?_ (Below.mono (by assumption) ?_)) | (with_reducible exact Nat.le_refl _) | omega | (simp only [World.size_alloc, World.size_setCell, World.size_drew]; omega) | (simp; omega) | (simp; done)))⟩))

structure LessI (k s : Nat) : Prop where
  call : ∀ w : World, Calls Try.prog 175 #[.float .f32 1065353216, .float .f32 k] w fun e w' => e = .returned (.float .f32 s) ∧ w' = w
structure EachM (a b c x y z s k p q r : Nat) : Prop where
  call : ∀ (pa pb : Nat) (w : World), w.cell? ⟨pa, 0, Option.none⟩ = some (.float .f64 s) → w.cell? ⟨pb, 0, Option.none⟩ = some (.float .f64 k) →
    Calls Try.prog 153 #[.agg #[.float .f32 a, .float .f32 x, .float .f32 b, .float .f32 y, .float .f32 c, .float .f32 z], .func (.func 177) #[] #[.pointer (some ⟨pa, 0, Option.none⟩), .pointer (some ⟨pb, 0, Option.none⟩)]] w fun e w' =>
      e = .returned (.agg #[.float .f32 p, .float .f32 q, .float .f32 r]) ∧ Below w.heap.size w w'
structure PairI (a b c x y z : Nat) : Prop where
  call : ∀ w : World, Calls Try.prog 154 #[.agg #[.float .f32 a, .float .f32 b, .float .f32 c], .agg #[.float .f32 x, .float .f32 y, .float .f32 z]] w fun e w' => e = .returned (.agg #[.float .f32 a, .float .f32 x, .float .f32 b, .float .f32 y, .float .f32 c, .float .f32 z]) ∧ Below w.heap.size w w'
structure ColI (a b c : Nat) : Prop where
  call : ∀ w : World, Calls Try.prog 176 #[.agg #[.float .f32 a, .float .f32 b, .float .f32 c]] w fun e w' => e = .returned (.agg #[.float .f32 a, .float .f32 b, .float .f32 c]) ∧ Below w.heap.size w w'

set_option maxHeartbeats 1000000 in
theorem mix_i_yes (a b c x y z k s s2 k2 p q r : Nat) (K : AreC a b c x y z true) (S : ShaI k true) (L : LessI k s)
    (cs : floatToFloatBits .f32 s .f64 = some s2) (ck : floatToFloatBits .f32 k .f64 = some k2) (P : PairI a b c x y z) (E : EachM a b c x y z s2 k2 p q r) (C : ColI p q r) (w : World) :
    Calls Try.prog 141 #[colV a b c, colV x y z, .float .f32 k] w fun e w' => e = .returned (colV p q r) ∧ Below w.heap.size w w' := by
  have qs := fun w => run_convert_float_float (P := Try.prog) w 47 88 .f32 .f64 s _ (by rw [Try.underlying47]; rfl) Try.underlying88 cs
  have qk := fun w => run_convert_float_float (P := Try.prog) w 47 88 .f32 .f64 k _ (by rw [Try.underlying47]; rfl) Try.underlying88 ck
  clear cs ck
  unfold colV
  go_enter Try.func141, Try.ntmps141
  go_wp2_with (first | simp only [qs] | simp only [qk] | (go_at_call 151; refine (K.call _).mono ?_; rintro e w1 ⟨rfl, hb⟩; obtain ⟨hc, hf⟩ := bcell hb; have HL := keepL (by (repeat (first | (with_reducible assumption) | (with_reducible apply AllLt.alloc) | (with_reducible apply AllLt.setCell) | (with_reducible apply AllLt.drew) | (with_reducible exact AllLt.nil _)))) hb; have hq := HL; simp only [AllLt, and_true, World.size_alloc, World.size_setCell, World.size_drew] at hq; have hbs := hb.size; try simp only [World.size_alloc, World.size_setCell, World.size_drew] at hbs) | (go_at_call 137; refine (S.call _).mono ?_; rintro e w2 ⟨rfl, rfl⟩) | (go_at_call 175; refine (L.call _).mono ?_; rintro e w3 ⟨rfl, rfl⟩) | (go_at_call 154; refine (P.call _).mono ?_; rintro e w4 ⟨rfl, hb⟩; obtain ⟨hc, hf⟩ := bcell hb; have HL := keepL (by (repeat (first | (with_reducible assumption) | (with_reducible apply AllLt.alloc) | (with_reducible apply AllLt.setCell) | (with_reducible apply AllLt.drew) | (with_reducible exact AllLt.nil _)))) hb; have hq := HL; simp only [AllLt, and_true, World.size_alloc, World.size_setCell, World.size_drew] at hq; have hbs := hb.size; try simp only [World.size_alloc, World.size_setCell, World.size_drew] at hbs))
  have ca : w4.cell? ⟨w3.heap.size, 0, Option.none⟩ = some (.float .f64 s2) := by ((repeat (first | (with_reducible assumption) | (with_reducible exact cNewAt (by first | rfl | (simp only [World.size_alloc, World.size_setCell, World.size_drew]; done) | omega) rfl) | (with_reducible exact sNewAt (by first | rfl | (simp only [World.size_alloc, World.size_setCell, World.size_drew]; done) | omega) rfl) | (simp; done) | (with_reducible apply cAlloc) | (with_reducible apply cDrew) | (with_reducible refine cSet (by dsimp only; omega) ?_) | (with_reducible refine cSetOff (by dsimp only; omega) ?_) | (with_reducible apply cSame) | (with_reducible refine cBelow (by assumption) ?_) | (with_reducible apply sAlloc) | (with_reducible apply sDrew) | (with_reducible refine sBelow (by assumption) ?_) | (with_reducible refine sSet (by dsimp only; omega) ?_))); first | done | (simp [*]; done))
  have cb : w4.cell? ⟨w3.heap.size + 1, 0, Option.none⟩ = some (.float .f64 k2) := by ((repeat (first | (with_reducible assumption) | (with_reducible exact cNewAt (by first | rfl | (simp only [World.size_alloc, World.size_setCell, World.size_drew]; done) | omega) rfl) | (with_reducible exact sNewAt (by first | rfl | (simp only [World.size_alloc, World.size_setCell, World.size_drew]; done) | omega) rfl) | (simp; done) | (with_reducible apply cAlloc) | (with_reducible apply cDrew) | (with_reducible refine cSet (by dsimp only; omega) ?_) | (with_reducible refine cSetOff (by dsimp only; omega) ?_) | (with_reducible apply cSame) | (with_reducible refine cBelow (by assumption) ?_) | (with_reducible apply sAlloc) | (with_reducible apply sDrew) | (with_reducible refine sBelow (by assumption) ?_) | (with_reducible refine sSet (by dsimp only; omega) ?_))); first | done | (simp [*]; done))
  refine (E.call _ _ _ ca cb).mono ?_
  rintro e w5 ⟨rfl, hb5⟩
  have hb := hb5
  obtain ⟨hc, hf⟩ := bcell hb; have HL := keepL (by (repeat (first | (with_reducible assumption) | (with_reducible apply AllLt.alloc) | (with_reducible apply AllLt.setCell) | (with_reducible apply AllLt.drew) | (with_reducible exact AllLt.nil _)))) hb; have hq := HL; simp only [AllLt, and_true, World.size_alloc, World.size_setCell, World.size_drew] at hq; have hbs := hb.size; try simp only [World.size_alloc, World.size_setCell, World.size_drew] at hbs
  go_wp2_with (go_at_call 176; refine (C.call _).mono ?_; rintro e w6 ⟨rfl, hb6⟩; have hb := hb6; obtain ⟨hc, hf⟩ := bcell hb; have HL := keepL (by (repeat (first | (with_reducible assumption) | (with_reducible apply AllLt.alloc) | (with_reducible apply AllLt.setCell) | (with_reducible apply AllLt.drew) | (with_reducible exact AllLt.nil _)))) hb; have hq := HL; simp only [AllLt, and_true, World.size_alloc, World.size_setCell, World.size_drew] at hq; have hbs := hb.size; try simp only [World.size_alloc, World.size_setCell, World.size_drew] at hbs)
  (have HB : Blk w6 (w.heap.size + 2) #[.float .f32 0, .float .f32 0, .float .f32 0] 49 := (by (repeat (first | (with_reducible exact Blk.newAt (by simp; done)) | (with_reducible refine Blk.below ?_ (by assumption)) | (with_reducible refine Blk.alloc ?_) | (with_reducible refine Blk.drew ?_) | (with_reducible refine Blk.other ?_ (by dsimp only; omega))))); (have d0 := (HB.set (i := 0) (v := .float .f32 p)).cell 0; have d1 := ((HB.set (i := 0) (v := .float .f32 p)).set (i := 1) (v := .float .f32 q)).cell 1; have d2 := (((HB.set (i := 0) (v := .float .f32 p)).set (i := 1) (v := .float .f32 q)).set (i := 2) (v := .float .f32 r)).cell 2; simp only [List.setIfInBounds_toArray, List.set_cons_zero, List.set_cons_succ, List.getElem?_toArray, List.getElem?_cons_zero, List.getElem?_cons_succ] at d0 d1 d2; exact bodyPost_ret (v := .agg #[.float .f32 p, .float .f32 q, .float .f32 r]) (by simp [results, Try.results141, go_sem, d0, d1, d2]) rfl ⟨rfl, by (repeat' (first | (with_reducible exact Below.refl _ _) | (with_reducible assumption) | (with_reducible refine Below.alloc ?_ ?_ _) | (with_reducible refine Below.drew ?_) | (with_reducible refine Below.setCell ?_ ?_ _) | (with_reducible refine Below.trans ?_ (Below.mono (by assumption) ?_)) | (with_reducible exact Nat.le_refl _) | omega | (simp only [World.size_alloc, World.size_setCell, World.size_drew]; omega) | (simp; omega) | (simp; done)))⟩))
end Go.Proofs.Ytlnikapkheldeaa
