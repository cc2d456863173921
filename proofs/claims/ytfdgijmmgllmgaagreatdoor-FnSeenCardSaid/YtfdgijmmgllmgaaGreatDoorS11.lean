/-
  Texts Hb Hd Va Ua Qa Gd, joined.
-/
import Derived.Test.YtfdgijmmgllmgaaGreatDoorS10
import Derived.Deep.QuietTactic
import Derived.BigQuiet
import Derived.Test.YtfdgijmmgllmgaaGreatDoorS07
import Derived.WalkLawsBesides
import Derived.Test.YtfdgijmmgllmgaaGreatDoorS08
import Derived.Test.YtfdgijmmgllmgaaGreatDoorS06
import Derived.Maps.AppendAt
namespace Go.Proofs.YtfdgijmmgllmgaaGreatDoor
open Go.ChangeShapes Go.WideShapes Go.ChangeAt Go.RowKit Go.Joins
set_option linter.unusedSimpArgs false
set_option linter.unusedVariables false
set_option maxRecDepth 100000
attribute [local go_sem] store_f
open Ieee
attribute [local go_sem] store_c
def sizeB (n : Int) : Bool := decide (1 ≤ n ∧ n ≤ 8)
theorem isSize_i (n : Int) (w : World) : Calls Tryz.prog 19 #[.int .i64 n] w fun e w' => e = .returned (.bool (sizeB n)) ∧ w' = w := by
  by_cases h1 : 1 ≤ n
  · by_cases h2 : n ≤ 8
    · have e : sizeB n = true := by unfold sizeB; simp; omega
      rw [e]
      go_enter Tryz.func19, Tryz.ntmps19
      go_wp2
      go_ret
      exact ⟨rfl, rfl⟩
    · have e : sizeB n = false := by unfold sizeB; simp; omega
      rw [e]
      have hd : decide (n ≤ 8) = false := by simpa using h2
      go_enter Tryz.func19, Tryz.ntmps19
      go_wp2
      go_ret
      exact ⟨rfl, rfl⟩
  · have e : sizeB n = false := by unfold sizeB; simp; omega
    rw [e]
    have hd : decide (1 ≤ n) = false := by simpa using h1
    go_enter Tryz.func19, Tryz.ntmps19
    go_wp2
    go_ret
    exact ⟨rfl, rfl⟩
structure CellPl (n k : Int) (x y : Nat) (b : Bool) : Prop where
  call : ∀ w : World, Calls Tryz.prog 83 #[.int .i64 n, .int .i64 k] w fun e w' => e = .returned (.tuple #[.complex .f32 x y, .bool b]) ∧ Below w.heap.size w w'
set_option maxHeartbeats 4000000 in
theorem cellPl_yes {n k : Nat} (h1 : 1 ≤ n) (h8 : n ≤ 8) (hk : k < n * n) : CellPl n k (iw (plX n k)) (iw (plY n k)) true := ⟨fun w => by
  unfold plX plY iw
  rcases (by omega : n = 1 ∨ n = 2 ∨ n = 3 ∨ n = 4 ∨ n = 5 ∨ n = 6 ∨ n = 7 ∨ n = 8) with rfl | rfl | rfl | rfl | rfl | rfl | rfl | rfl
  all_goals
    go_enter Tryz.func83, Tryz.ntmps83
    go_wp2
    go_quiet (fail)
    go_wp2
    go_ret2
    exact ⟨by simp, below_draws _ _ _⟩⟩
theorem size_cases {n : Int} (h : sizeB n = true) : ∃ m : Nat, n = m ∧ 1 ≤ m ∧ m ≤ 8 := by
  unfold sizeB at h
  simp at h
  exact ⟨n.toNat, by omega, by omega, by omega⟩
theorem cellAt_i {n : Nat} {x y : Int} (h1 : 1 ≤ n) (h8 : n ≤ 8) (hx : -((n : Int) - 1) ≤ x ∧ x ≤ (n : Int) - 1) (hy : -((n : Int) - 1) ≤ y ∧ y ≤ (n : Int) - 1) (w : World) :
    Calls Tryz.prog 89 #[.int .i64 n, .complex .f32 (iw x) (iw y)] w fun e w' => e = .returned (.int .i64 (cellOf n x y : Nat)) ∧ w' = w := by
  have hcx := fun w => run_convert_float_int (P := Tryz.prog) w 24 3 .f32 .i64 (iw x) x (by rw [Tryz.underlying24]; rfl) Tryz.underlying3 (iw_of (z := x) (by omega) (by omega)).2.2.2
  have hcy := fun w => run_convert_float_int (P := Tryz.prog) w 24 3 .f32 .i64 (iw y) y (by rw [Tryz.underlying24]; rfl) Tryz.underlying3 (iw_of (z := y) (by omega) (by omega)).2.2.2
  unfold cellOf
  generalize iw x = a at *
  generalize iw y = b at *
  rcases (by omega : n = 1 ∨ n = 2 ∨ n = 3 ∨ n = 4 ∨ n = 5 ∨ n = 6 ∨ n = 7 ∨ n = 8) with rfl | rfl | rfl | rfl | rfl | rfl | rfl | rfl
  · obtain rfl : x = 0 := by omega
    obtain rfl : y = 0 := by omega
    go_enter Tryz.func89, Tryz.ntmps89
    go_wp2_with (first | simp only [hcx] | simp only [hcy])
    go_ret
    exact ⟨by first | rfl | (simp; done), rfl⟩
  all_goals
    go_enter Tryz.func89, Tryz.ntmps89
    go_wp2_with (first | simp only [hcx] | simp only [hcy])
    go_ret
    exact ⟨by first | (congr 2; omega) | (simp; omega), rfl⟩
structure CellM (n k t : Int) (f : Bool) (c : Int) : Prop where
  call : ∀ w : World, Calls Tryz.prog 57 #[.int .i64 n, .int .i64 k, .agg #[.int .i64 t, .bool f]] w fun e w' => e = .returned (.int .i64 c) ∧ Below w.heap.size w w'
structure CellAt (n : Nat) (x y : Nat) (c : Nat) : Prop where
  call : ∀ w : World, Calls Tryz.prog 89 #[.int .i64 n, .complex .f32 x y] w fun e w' => e = .returned (.int .i64 c) ∧ w' = w
theorem cellM_of {n k : Nat} {t : Nat} {f : Bool} {x y p q c : Nat} (ht : t < 4) (P : CellPl n k x y true) (A : ActM t f x y p q) (C : CellAt n p q c) : CellM n k t f c := ⟨fun w => by
  go_enter Tryz.func57, Tryz.ntmps57
  go_wp2_with (first | (go_at_call 83; refine (P.call _).mono ?_; rintro e w1 ⟨rfl, hb⟩; obtain ⟨hc, hf⟩ := bcell hb; have HL := keepL (by (repeat (first | (with_reducible assumption) | (with_reducible apply AllLt.alloc) | (with_reducible apply AllLt.setCell) | (with_reducible apply AllLt.drew) | (with_reducible exact AllLt.nil _)))) hb; have hq := HL; simp only [AllLt, and_true, World.size_alloc, World.size_setCell, World.size_drew] at hq; have hbs := hb.size; try simp only [World.size_alloc, World.size_setCell, World.size_drew] at hbs) | (go_at_call 30; refine (isSym_yes _ _ _ (by omega) (by omega)).mono ?_; rintro e w1 ⟨rfl, hb⟩; obtain ⟨hc, hf⟩ := bcell hb; have HL := keepL (by (repeat (first | (with_reducible assumption) | (with_reducible apply AllLt.alloc) | (with_reducible apply AllLt.setCell) | (with_reducible apply AllLt.drew) | (with_reducible exact AllLt.nil _)))) hb; have hq := HL; simp only [AllLt, and_true, World.size_alloc, World.size_setCell, World.size_drew] at hq; have hbs := hb.size; try simp only [World.size_alloc, World.size_setCell, World.size_drew] at hbs) | (go_at_call 90; refine (A.call _).mono ?_; rintro e w1 ⟨rfl, hb⟩; obtain ⟨hc, hf⟩ := bcell hb; have HL := keepL (by (repeat (first | (with_reducible assumption) | (with_reducible apply AllLt.alloc) | (with_reducible apply AllLt.setCell) | (with_reducible apply AllLt.drew) | (with_reducible exact AllLt.nil _)))) hb; have hq := HL; simp only [AllLt, and_true, World.size_alloc, World.size_setCell, World.size_drew] at hq; have hbs := hb.size; try simp only [World.size_alloc, World.size_setCell, World.size_drew] at hbs) | (go_at_call 89; refine (C.call _).mono ?_; rintro e w3 ⟨rfl, rfl⟩))
  go_ret
  exact ⟨rfl, by (repeat' (first | (with_reducible exact Below.refl _ _) | (with_reducible assumption) | (with_reducible refine Below.alloc ?_ ?_ _) | (with_reducible refine Below.drew ?_) | (with_reducible refine Below.setCell ?_ ?_ _) | (with_reducible refine Below.trans ?_ (Below.mono (by assumption) ?_)) | (with_reducible exact Nat.le_refl _) | omega | (simp only [World.size_alloc, World.size_setCell, World.size_drew]; omega) | (simp; omega) | (simp; done)))⟩⟩
theorem cellM_yes {n k t : Nat} (f : Bool) (h1 : 1 ≤ n) (h8 : n ≤ 8) (hk : k < n * n) (ht : t < 4) : CellM n k t f (cellN n t f k : Nat) := by
  obtain ⟨b1, b2⟩ := pl_bd h1 (cell_lt' (f := f) h8 hk ht)
  refine cellM_of ht (cellPl_yes h1 h8 hk) (act_place f h1 h8 hk ht) ⟨fun w => ?_⟩
  have h := cellAt_i h1 h8 b1 b2 w
  obtain ⟨e1, e2⟩ := cell_place (f := f) h8 hk ht
  rw [e1, e2] at h ⊢
  exact h
end Go.Proofs.YtfdgijmmgllmgaaGreatDoor
namespace Go.Proofs.YtfdgijmmgllmgaaGreatDoor
open Go.ChangeShapes Go.WideShapes Go.ChangeAt Go.RowKit Go.Joins
set_option linter.unusedSimpArgs false
set_option linter.unusedVariables false
set_option maxRecDepth 100000
attribute [local go_sem] store_f
open Ieee
def leastL (n k : Nat) (l : List (Int × Bool)) : Nat := l.foldl (fun m p => min m (cellN n p.1.toNat p.2 k)) k
theorem leastL_le (n k : Nat) (l : List (Int × Bool)) : leastL n k l ≤ k := by
  unfold leastL
  have key : ∀ (l : List (Int × Bool)) (m : Nat), l.foldl (fun m p => min m (cellN n p.1.toNat p.2 k)) m ≤ m := by
    intro l
    induction l with
    | nil => intro m; exact Nat.le_refl _
    | cons p l ih => intro m; exact Nat.le_trans (ih _) (Nat.min_le_left _ _)
  exact key l k
def leastN (kind : Int) (n k : Nat) : Nat := leastL n k (symsTo kind 8)
theorem symsTo_in (kind : Int) : ∀ p ∈ symsTo kind 8, ∃ t : Nat, p.1 = t ∧ t < 4 := by
  intro p hp
  unfold symsTo at hp
  obtain ⟨h1, _⟩ := List.mem_filter.1 hp
  obtain ⟨i, hi, rfl⟩ := List.mem_map.1 h1
  exact ⟨i % 4, rfl, by omega⟩
end Go.Proofs.YtfdgijmmgllmgaaGreatDoor
namespace Go.Proofs.YtfdgijmmgllmgaaGreatDoor
open Go.ChangeShapes Go.WideShapes Go.ChangeAt Go.RowKit Go.Joins
set_option linter.unusedSimpArgs false
set_option linter.unusedVariables false
set_option maxRecDepth 100000
attribute [local go_sem] store_f
open Ieee
attribute [local go_sem] store_c
def stepB (i : Nat) : Nat := [1048576000, 1056964608, 1065353216, 1073741824, 1050253722].getD i 0
def pwB (i : Nat) (z : Int) : Nat := match F32.mul (iw z) (stepB i) with | some r => setB r | none => 0
def pwOk (i m : Nat) : Bool := (F32.mul (iw ((m : Int) - 7)) (stepB i)).isSome && okB (pwB i ((m : Int) - 7)) && (cleanB (pwB i ((m : Int) - 7)) == pwB i ((m : Int) - 7)) && (ngB (pwB i ((m : Int) - 7)) == pwB i (7 - (m : Int)))
theorem pw_all : ∀ i : Nat, i < 5 → ∀ m : Nat, m < 15 → pwOk i m = true := by decide +kernel
theorem pw_of {i : Nat} {z : Int} (hi : i < 5) (h1 : -7 ≤ z) (h2 : z ≤ 7) : (∃ r, F32.mul (iw z) (stepB i) = some r ∧ setB r = pwB i z) ∧ okB (pwB i z) = true ∧ cleanB (pwB i z) = pwB i z ∧ ngB (pwB i z) = pwB i (-z) := by
  have h := pw_all i hi (z + 7).toNat (by omega)
  have e : (((z + 7).toNat : Nat) : Int) - 7 = z := by omega
  have e2 : 7 - (((z + 7).toNat : Nat) : Int) = -z := by omega
  unfold pwOk at h
  rw [e, e2] at h
  simp only [Bool.and_eq_true, beq_iff_eq] at h
  refine ⟨?_, h.1.1.2, h.1.2, h.2⟩
  obtain ⟨r, hr⟩ := Option.isSome_iff_exists.1 h.1.1.1
  exact ⟨r, hr, by unfold pwB; rw [hr]⟩
theorem pw_pt {i : Nat} {z : Int} (hi : i < 5) (h1 : -7 ≤ z) (h2 : z ≤ 7) : Pt (pwB i z) := by
  have h := pw_of hi h1 h2
  rw [← h.2.2.1]
  exact pt_clean h.2.1
def zOf (i n k : Nat) (hi : i < 5) (h1 : 1 ≤ n) (h8 : n ≤ 8) (hk : k < n * n) : PtW :=
  ⟨(pwB i (plX n k), pwB i (plY n k)), by
    obtain ⟨a, b⟩ := pl_bd h1 hk
    exact ⟨pw_pt hi (by omega) (by omega), pw_pt hi (by omega) (by omega)⟩⟩
theorem zOf_act {i n k t : Nat} {f : Bool} (hi : i < 5) (h1 : 1 ≤ n) (h8 : n ≤ 8) (hk : k < n * n) (ht : t < 4) :
    actP ((t : Int), f) (zOf i n k hi h1 h8 hk) = zOf i n (cellN n t f k) hi h1 h8 (cell_lt' h8 hk ht) := by
  apply Subtype.ext
  obtain ⟨a, b⟩ := pl_bd h1 hk
  obtain ⟨e1, e2⟩ := cell_place (f := f) h8 hk ht
  have nx := (pw_of (z := plX n k) hi (by omega) (by omega)).2.2.2
  have ny := (pw_of (z := plY n k) hi (by omega) (by omega)).2.2.2
  show actV ((t : Int)).toNat f (pwB i (plX n k)) (ngB (pwB i (plX n k))) (pwB i (plY n k)) (ngB (pwB i (plY n k))) = (pwB i (plX n (cellN n t f k)), pwB i (plY n (cellN n t f k)))
  rw [e1, e2, nx, ny]
  have e : ((t : Int)).toNat = t := rfl
  rw [e]
  rcases (by omega : t = 0 ∨ t = 1 ∨ t = 2 ∨ t = 3) with rfl | rfl | rfl | rfl <;> cases f <;> rfl
end Go.Proofs.YtfdgijmmgllmgaaGreatDoor
namespace Go.Proofs.YtfdgijmmgllmgaaGreatDoor
open Go.ChangeShapes Go.WideShapes Go.ChangeAt Go.RowKit Go.Joins
set_option linter.unusedSimpArgs false
set_option linter.unusedVariables false
set_option maxRecDepth 100000
attribute [local go_sem] store_f
open Ieee Go.Lib
structure Evw where
  kind : Int
  n : Int
  z1 : Nat
  z2 : Nat
  s : Shd
  l : Lit
def shd0 : Shd := ⟨0, 0, 0, 0, 0, 0, 0, 0, 0, 0⟩
def lit0 : Lit := ⟨0, 0, 0⟩
instance : Inhabited Evw := ⟨⟨0, 0, 0, 0, shd0, lit0⟩⟩
structure Sho where
  size : Int
  step : Nat
  lit : Lit
  shs : List Shd
  kind : Int
  g1 : Nat
  g2 : Nat
  bds : List Bw
  ticks : Int
  log : List Evw
instance : Inhabited Sho := ⟨⟨0, 0, lit0, [], 0, 0, 0, [], 0, []⟩⟩
inductive Ev where
  | add (s : Shd) (z : PtW)
  | take (n : Nat)
  | light (c : Lit)
  | mirrors (k : Nat)
  | gravity (z : PtW)
  | push (n : Nat) (z : PtW)
  | wait (n : Nat)
instance : Inhabited Ev := ⟨.take 0⟩
def Ev.w : Ev → Evw
  | .add s z => ⟨1, 0, z.1.1, z.1.2, s, lit0⟩
  | .take n => ⟨2, n, 0, 0, shd0, lit0⟩
  | .light c => ⟨3, 0, 0, 0, shd0, c⟩
  | .mirrors k => ⟨4, k, 0, 0, shd0, lit0⟩
  | .gravity z => ⟨5, 0, z.1.1, z.1.2, shd0, lit0⟩
  | .push n z => ⟨6, n, z.1.1, z.1.2, shd0, lit0⟩
  | .wait n => ⟨7, n, 0, 0, shd0, lit0⟩
def Ev.Ok : Ev → Prop
  | .add s z => s.Drawn ∧ Lim 40 z
  | .take n => n ≤ 8
  | .light c => c.Ok
  | .mirrors k => k ≤ 3
  | .gravity z => Lim 1 z
  | .push n z => n ≤ 8 ∧ Lim 5 z
  | .wait n => 1 ≤ n ∧ n ≤ 6
def Ev.big : Ev → Nat
  | .add _ _ => 1
  | .push _ _ => 1
  | .wait _ => 1
  | _ => 0
theorem Ev.big_le (e : Ev) : e.big ≤ 1 := by cases e <;> simp [Ev.big]
def cost : List Ev → Nat
  | [] => 0
  | e :: l => e.big + cost l
theorem cost_append (l m : List Ev) : cost (l ++ m) = cost l + cost m := by
  induction l with
  | nil => simp [cost]
  | cons e l ih => simp only [List.cons_append, cost, ih]; omega
theorem cost_le (l : List Ev) : cost l ≤ l.length := by
  induction l with
  | nil => simp [cost]
  | cons e l ih => have := e.big_le; simp only [cost, List.length_cons]; omega
structure Shw where
  size : Nat
  step : Nat
  lit : Lit
  shs : List Shd
  kind : Nat
  g : PtW
  bds : List (PtW × PtW)
  ticks : Nat
  log : List Ev
def Shw.w (S : Shw) : Sho := ⟨S.size, S.step, S.lit, S.shs, S.kind, S.g.1.1, S.g.1.2, S.bds.map wd, S.ticks, S.log.map Ev.w⟩
def start (size step : Nat) : Shw := ⟨size, step, lit0, [], 0, zeroP, [], 0, []⟩
instance : Inhabited Shw := ⟨start 0 0⟩
def refold (k : Nat) (b : PtW × PtW) : PtW × PtW := (actP (foldS k b.1) b.1, actP (foldS k b.1) b.2)
def doB (S : Shw) : Ev → Option Shw
  | .add s z => if S.bds.length < 8 then some { S with shs := S.shs ++ [s], bds := S.bds ++ [(actP (foldS S.kind z) z, zeroP)] } else none
  | .take n => if n < S.bds.length then some { S with shs := S.shs.take n ++ S.shs.drop (n + 1), bds := S.bds.take n ++ S.bds.drop (n + 1) } else none
  | .light c => some { S with lit := c }
  | .mirrors k => some { S with kind := k, bds := S.bds.map (refold k) }
  | .gravity z => some { S with g := z }
  | .push n z => if n < S.bds.length then some { S with bds := S.bds.set n ((S.bds.getD n default).1, sumP (S.bds.getD n default).2 z) } else none
  | .wait n => some { S with bds := runL S.kind S.g (keptW 0) n S.bds, ticks := S.ticks + n }
def doE (S : Shw) (e : Ev) : Option Shw := (doB S e).map fun T => { T with log := S.log ++ [e] }
def runE : Shw → List Ev → Option Shw
  | S, [] => some S
  | S, e :: l => (doE S e).bind fun T => runE T l
def vB (n : Nat) : Nat := 6 * (n - 1)
def aB (n : Nat) : Nat := 40 + 18 * ((n - 1) * (n - 1)) + 3 * (n - 1)
theorem vB_mono {n m : Nat} (h : n ≤ m) : vB n ≤ vB m := by unfold vB; omega
theorem aB_mono {n m : Nat} (h : n ≤ m) : aB n ≤ aB m := by
  unfold aB
  have h1 : n - 1 ≤ m - 1 := by omega
  have h2 := Nat.mul_le_mul h1 h1
  omega
theorem aB_top {n : Nat} (h : n ≤ 10) : aB n ≤ 1525 := by
  have h1 := aB_mono h
  have h2 : aB 10 = 1525 := rfl
  omega
def pB (V : Nat) : Nat → Nat
  | 0 => 0
  | j + 1 => pB V j + (V + (j + 1))
theorem pB_mono (V : Nat) {i j : Nat} (h : i ≤ j) : pB V i ≤ pB V j := by
  induction j with
  | zero => obtain rfl : i = 0 := by omega
            exact Nat.le_refl _
  | succ j ih =>
    by_cases e : i = j + 1
    · subst e; exact Nat.le_refl _
    · have := ih (by omega)
      simp only [pB]; omega
theorem pB_6 (V : Nat) : pB V 6 = 6 * V + 21 := by simp only [pB]; omega
theorem aB_step {n : Nat} (h : 1 ≤ n) : aB n + pB (vB n) 6 = aB (n + 1) := by
  obtain ⟨m, rfl⟩ : ∃ m, n = m + 1 := ⟨n - 1, by omega⟩
  rw [pB_6]
  unfold aB vB
  simp only [Nat.add_sub_cancel]
  have : (m + 1) * (m + 1) = m * m + 2 * m + 1 := by
    rw [Nat.add_mul, Nat.mul_add]; omega
  rw [this]; omega
theorem run_far {kind : Int} {g : PtW} {k V A : Nat} {l : List (PtW × PtW)} (h0 : 0 ≤ kind) (h3 : kind ≤ 3) (hk : Keep k) (hg : Lim 1 g) (hl : ∀ b ∈ l, Lim V b.2 ∧ Lim A b.1 ∧ wed kind b.1 = true) :
    ∀ j, A + pB V j < 1600 → ∀ b ∈ runL kind g k j l, Lim (V + j) b.2 ∧ Lim (A + pB V j) b.1 ∧ wed kind b.1 = true
  | 0, _, b, hb => hl b hb
  | j + 1, hj, b, hb => by
    have hj' : A + (pB V j + (V + (j + 1))) < 1600 := hj
    obtain ⟨c, hc, rfl⟩ := List.mem_map.1 hb
    obtain ⟨h1, h2, _⟩ := run_far h0 h3 hk hg hl j (by omega) c hc
    obtain ⟨_, h4, h5, h6⟩ := step_lim h0 h3 hk hg h1 h2 (by omega)
    refine ⟨h4.mono (by omega), h5.mono ?_, h6⟩
    show A + pB V j + (V + j + 1) ≤ A + (pB V j + (V + (j + 1)))
    omega
structure Fine (S : Shw) : Prop where
  s1 : 1 ≤ S.size
  s5 : S.size ≤ 5
  st : ∃ i, i < 5 ∧ S.step = stepB i
  lit : S.lit.Ok
  len : S.shs.length = S.bds.length
  few : S.bds.length ≤ 8
  kin : S.kind ≤ 3
  gr : Lim 1 S.g
  shs : ∀ s ∈ S.shs, s.Drawn
  bds : ∀ b ∈ S.bds, 1 ≤ cost S.log ∧ Lim (vB (cost S.log)) b.2 ∧ Lim (aB (cost S.log)) b.1 ∧ wed S.kind b.1 = true
  ticks : S.ticks ≤ 6 * S.log.length
  log : ∀ e ∈ S.log, e.Ok
theorem keep0 : Keep (keptW 0) := kept_keep (by omega)
theorem fine_do {S T : Shw} {e : Ev} (F : Fine S) (he : e.Ok) (h : doE S e = some T) (hc : cost (S.log ++ [e]) ≤ 10) : Fine T := by
  have e1 : cost (S.log ++ [e]) = cost S.log + e.big := by rw [cost_append]; simp [cost]
  have hb : ∀ b ∈ S.bds, 1 ≤ cost (S.log ++ [e]) ∧ Lim (vB (cost (S.log ++ [e]))) b.2 ∧ Lim (aB (cost (S.log ++ [e]))) b.1 ∧ wed S.kind b.1 = true := fun b hb => by
    obtain ⟨h1, h2, h3, h4⟩ := F.bds b hb
    exact ⟨by omega, h2.mono (vB_mono (by omega)), h3.mono (aB_mono (by omega)), h4⟩
  have hlog : ∀ x ∈ S.log ++ [e], x.Ok := fun x hx => by
    rcases List.mem_append.1 hx with h | h
    · exact F.log x h
    · rw [List.mem_singleton] at h; rw [h]; exact he
  have hlen : (S.log ++ [e]).length = S.log.length + 1 := by simp
  have ht : S.ticks ≤ 6 * (S.log ++ [e]).length := by have := F.ticks; omega
  have k0 : (0 : Int) ≤ (S.kind : Int) := by omega
  have k3 : (S.kind : Int) ≤ 3 := by have := F.kin; omega
  unfold doE at h
  cases e with
  | add s z =>
    simp only [doB] at h
    split at h
    · rename_i hlt
      simp only [Option.map_some, Option.some.injEq] at h
      subst h
      have FI := foldIs k0 k3 z
      refine ⟨F.s1, F.s5, F.st, F.lit, by simp [F.len], by simp; omega, F.kin, F.gr, fun x hx => ?_, fun b hb' => ?_, ht, hlog⟩
      · rcases List.mem_append.1 hx with h | h
        · exact F.shs x h
        · rw [List.mem_singleton] at h; rw [h]; exact he.1
      · rcases List.mem_append.1 hb' with h | h
        · exact hb b h
        · rw [List.mem_singleton] at h
          subst h
          have e2 : (Ev.add s z).big = 1 := rfl
          refine ⟨show 1 ≤ cost (S.log ++ [Ev.add s z]) by omega, lim_zero _, (lim_act _ he.2).mono ?_, FI.wed⟩
          unfold aB; omega
    · simp at h
  | take n =>
    simp only [doB] at h
    split at h
    · rename_i hlt
      simp only [Option.map_some, Option.some.injEq] at h
      subst h
      refine ⟨F.s1, F.s5, F.st, F.lit, by simp [F.len], by simp; have := F.few; omega, F.kin, F.gr, fun x hx => ?_, fun b hb' => ?_, ht, hlog⟩
      · rcases List.mem_append.1 hx with h | h
        · exact F.shs x (List.mem_of_mem_take h)
        · exact F.shs x (List.mem_of_mem_drop h)
      · rcases List.mem_append.1 hb' with h | h
        · exact hb b (List.mem_of_mem_take h)
        · exact hb b (List.mem_of_mem_drop h)
    · simp at h
  | light c =>
    simp only [doB, Option.map_some, Option.some.injEq] at h
    subst h
    exact ⟨F.s1, F.s5, F.st, he, F.len, F.few, F.kin, F.gr, F.shs, hb, ht, hlog⟩
  | mirrors k =>
    simp only [doB, Option.map_some, Option.some.injEq] at h
    subst h
    refine ⟨F.s1, F.s5, F.st, F.lit, by simp [F.len], by simpa using F.few, he, F.gr, F.shs, fun b hb' => ?_, ht, hlog⟩
    obtain ⟨c, hc', rfl⟩ := List.mem_map.1 hb'
    obtain ⟨h1, h2, h3, _⟩ := hb c hc'
    have he' : k ≤ 3 := he
    have FI := foldIs (kind := k) (by omega) (by omega) c.1
    exact ⟨h1, lim_act _ h2, lim_act _ h3, FI.wed⟩
  | gravity z =>
    simp only [doB, Option.map_some, Option.some.injEq] at h
    subst h
    exact ⟨F.s1, F.s5, F.st, F.lit, F.len, F.few, F.kin, he, F.shs, hb, ht, hlog⟩
  | push n z =>
    simp only [doB] at h
    split at h
    · rename_i hlt
      simp only [Option.map_some, Option.some.injEq] at h
      subst h
      refine ⟨F.s1, F.s5, F.st, F.lit, by simp [F.len], by simpa using F.few, F.kin, F.gr, F.shs, fun b hb' => ?_, ht, hlog⟩
      rcases List.mem_or_eq_of_mem_set hb' with h | h
      · exact hb b h
      · subst h
        obtain ⟨h1, h2, h3, h4⟩ := F.bds _ (getD_mem hlt)
        have e2 : (Ev.push n z).big = 1 := rfl
        have hv : vB (cost S.log) + 5 ≤ vB (cost (S.log ++ [Ev.push n z])) := by rw [e1, e2]; unfold vB; omega
        have hv2 : vB (cost S.log) ≤ 54 := by unfold vB; omega
        have hm : cost S.log ≤ cost (S.log ++ [Ev.push n z]) := by omega
        exact ⟨show 1 ≤ cost (S.log ++ [Ev.push n z]) by omega, ((lim_sum h2 he.2 (by omega)).2).mono hv, h3.mono (aB_mono hm), h4⟩
    · simp at h
  | wait n =>
    simp only [doB, Option.map_some, Option.some.injEq] at h
    subst h
    have he' : 1 ≤ n ∧ n ≤ 6 := he
    have e2 : (Ev.wait n).big = 1 := rfl
    refine ⟨F.s1, F.s5, F.st, F.lit, by simp [F.len, runL_len], by simpa [runL_len] using F.few, F.kin, F.gr, F.shs, fun b hb' => ?_, ?_, hlog⟩
    · have hne : S.bds ≠ [] := fun e0 => by
        have h1 := runL_len S.kind S.g (keptW 0) S.bds n
        have h2 : (runL S.kind S.g (keptW 0) n S.bds).length = 0 := by rw [h1, e0]; rfl
        have h3 : runL S.kind S.g (keptW 0) n S.bds = [] := List.eq_nil_of_length_eq_zero h2
        have hb2 : b ∈ runL S.kind S.g (keptW 0) n S.bds := hb'
        rw [h3] at hb2
        simp at hb2
      obtain ⟨c0, hc0⟩ := List.exists_mem_of_ne_nil _ hne
      have hn1 := (F.bds c0 hc0).1
      have hst := aB_step hn1
      have hpm := pB_mono (vB (cost S.log)) he'.2
      have htop := aB_top (n := cost S.log + 1) (by omega)
      obtain ⟨h1, h2, h3⟩ := run_far k0 k3 keep0 F.gr (fun b hb => (F.bds b hb).2) n (by omega) b hb'
      have ec : cost (S.log ++ [Ev.wait n]) = cost S.log + 1 := by rw [e1, e2]
      have hv : vB (cost S.log) + n ≤ vB (cost (S.log ++ [Ev.wait n])) := by rw [ec]; unfold vB; omega
      have ha : aB (cost S.log) + pB (vB (cost S.log)) n ≤ aB (cost (S.log ++ [Ev.wait n])) := by rw [ec]; omega
      exact ⟨show 1 ≤ cost (S.log ++ [Ev.wait n]) by omega, h1.mono hv, h2.mono ha, h3⟩
    · have h1 := F.ticks
      have h2 : S.ticks + n ≤ 6 * (S.log ++ [Ev.wait n]).length := by omega
      exact h2
theorem do_log {S T : Shw} {e : Ev} (h : doE S e = some T) : T.log = S.log ++ [e] ∧ T.size = S.size ∧ T.step = S.step := by
  unfold doE at h
  cases e <;> simp only [doB] at h
  all_goals (first | (split at h; (· simp only [Option.map_some, Option.some.injEq] at h; subst h; exact ⟨rfl, rfl, rfl⟩); (· simp at h)) | (simp only [Option.map_some, Option.some.injEq] at h; subst h; exact ⟨rfl, rfl, rfl⟩))
theorem runE_append (l : List Ev) : ∀ (S : Shw) (m : List Ev), runE S (l ++ m) = (runE S l).bind fun T => runE T m := by
  induction l with
  | nil => intro S m; rfl
  | cons e l ih =>
    intro S m
    simp only [List.cons_append, runE]
    cases doE S e with
    | none => rfl
    | some T => exact ih T m
theorem fine_start {size step : Nat} (h1 : 1 ≤ size) (h5 : size ≤ 5) (hs : ∃ i, i < 5 ∧ step = stepB i) : Fine (start size step) :=
  ⟨h1, h5, hs, ⟨Nat.zero_le _, Nat.zero_le _, Nat.zero_le _⟩, rfl, Nat.zero_le _, Nat.zero_le _, lim_zero 1, fun s h => absurd h (by simp [start]), fun s h => absurd h (by simp [start]), Nat.zero_le _, fun s h => absurd h (by simp [start])⟩
structure Told (S : Shw) : Prop where
  fine : Fine S
  came : runE (start S.size S.step) S.log = some S
theorem told_do {S T : Shw} {e : Ev} (H : Told S) (he : e.Ok) (h : doE S e = some T) (hc : cost (S.log ++ [e]) ≤ 10) : Told T := by
  obtain ⟨g1, g2, g3⟩ := do_log h
  refine ⟨fine_do H.fine he h hc, ?_⟩
  rw [g1, g2, g3, runE_append, H.came]
  simp only [Option.bind_some, runE, h]
end Go.Proofs.YtfdgijmmgllmgaaGreatDoor
namespace Go.Proofs.YtfdgijmmgllmgaaGreatDoor
open Go.ChangeShapes Go.WideShapes Go.ChangeAt Go.RowKit Go.Joins
set_option linter.unusedSimpArgs false
set_option linter.unusedVariables false
set_option maxRecDepth 100000
attribute [local go_sem] store_f
open Ieee Go.Lib
attribute [local go_sem] store_c
def sixB (m k : Nat) : Bool := match fineB m k with
  | some r => match F32.div r 1098907648 with
    | some q => decide (q < 4294967296) && decide (q % 2147483648 ≤ 1109393408) && (decide (q % 2147483648 ≠ 0) || decide (q = 0))
    | none => false
  | none => false
set_option maxRecDepth 1000000
theorem six_0 : chkTo (fun m => chkTo (sixB (0 + m)) 6) 100 = true := by decide +kernel
theorem six_1 : chkTo (fun m => chkTo (sixB (100 + m)) 6) 100 = true := by decide +kernel
theorem six_2 : chkTo (fun m => chkTo (sixB (200 + m)) 6) 100 = true := by decide +kernel
theorem six_3 : chkTo (fun m => chkTo (sixB (300 + m)) 6) 100 = true := by decide +kernel
theorem six_4 : chkTo (fun m => chkTo (sixB (400 + m)) 6) 100 = true := by decide +kernel
theorem six_5 : chkTo (fun m => chkTo (sixB (500 + m)) 6) 100 = true := by decide +kernel
theorem six_6 : chkTo (fun m => chkTo (sixB (600 + m)) 6) 100 = true := by decide +kernel
theorem six_7 : chkTo (fun m => chkTo (sixB (700 + m)) 6) 100 = true := by decide +kernel
theorem six_8 : chkTo (fun m => chkTo (sixB (800 + m)) 6) 100 = true := by decide +kernel
theorem six_9 : chkTo (fun m => chkTo (sixB (900 + m)) 6) 100 = true := by decide +kernel
theorem six_10 : chkTo (fun m => chkTo (sixB (1000 + m)) 6) 100 = true := by decide +kernel
theorem six_11 : chkTo (fun m => chkTo (sixB (1100 + m)) 6) 100 = true := by decide +kernel
theorem six_12 : chkTo (fun m => chkTo (sixB (1200 + m)) 6) 81 = true := by decide +kernel
structure Six (r x : Nat) : Prop where
  div : F32.div r 1098907648 = some x
  lt : x < 4294967296
  le : x % 2147483648 ≤ 1109393408
  z : x % 2147483648 = 0 → x = 0
theorem six_of (m k : Nat) (hm : m < 1281) (hk : k < 6) : ∃ r x, fineB m k = some r ∧ Six r x := by
  have key : sixB m k = true := by
    rcases (by omega : (0 ≤ m ∧ m < 100) ∨ (100 ≤ m ∧ m < 200) ∨ (200 ≤ m ∧ m < 300) ∨ (300 ≤ m ∧ m < 400) ∨ (400 ≤ m ∧ m < 500) ∨ (500 ≤ m ∧ m < 600) ∨ (600 ≤ m ∧ m < 700) ∨ (700 ≤ m ∧ m < 800) ∨ (800 ≤ m ∧ m < 900) ∨ (900 ≤ m ∧ m < 1000) ∨ (1000 ≤ m ∧ m < 1100) ∨ (1100 ≤ m ∧ m < 1200) ∨ (1200 ≤ m ∧ m < 1281)) with h | h | h | h | h | h | h | h | h | h | h | h | h
    · have h1 := chkTo_at (chkTo_at six_0 (m - 0) (by omega)) k hk
      rwa [show 0 + (m - 0) = m by omega] at h1
    · have h1 := chkTo_at (chkTo_at six_1 (m - 100) (by omega)) k hk
      rwa [show 100 + (m - 100) = m by omega] at h1
    · have h1 := chkTo_at (chkTo_at six_2 (m - 200) (by omega)) k hk
      rwa [show 200 + (m - 200) = m by omega] at h1
    · have h1 := chkTo_at (chkTo_at six_3 (m - 300) (by omega)) k hk
      rwa [show 300 + (m - 300) = m by omega] at h1
    · have h1 := chkTo_at (chkTo_at six_4 (m - 400) (by omega)) k hk
      rwa [show 400 + (m - 400) = m by omega] at h1
    · have h1 := chkTo_at (chkTo_at six_5 (m - 500) (by omega)) k hk
      rwa [show 500 + (m - 500) = m by omega] at h1
    · have h1 := chkTo_at (chkTo_at six_6 (m - 600) (by omega)) k hk
      rwa [show 600 + (m - 600) = m by omega] at h1
    · have h1 := chkTo_at (chkTo_at six_7 (m - 700) (by omega)) k hk
      rwa [show 700 + (m - 700) = m by omega] at h1
    · have h1 := chkTo_at (chkTo_at six_8 (m - 800) (by omega)) k hk
      rwa [show 800 + (m - 800) = m by omega] at h1
    · have h1 := chkTo_at (chkTo_at six_9 (m - 900) (by omega)) k hk
      rwa [show 900 + (m - 900) = m by omega] at h1
    · have h1 := chkTo_at (chkTo_at six_10 (m - 1000) (by omega)) k hk
      rwa [show 1000 + (m - 1000) = m by omega] at h1
    · have h1 := chkTo_at (chkTo_at six_11 (m - 1100) (by omega)) k hk
      rwa [show 1100 + (m - 1100) = m by omega] at h1
    · have h1 := chkTo_at (chkTo_at six_12 (m - 1200) (by omega)) k hk
      rwa [show 1200 + (m - 1200) = m by omega] at h1
  unfold sixB at key
  cases h : fineB m k with
  | none => rw [h] at key; cases key
  | some r =>
    rw [h] at key
    simp only [] at key
    cases h2 : F32.div r 1098907648 with
    | none => rw [h2] at key; cases key
    | some x =>
      rw [h2] at key
      simp only [Bool.and_eq_true, Bool.or_eq_true, decide_eq_true_eq] at key
      exact ⟨r, x, rfl, ⟨h2, key.1.1, key.1.2, fun h => by rcases key.2 with h3 | h3; exact absurd h h3; exact h3⟩⟩
structure SixtDrawn (B q : Nat) (w : World) (e : Ending) (w' : World) (r x : Nat) : Prop where
  ret : e = .returned (.float .f32 r)
  six : Six r x
  cur : Cur B w' q
  grown : w.grownBy w' (some q)
set_option maxHeartbeats 2000000 in
theorem l1Fine_q (B q : Nat) (w : World) (hcur : Cur B w q) :
    Calls Tryz.prog 39 #[.pointer (some ⟨q, 0, Option.none⟩)] w fun e w' => ∃ r x, SixtDrawn B q w e w' r x := by
  have HC : Hid (Cur B w q) := hcur
  have hq := hcur.lt
  clear hcur
  go_enter Tryz.func39, Tryz.ntmps39
  go_wp2_with fail
  refine (l1Some_s B q _ HC.out).mono ?_
  rintro e w1 ⟨m, ⟨rfl, hm, hc1, hg1⟩⟩
  have HC1 : Hid (Cur B w1 q) := hc1
  have HG1 : Hid (w.grownBy w1 (some q)) := hg1
  have hq1 := hc1.lt
  have HD : Hid (∀ k, k < 6 → ∃ r x, F32.div (floatOfInt .f32 ((m : Int) - 640)) (divsB k) = some r ∧ Six r x) := fun k hk => six_of m k hm hk
  clear hc1 hg1
  go_wp2_with fail
  refine (l1Below_s B q 6 _ HC1.out.alloc (by omega) (by omega)).mono ?_
  rintro e w2 ⟨x, rfl, hx0, hx1, hc2, hg2⟩
  have HC2 : Hid (Cur B w2 q) := hc2
  have HG2 : Hid (w.grownBy w2 (some q)) := grownBy_trans (grown_alloc HG1.out _) hg2
  have HB : Blk w2 w1.heap.size #[.float .f32 1065353216, .float .f32 1073741824, .float .f32 1098907648, .float .f32 1115684864, .float .f32 1120403456, .float .f32 1077936128] _ := Blk.grown (Blk.new _ _ _) hg2 (by omega)
  have hl := HB.lt
  have c0 := Blk.cellAt (i := 0) HB rfl
  have c1 := Blk.cellAt (i := 1) HB rfl
  have c2 := Blk.cellAt (i := 2) HB rfl
  have c3 := Blk.cellAt (i := 3) HB rfl
  have c4 := Blk.cellAt (i := 4) HB rfl
  have c5 := Blk.cellAt (i := 5) HB rfl
  simp at c0 c1 c2 c3 c4 c5
  clear hc2 hg2 HB
  generalize floatOfInt .f32 ((m : Int) - 640) = a at HD ⊢
  rcases (by omega : x = 0 ∨ x = 1 ∨ x = 2 ∨ x = 3 ∨ x = 4 ∨ x = 5) with rfl | rfl | rfl | rfl | rfl | rfl
  · obtain ⟨r, x, hr, ho⟩ := HD.out 0 (by omega)
    have hop := fun t w => run_float_arith (P := Tryz.prog) w .quo t .f32 a 1065353216 r hr
    have HO := Lib.hid ho
    clear hr ho
    go_wp2_with (simp only [hop])
    go_ret
    exact ⟨r, x, rfl, HO.out, HC2.out, HG2.out⟩
  · obtain ⟨r, x, hr, ho⟩ := HD.out 1 (by omega)
    have hop := fun t w => run_float_arith (P := Tryz.prog) w .quo t .f32 a 1073741824 r hr
    have HO := Lib.hid ho
    clear hr ho
    go_wp2_with (simp only [hop])
    go_ret
    exact ⟨r, x, rfl, HO.out, HC2.out, HG2.out⟩
  · obtain ⟨r, x, hr, ho⟩ := HD.out 2 (by omega)
    have hop := fun t w => run_float_arith (P := Tryz.prog) w .quo t .f32 a 1098907648 r hr
    have HO := Lib.hid ho
    clear hr ho
    go_wp2_with (simp only [hop])
    go_ret
    exact ⟨r, x, rfl, HO.out, HC2.out, HG2.out⟩
  · obtain ⟨r, x, hr, ho⟩ := HD.out 3 (by omega)
    have hop := fun t w => run_float_arith (P := Tryz.prog) w .quo t .f32 a 1115684864 r hr
    have HO := Lib.hid ho
    clear hr ho
    go_wp2_with (simp only [hop])
    go_ret
    exact ⟨r, x, rfl, HO.out, HC2.out, HG2.out⟩
  · obtain ⟨r, x, hr, ho⟩ := HD.out 4 (by omega)
    have hop := fun t w => run_float_arith (P := Tryz.prog) w .quo t .f32 a 1120403456 r hr
    have HO := Lib.hid ho
    clear hr ho
    go_wp2_with (simp only [hop])
    go_ret
    exact ⟨r, x, rfl, HO.out, HC2.out, HG2.out⟩
  · obtain ⟨r, x, hr, ho⟩ := HD.out 5 (by omega)
    have hop := fun t w => run_float_arith (P := Tryz.prog) w .quo t .f32 a 1077936128 r hr
    have HO := Lib.hid ho
    clear hr ho
    go_wp2_with (simp only [hop])
    go_ret
    exact ⟨r, x, rfl, HO.out, HC2.out, HG2.out⟩
theorem Six.pt {r x : Nat} (h : Six r x) : Pt x ∧ (valOf F32 x).natAbs ≤ magOf F32 1109393408 := pt_small (by omega) h.lt h.le h.z
theorem mag_40 : magOf F32 1109393408 = 40 * 2 ^ 149 := by decide +kernel
def sixP {r x r' y : Nat} (h : Six r x) (h' : Six r' y) : PtW := ⟨(x, y), h.pt.1, h'.pt.1⟩
theorem sixP_lim {r x r' y : Nat} (h : Six r x) (h' : Six r' y) : Lim 40 (sixP h h') := ⟨by rw [← mag_40]; exact h.pt.2, by rw [← mag_40]; exact h'.pt.2⟩
set_option maxHeartbeats 1000000 in
theorem some_4 (B q : Nat) (w : World) (hcur : Cur B w q) :
    Calls Tryz.prog 33 #[.pointer (some ⟨q, 0, Option.none⟩), .int .i64 (-4), .int .i64 4] w fun e w' => ∃ m, SmallM B q w e w' 9 4 m := by
  have HC : Hid (Cur B w q) := hcur
  clear hcur
  go_enter Tryz.func33, Tryz.ntmps33
  go_wp2_with fail
  refine (l1Below_s B q 9 _ HC.out (by omega) (by omega)).mono ?_
  rintro e w1 ⟨x, rfl, hx0, hx1, hc1, hg1⟩
  obtain ⟨n, rfl⟩ : ∃ n : Nat, x = n := ⟨x.toNat, by omega⟩
  have HC1 : Hid (Cur B w1 q) := hc1
  have HG1 : Hid (w.grownBy w1 (some q)) := hg1
  have hn : n < 9 := by omega
  clear hc1 hg1
  go_wp2
  go_ret
  exact ⟨n, by first | rfl | (simp; omega), hn, HC1.out, HG1.out⟩
theorem gr_16 : ∀ m : Nat, m < 9 → F32.div (floatOfInt .f32 ((m : Int) - 4)) 1098907648 = some (overB 1098907648 ((m : Int) - 4)) ∧ overB 1098907648 ((m : Int) - 4) < 4294967296 ∧ overB 1098907648 ((m : Int) - 4) % 2147483648 ≤ 1065353216 ∧ (overB 1098907648 ((m : Int) - 4) % 2147483648 = 0 → overB 1098907648 ((m : Int) - 4) = 0) := by decide +kernel
structure LittleDrawn (B q : Nat) (w : World) (e : Ending) (w' : World) (n : Nat) (m : Nat) : Prop where
  ret : e = .returned (.int .i64 m)
  one : 1 ≤ m
  le : m ≤ n
  cur : Cur B w' q
  grown : w.grownBy w' (some q)
set_option maxHeartbeats 1000000 in
theorem little_5 (B q : Nat) (w : World) (hcur : Cur B w q) :
    Calls Tryz.prog 33 #[.pointer (some ⟨q, 0, Option.none⟩), .int .i64 1, .int .i64 5] w fun e w' => ∃ m, LittleDrawn B q w e w' 5 m := by
  have HC : Hid (Cur B w q) := hcur
  clear hcur
  go_enter Tryz.func33, Tryz.ntmps33
  go_wp2_with fail
  refine (l1Below_s B q 5 _ HC.out (by omega) (by omega)).mono ?_
  rintro e w1 ⟨x, rfl, hx0, hx1, hc1, hg1⟩
  obtain ⟨n, rfl⟩ : ∃ n : Nat, x = n := ⟨x.toNat, by omega⟩
  have HC1 : Hid (Cur B w1 q) := hc1
  have HG1 : Hid (w.grownBy w1 (some q)) := hg1
  have hn : n < 5 := by omega
  clear hc1 hg1
  go_wp2
  go_ret
  exact ⟨n + 1, by first | rfl | (simp; omega), by omega, by omega, HC1.out, HG1.out⟩
set_option maxHeartbeats 1000000 in
theorem little_6 (B q : Nat) (w : World) (hcur : Cur B w q) :
    Calls Tryz.prog 33 #[.pointer (some ⟨q, 0, Option.none⟩), .int .i64 1, .int .i64 6] w fun e w' => ∃ m, LittleDrawn B q w e w' 6 m := by
  have HC : Hid (Cur B w q) := hcur
  clear hcur
  go_enter Tryz.func33, Tryz.ntmps33
  go_wp2_with fail
  refine (l1Below_s B q 6 _ HC.out (by omega) (by omega)).mono ?_
  rintro e w1 ⟨x, rfl, hx0, hx1, hc1, hg1⟩
  obtain ⟨n, rfl⟩ : ∃ n : Nat, x = n := ⟨x.toNat, by omega⟩
  have HC1 : Hid (Cur B w1 q) := hc1
  have HG1 : Hid (w.grownBy w1 (some q)) := hg1
  have hn : n < 6 := by omega
  clear hc1 hg1
  go_wp2
  go_ret
  exact ⟨n + 1, by first | rfl | (simp; omega), by omega, by omega, HC1.out, HG1.out⟩
end Go.Proofs.YtfdgijmmgllmgaaGreatDoor
namespace Go.Proofs.YtfdgijmmgllmgaaGreatDoor
open Go.ChangeShapes Go.WideShapes Go.ChangeAt Go.RowKit Go.Joins
set_option linter.unusedSimpArgs false
set_option linter.unusedVariables false
set_option maxRecDepth 100000
attribute [local go_sem] store_f
open Ieee
def minG (o : Ordering) (x y : Nat) : Nat := match o with | .lt => x | .gt => y | .eq => if (FloatKind.f32.decode x).neg then x else y
def maxG (o : Ordering) (x y : Nat) : Nat := match o with | .lt => y | .gt => x | .eq => if (FloatKind.f32.decode x).neg then y else x
theorem run_min_g (P : Program) (w : World) (ts : Array TypeId) (t : TypeId) (x y : Nat) (o : Ordering) (h : FloatKind.f32.format.order x y = some o) : (Builtin.min_ ts t #[.float .f32 x, .float .f32 y]).run P w = .ok (.float .f32 (minG o x y)) w := by
  cases o <;> simp [Builtin.min_, Builtin.min2, h, minG]
theorem run_max_g (P : Program) (w : World) (ts : Array TypeId) (t : TypeId) (x y : Nat) (o : Ordering) (h : FloatKind.f32.format.order x y = some o) : (Builtin.max_ ts t #[.float .f32 x, .float .f32 y]).run P w = .ok (.float .f32 (maxG o x y)) w := by
  cases o <;> simp [Builtin.max_, Builtin.max2, h, maxG]
theorem cmp_cases (a b : Int) : (compare a b = .lt ∧ a < b) ∨ (compare a b = .eq ∧ a = b) ∨ (compare a b = .gt ∧ b < a) := by
  rcases Int.lt_trichotomy a b with h | h | h
  · exact .inl ⟨by simp [compare, compareOfLessAndEq, h], h⟩
  · exact .inr (.inl ⟨by simp [h], h⟩)
  · exact .inr (.inr ⟨by
      have h1 : ¬ a < b := by omega
      have h2 : ¬ a = b := by omega
      simp [compare, compareOfLessAndEq, h1, h2], h⟩)
theorem min_val {x y : Nat} (hx : Fin32 x) (hy : Fin32 y) : ∃ m, (∀ (P : Program) (w : World) ts t, (Builtin.min_ ts t #[.float .f32 x, .float .f32 y]).run P w = .ok (.float .f32 m) w) ∧ Fin32 m ∧ m < max (x + 1) (y + 1) ∧ valOf F32 m ≤ valOf F32 x ∧ valOf F32 m ≤ valOf F32 y ∧ (valOf F32 m = valOf F32 x ∨ valOf F32 m = valOf F32 y) := by
  have h := order_fin F32 hx hy
  refine ⟨minG (compare (valOf F32 x) (valOf F32 y)) x y, fun P w ts t => run_min_g P w ts t x y _ h, ?_⟩
  rcases cmp_cases (valOf F32 x) (valOf F32 y) with ⟨e, h1⟩ | ⟨e, h1⟩ | ⟨e, h1⟩
  · rw [e]; exact ⟨hx, by simp [minG]; omega, by simp only [minG]; omega, by simp only [minG]; omega, .inl rfl⟩
  · rw [e]
    simp only [minG]
    split
    · exact ⟨hx, by omega, by omega, by omega, .inl rfl⟩
    · exact ⟨hy, by omega, by omega, by omega, .inr rfl⟩
  · rw [e]; exact ⟨hy, by simp [minG]; omega, by simp only [minG]; omega, by simp only [minG]; omega, .inr rfl⟩
theorem max_val {x y : Nat} (hx : Fin32 x) (hy : Fin32 y) : ∃ m, (∀ (P : Program) (w : World) ts t, (Builtin.max_ ts t #[.float .f32 x, .float .f32 y]).run P w = .ok (.float .f32 m) w) ∧ Fin32 m ∧ m < max (x + 1) (y + 1) ∧ valOf F32 x ≤ valOf F32 m ∧ valOf F32 y ≤ valOf F32 m ∧ (valOf F32 m = valOf F32 x ∨ valOf F32 m = valOf F32 y) := by
  have h := order_fin F32 hx hy
  refine ⟨maxG (compare (valOf F32 x) (valOf F32 y)) x y, fun P w ts t => run_max_g P w ts t x y _ h, ?_⟩
  rcases cmp_cases (valOf F32 x) (valOf F32 y) with ⟨e, h1⟩ | ⟨e, h1⟩ | ⟨e, h1⟩
  · rw [e]; exact ⟨hy, by simp [maxG]; omega, by simp only [maxG]; omega, by simp only [maxG]; omega, .inr rfl⟩
  · rw [e]
    simp only [maxG]
    split
    · exact ⟨hy, by omega, by omega, by omega, .inr rfl⟩
    · exact ⟨hx, by omega, by omega, by omega, .inl rfl⟩
  · rw [e]; exact ⟨hx, by simp [maxG]; omega, by simp only [maxG]; omega, by simp only [maxG]; omega, .inl rfl⟩
structure Row3 (w : World) (g x y z : Nat) : Prop where
  c0 : w.cell? ⟨g, 0, Option.none⟩ = some (.float .f32 x)
  c1 : w.cell? ⟨g, 1, Option.none⟩ = some (.float .f32 y)
  c2 : w.cell? ⟨g, 2, Option.none⟩ = some (.float .f32 z)
structure Min2 (x y m : Nat) : Prop where
  run : ∀ (P : Program) (w : World) ts t, (Builtin.min_ ts t #[.float .f32 x, .float .f32 y]).run P w = .ok (.float .f32 m) w
structure Max2 (x y m : Nat) : Prop where
  run : ∀ (P : Program) (w : World) ts t, (Builtin.max_ ts t #[.float .f32 x, .float .f32 y]).run P w = .ok (.float .f32 m) w
set_option maxHeartbeats 1000000 in
theorem slMin {x y z m n : Nat} (M : Min2 x y m) (N : Min2 m z n) (w : World) (g cap : Nat) (R : Row3 w g x y z) :
    Calls Tryz.prog 112 #[.slice (some ⟨g, 0, Option.none⟩) 3 cap] w fun e w' => e = .returned (.float .f32 n) ∧ w' = w := by
  obtain ⟨c0, c1, c2⟩ := R
  have q1 := M.run Tryz.prog
  have q2 := N.run Tryz.prog
  go_enter Tryz.func112, Tryz.ntmps112
  go_wp2_with fail
  go_loop [3, 4] (fun v i => (v = .float .f32 x ∧ i = .int .i64 1) ∨ (v = .float .f32 m ∧ i = .int .i64 2) ∨ (v = .float .f32 n ∧ i = .int .i64 3)) (fun _ i => 3 - (intOf i).toNat)
  case atStart => exact .inl ⟨rfl, rfl⟩
  case round =>
    rcases hrel with ⟨rfl, rfl⟩ | ⟨rfl, rfl⟩ | ⟨rfl, rfl⟩
    · go_wp2_with (simp only [q1])
      go_round
      case rel => simp
      case measure => simp [intOf]
    · go_wp2_with (simp only [q2])
      go_round
      case rel => simp
      case measure => simp [intOf]
    · go_wp2
      go_ret
      exact ⟨rfl, rfl⟩
set_option maxHeartbeats 1000000 in
theorem slMax {x y z m n : Nat} (M : Max2 x y m) (N : Max2 m z n) (w : World) (g cap : Nat) (R : Row3 w g x y z) :
    Calls Tryz.prog 113 #[.slice (some ⟨g, 0, Option.none⟩) 3 cap] w fun e w' => e = .returned (.float .f32 n) ∧ w' = w := by
  obtain ⟨c0, c1, c2⟩ := R
  have q1 := M.run Tryz.prog
  have q2 := N.run Tryz.prog
  go_enter Tryz.func113, Tryz.ntmps113
  go_wp2_with fail
  go_loop [3, 4] (fun v i => (v = .float .f32 x ∧ i = .int .i64 1) ∨ (v = .float .f32 m ∧ i = .int .i64 2) ∨ (v = .float .f32 n ∧ i = .int .i64 3)) (fun _ i => 3 - (intOf i).toNat)
  case atStart => exact .inl ⟨rfl, rfl⟩
  case round =>
    rcases hrel with ⟨rfl, rfl⟩ | ⟨rfl, rfl⟩ | ⟨rfl, rfl⟩
    · go_wp2_with (simp only [q1])
      go_round
      case rel => simp
      case measure => simp [intOf]
    · go_wp2_with (simp only [q2])
      go_round
      case rel => simp
      case measure => simp [intOf]
    · go_wp2
      go_ret
      exact ⟨rfl, rfl⟩
end Go.Proofs.YtfdgijmmgllmgaaGreatDoor
