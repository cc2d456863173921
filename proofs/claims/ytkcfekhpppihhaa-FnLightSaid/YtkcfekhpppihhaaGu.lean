/-
  All that the law of light asks of drawn shards.
-/
import Derived.Test.YtkcfekhpppihhaaGt
import Derived.Test.YtkcfekhpppihhaaGn
import Derived.Test.YtkcfekhpppihhaaCeq
namespace Go.Proofs.Ytkcfekhpppihhaa
open Go.ChangeShapes Go.WideShapes Go.ChangeAt Go.RowKit Go.Joins
set_option linter.unusedSimpArgs false
set_option linter.unusedVariables false
set_option maxRecDepth 100000
attribute [local go_sem] store_f
open Ieee

/-- The shards at the places of a list. -/
def shAt (l : List Shd) (m : List Nat) : List Shd := m.map fun i => l.getD i default
theorem shAt_snoc (l : List Shd) {m : List Nat} {j : Nat} (h : j < m.length) : shAt l (m.take (j + 1)) = shAt l (m.take j) ++ [l.getD (m.getD j 0) default] := by
  have e : m.getD j 0 = m[j] := by simp [List.getD, h]
  unfold shAt
  rw [List.take_succ_eq_append_getElem h, List.map_append, e]; rfl
theorem shAt_len (l : List Shd) (m : List Nat) : (shAt l m).length = m.length := by simp [shAt]
theorem filter_at (l : List Shd) (P : Shd → Bool) : ∀ j, j ≤ l.length → shAt l ((List.range j).filter fun i => P (l.getD i default)) = (l.take j).filter P := by
  intro j
  induction j with
  | zero => intro _; simp [shAt]
  | succ j ih =>
    intro h
    have e : l.getD j default = l[j] := by simp [List.getD, show j < l.length by omega]
    have ih' := ih (by omega)
    unfold shAt at ih' ⊢
    rw [List.range_succ, List.filter_append, List.map_append, ih', List.take_succ_eq_append_getElem (by omega), List.filter_append]
    congr 1
    cases hp : P (l.getD j default)
    · rw [List.filter_cons_of_neg (by rw [hp]; decide), List.filter_nil, ← e, List.filter_cons_of_neg (by rw [hp]; decide), List.filter_nil]; rfl
    · rw [List.filter_cons_of_pos (p := fun i => P (l.getD i default)) hp, List.filter_nil, ← e, List.filter_cons_of_pos hp, List.filter_nil]; rfl
theorem lays_filter (l : List Shd) (x y : Nat) : shAt l (laysTo l x y l.length) = l.filter fun s => inSh s x y := by
  unfold laysTo
  have h := filter_at l (fun s => inSh s x y) l.length (Nat.le_refl _)
  rw [List.take_length] at h
  exact h
theorem lays_mem {l : List Shd} {x y i : Nat} (h : i ∈ laysTo l x y l.length) : i < l.length ∧ inSh (l.getD i default) x y = true := by
  unfold laysTo at h
  have := List.mem_filter.1 h
  exact ⟨by simpa using this.1, this.2⟩

structure Lights (g lc n : Nat) (l : List Shd) (x y : Nat) (c H A : Lit) (m : List Nat) : Prop where
  s1 : SeenIs (some ⟨g, 0, Option.none⟩) l.length lc l x y c A
  s2 : SeenIs (some ⟨g, 0, Option.none⟩) n lc (l.take n) x y c H
  s3 : ∀ off cp, SeenIs (some ⟨g, off, Option.none⟩) (l.length - n) cp (l.drop n) x y H A
  s4 : SeenIs Option.none 0 0 [] x y c c
  s5 : ∀ gf cf, SeenIs (some ⟨gf, 0, Option.none⟩) (shAt l m).length cf (shAt l m) x y c A
  ic : ColIs A.r A.g A.b true
  eA : ∀ w : World, (Op.equalIn 10000 28 (.agg #[.float .f32 A.r, .float .f32 A.g, .float .f32 A.b]) (.agg #[.float .f32 A.r, .float .f32 A.g, .float .f32 A.b])).run Try.prog w = .ok true w
  eC : ∀ w : World, (Op.equalIn 10000 28 (.agg #[.float .f32 c.r, .float .f32 c.g, .float .f32 c.b]) (.agg #[.float .f32 c.r, .float .f32 c.g, .float .f32 c.b])).run Try.prog w = .ok true w
  ly : ∀ w : World, RowAt w (some ⟨g, 0, Option.none⟩) l → Calls Try.prog 19 #[.slice (some ⟨g, 0, Option.none⟩) l.length lc, .complex .f32 x y] w fun e w' => Layers w e w' m
  ins : ∀ j, j < m.length → m.getD j 0 < l.length ∧ InIs (l.getD (m.getD j 0) default) x y true
  few : m.length ≤ 6

theorem eq_same {c : Lit} (h : c.Ok) (w : World) : (Op.equalIn 10000 28 (.agg #[.float .f32 c.r, .float .f32 c.g, .float .f32 c.b]) (.agg #[.float .f32 c.r, .float .f32 c.g, .float .f32 c.b])).run Try.prog w = .ok true w :=
  run_eq_same (fin_of_lt (by have := h.r; omega)) (fin_of_lt (by have := h.g; omega)) (fin_of_lt (by have := h.b; omega)) w
theorem lights_of {g lc n x y : Nat} {l : List Shd} {c : Lit} (hn : n ≤ l.length) (hlen : l.length ≤ 6) (hok : ∀ s ∈ l, s.Ok) (hc : c.Ok) (hx : inB x = true) (hy : inB y = true) :
    ∃ H A m, Lights g lc n l x y c H A m := by
  have ht : ∀ s ∈ l.take n, s.Ok := fun s hs => hok s (List.mem_of_mem_take hs)
  have hd : ∀ s ∈ l.drop n, s.Ok := fun s hs => hok s (List.mem_of_mem_drop hs)
  have hH := lightOf_ok (x := x) (y := y) (l.take n) ht hc
  have hA := lightOf_ok (x := x) (y := y) l hok hc
  have lt : (l.take n).length = n := by simp; omega
  have ld : (l.drop n).length = l.length - n := by simp
  have hf : ∀ s ∈ l.filter (fun s => inSh s x y), s.Ok := fun s hs => hok s (List.mem_filter.1 hs).1
  have lf : (l.filter fun s => inSh s x y).length ≤ l.length := List.length_filter_le _ _
  have s2 : SeenIs (some ⟨g, 0, Option.none⟩) n lc (l.take n) x y c (lightOf x y (l.take n) c) := by
    have h := seenIs (a := some ⟨g, 0, Option.none⟩) (cap := lc) (by omega) ht hc hx hy
    rwa [lt] at h
  have s3 : ∀ off cp, SeenIs (some ⟨g, off, Option.none⟩) (l.length - n) cp (l.drop n) x y (lightOf x y (l.take n) c) (lightOf x y l c) := fun off cp => by
    have h := seenIs (a := some ⟨g, off, Option.none⟩) (cap := cp) (by omega) hd hH hx hy
    rwa [ld, lightOf_cut] at h
  have s4 : SeenIs Option.none 0 0 [] x y c c := by
    have h := seenIs (a := Option.none) (cap := 0) (l := []) (by simp) (by simp) hc hx hy
    rwa [List.length_nil, lightOf_nil] at h
  have s5 : ∀ gf cf, SeenIs (some ⟨gf, 0, Option.none⟩) (shAt l (laysTo l x y l.length)).length cf (shAt l (laysTo l x y l.length)) x y c (lightOf x y l c) := fun gf cf => by
    rw [lays_filter]
    have h := seenIs (a := some ⟨gf, 0, Option.none⟩) (cap := cf) (by omega) hf hc hx hy
    rwa [lightOf_few] at h
  refine ⟨lightOf x y (l.take n) c, lightOf x y l c, laysTo l x y l.length, seenIs (by omega) hok hc hx hy, s2, s3, s4, s5, colYes (.inl hA.r) (.inl hA.g) (.inl hA.b), eq_same hA, eq_same hc,
    fun w hr => layersAt_i (by omega) hok hx hy w hr, fun j hj => ?_, by have := lays_le l x y l.length; omega⟩
  have hm : (laysTo l x y l.length).getD j 0 ∈ laysTo l x y l.length := by simp [List.getD, hj]
  obtain ⟨h1, h2⟩ := lays_mem hm
  refine ⟨h1, ?_⟩
  generalize (laysTo l x y l.length).getD j 0 = i at h1 h2 ⊢
  have hi : l.getD i default ∈ l := by simp [List.getD, h1]
  have I := inIs (hok _ hi).yes hx hy
  rwa [h2] at I
end Go.Proofs.Ytkcfekhpppihhaa
