/-
  Words of mirrors: the plain mathematics, and the contracts of the small functions.
-/
import Derived.Test.YtbeefbmgbmgbfaaSfive
namespace Go.Proofs.Ytbeefbmgbmgbfaa
open Go.ChangeShapes Go.WideShapes Go.ChangeAt Go.RowKit Go.Joins 
set_option linter.unusedSimpArgs false
set_option linter.unusedVariables false
/-- The symmetry of a letter. -/
def mirr (kind x : Int) : Option (Int × Bool) :=
  if x = 0 ∧ 1 ≤ kind ∧ kind ≤ 3 then some (0, true) else if x = 1 ∧ kind = 2 then some (2, true) else if x = 1 ∧ kind = 3 then some (1, true) else Option.none
def thenP (p q : Int × Bool) : Int × Bool := (thenT p.1 q.1 q.2, thenF p.1 q.1 p.2 q.2)
/-- A word, one letter after the other. -/
def wordFrom (kind : Int) : Int × Bool → List Int → Option (Int × Bool)
  | p, [] => some p
  | p, x :: l => match mirr kind x with
    | Option.none => Option.none
    | some q => wordFrom kind (thenP p q) l
theorem wordFrom_snoc (kind : Int) : ∀ (l : List Int) (p : Int × Bool) (x : Int), wordFrom kind p (l ++ [x]) = (wordFrom kind p l).bind fun r => (mirr kind x).map (thenP r)
  | [], p, x => by
    simp only [List.nil_append, wordFrom]
    cases mirr kind x <;> rfl
  | y :: l, p, x => by
    simp only [List.cons_append, wordFrom]
    cases mirr kind y with
    | none => rfl
    | some q => exact wordFrom_snoc kind l (thenP p q) x
theorem wordFrom_app (kind : Int) : ∀ (l m : List Int) (p : Int × Bool), wordFrom kind p (l ++ m) = (wordFrom kind p l).bind fun r => wordFrom kind r m
  | [], m, p => rfl
  | y :: l, m, p => by
    simp only [List.cons_append, wordFrom]
    cases mirr kind y with
    | none => rfl
    | some q => exact wordFrom_app kind l m (thenP p q)
theorem wordFrom_none {kind : Int} {l : List Int} {p : Int × Bool} {k : Nat} (h : wordFrom kind p (l.take k) = Option.none) : wordFrom kind p l = Option.none := by
  rw [← List.take_append_drop k l, wordFrom_app, h]
  rfl
theorem take_snoc_getD (l : List Int) (k : Nat) (h : k < l.length) : l.take (k + 1) = l.take k ++ [l.getD k 0] := by
  rw [List.take_succ_eq_append_getElem h]
  simp [List.getD, h]
theorem mirr_sym {kind x : Int} {q : Int × Bool} (h : mirr kind x = some q) : 0 ≤ q.1 ∧ q.1 < 4 := by
  unfold mirr at h
  split at h
  · cases h; decide
  · split at h
    · cases h; decide
    · split at h
      · cases h; decide
      · cases h
theorem thenT_range (t u : Int) (g : Bool) : 0 ≤ thenT t u g ∧ thenT t u g < 4 := by
  unfold thenT
  split
  · split <;> omega
  · omega
theorem wordFrom_sym {kind : Int} : ∀ {l : List Int} {p r : Int × Bool}, 0 ≤ p.1 → p.1 < 4 → wordFrom kind p l = some r → 0 ≤ r.1 ∧ r.1 < 4
  | [], p, r, h0, h1, h => by
    cases h
    exact ⟨h0, h1⟩
  | x :: l, p, r, h0, h1, h => by
    simp only [wordFrom] at h
    cases hm : mirr kind x with
    | none => rw [hm] at h; cases h
    | some q =>
      rw [hm] at h
      exact wordFrom_sym (thenT_range _ _ _).1 (thenT_range _ _ _).2 h
/-- What SymOfWord answers. -/
def wordR (kind : Int) (z : List Int) : (Int × Bool) × Bool :=
  if 0 ≤ kind ∧ kind ≤ 3 ∧ z.length ≤ 24 then match wordFrom kind (0, false) z with
    | some p => (p, true)
    | Option.none => ((0, false), false)
  else ((0, false), false)
/-- The mirrors of a kind. -/
def mirL (kind : Int) : List (Int × Bool) := if kind = 1 then [(0, true)] else if kind = 2 then [(0, true), (2, true)] else if kind = 3 then [(0, true), (1, true)] else []
theorem mirL_len (kind : Int) : (mirL kind).length ≤ 2 := by
  unfold mirL
  split
  · decide
  · split
    · decide
    · split <;> decide
theorem mirr_eq (kind x : Int) : mirr kind x = if 0 ≤ x ∧ x < ((mirL kind).length : Int) then some ((mirL kind).getD x.toNat (0, false)) else Option.none := by
  by_cases k1 : kind = 1
  · subst k1
    by_cases x0 : x = 0
    · subst x0; decide
    · have h : ¬ (0 ≤ x ∧ x < 1) := by omega
      simp [mirr, mirL, x0, h]
  · by_cases k2 : kind = 2
    · subst k2
      by_cases x0 : x = 0
      · subst x0; decide
      · by_cases x1 : x = 1
        · subst x1; decide
        · have h : ¬ (0 ≤ x ∧ x < 2) := by omega
          simp [mirr, mirL, x0, x1, h]
    · by_cases k3 : kind = 3
      · subst k3
        by_cases x0 : x = 0
        · subst x0; decide
        · by_cases x1 : x = 1
          · subst x1; decide
          · have h : ¬ (0 ≤ x ∧ x < 2) := by omega
            simp [mirr, mirL, x0, x1, h]
      · have h : ¬ (0 ≤ x ∧ x < 0) := by omega
        have h2 : ¬ (1 ≤ kind ∧ kind ≤ 3) := by omega
        simp [mirr, mirL, k1, k2, k3, h, h2]

/-- The cells of a list of integers, from a block's head on. -/
def IntRow (W : World) (g : Nat) (z : List Int) : Prop := ∀ k, k < z.length → W.cell? ⟨g, k, Option.none⟩ = some (.int .i64 (z.getD k 0))
theorem IntRow.below {W w1 : World} {g : Nat} {z : List Int} (h : IntRow W g z) (hb : Below W.heap.size W w1) : IntRow w1 g z := fun k hk => cBelow hb (h k hk)
/-- A block whose cells are all known. -/
def Blk (W : World) (b : Nat) (cs : Array Value) (t : TypeId) : Prop := W.heap[b]? = some (.cells cs t (0, 0))
theorem Blk.lt {W : World} {b : Nat} {cs : Array Value} {t : TypeId} (h : Blk W b cs t) : b < W.heap.size := (Array.getElem?_eq_some_iff.1 h).1
theorem Blk.below {W w1 : World} {b : Nat} {cs : Array Value} {t : TypeId} (h : Blk W b cs t) (hb : Below W.heap.size W w1) : Blk w1 b cs t := (hb.block b h.lt).trans h
theorem Blk.drew {W : World} {b : Nat} {cs : Array Value} {t : TypeId} (h : Blk W b cs t) : Blk W.drew b cs t := h
theorem Blk.alloc {W : World} {b : Nat} {cs : Array Value} {t : TypeId} {o : Obj} (h : Blk W b cs t) : Blk (W.alloc o) b cs t := (Below.heap_alloc _ _ _ h.lt).trans h
theorem Blk.new (W : World) (cs : Array Value) (t : TypeId) : Blk (W.alloc (.cells cs t)) W.heap.size cs t := by
  show (W.heap.push _)[W.heap.size]? = _
  simp
theorem Blk.set {W : World} {b i : Nat} {cs : Array Value} {t : TypeId} {v : Value} (h : Blk W b cs t) : Blk (W.setCell ⟨b, i, Option.none⟩ v) b (cs.setIfInBounds i v) t := block_setCell h v
theorem Blk.other {W : World} {b : Nat} {a : Addr} {cs : Array Value} {t : TypeId} {v : Value} (h : Blk W b cs t) (hne : b ≠ a.block) : Blk (W.setCell a v) b cs t := (Below.heap_setCell _ _ _ _ hne).trans h
theorem Blk.cell {W : World} {b : Nat} {cs : Array Value} {t : TypeId} (h : Blk W b cs t) (i : Nat) : W.cell? ⟨b, i, Option.none⟩ = cs[i]? := cell_of_block h i
theorem Blk.free {W : World} {b : Nat} {cs : Array Value} {t : TypeId} (h : Blk W b cs t) (i : Nat) : W.frozen? ⟨b, i, Option.none⟩ = false := unfrozen_of_block h i
theorem SymRow.set {W : World} {g : Nat} {a : Addr} {v : Value} {l : List (Int × Bool)} (h : SymRow W g l) (hne : g ≠ a.block) : SymRow (W.setCell a v) g l :=
  fun k hk => ⟨cSet hne (h k hk).1, cSet hne (h k hk).2⟩
theorem SymRow.alloc {W : World} {g : Nat} {o : Obj} {l : List (Int × Bool)} (h : SymRow W g l) : SymRow (W.alloc o) g l :=
  fun k hk => ⟨cAlloc (h k hk).1, cAlloc (h k hk).2⟩

/-! Contracts. -/
theorem isKind_i (kind : Int) (w : World) :
    Calls Try.prog 56 #[.int .i64 kind] w fun e w' => e = .returned (.bool (inB kind 0 3)) ∧ w = w' := by
  by_cases h : 0 ≤ kind
  · by_cases h' : kind ≤ 3
    · rw [inB_yes h h']
      go_enter Try.func56, Try.ntmps56
      go_wp2
      go_ret
      exact ⟨rfl, rfl⟩
    · rw [inB_no (fun q => h' q.2)]
      go_enter Try.func56, Try.ntmps56
      go_wp2
      go_ret
      exact ⟨rfl, rfl⟩
  · rw [inB_no (fun q => h q.1)]
    go_enter Try.func56, Try.ntmps56
    go_wp2
    go_ret
    exact ⟨rfl, rfl⟩

theorem mirrorsOf_i (kind : Int) (w : World) :
    Calls Try.prog 57 #[.int .i64 kind] w fun e w' => ∃ g, e = .returned (.slice (some ⟨g, 0, Option.none⟩) (mirL kind).length (mirL kind).length) ∧ SymRow w' g (mirL kind) ∧ w.heap.size ≤ g ∧ g < w'.heap.size ∧ Below w.heap.size w w' := by
  by_cases k1 : kind = 1
  · subst k1
    go_enter Try.func57, Try.ntmps57
    go_wp2
    go_ret
    refine ⟨_, rfl, ?_, by simp, by simp, by (repeat' (first | (with_reducible exact Below.refl _ _) | (with_reducible assumption) | (with_reducible refine Below.alloc ?_ ?_ _) | (with_reducible refine Below.drew ?_) | (with_reducible refine Below.setCell ?_ ?_ _) | (with_reducible refine Below.trans ?_ (Below.mono (by assumption) ?_)) | (with_reducible exact Nat.le_refl _) | omega | (simp only [World.size_alloc, World.size_setCell, World.size_drew]; omega) | (simp; omega) | (simp; done)))⟩
    intro k hk
    obtain rfl : k = 0 := by simp [mirL] at hk; exact hk
    simp [mirL]
  · by_cases k2 : kind = 2
    · subst k2
      go_enter Try.func57, Try.ntmps57
      go_wp2
      go_ret
      refine ⟨_, rfl, ?_, by simp, by simp, by (repeat' (first | (with_reducible exact Below.refl _ _) | (with_reducible assumption) | (with_reducible refine Below.alloc ?_ ?_ _) | (with_reducible refine Below.drew ?_) | (with_reducible refine Below.setCell ?_ ?_ _) | (with_reducible refine Below.trans ?_ (Below.mono (by assumption) ?_)) | (with_reducible exact Nat.le_refl _) | omega | (simp only [World.size_alloc, World.size_setCell, World.size_drew]; omega) | (simp; omega) | (simp; done)))⟩
      intro k hk
      rcases (by simp [mirL] at hk; omega : k = 0 ∨ k = 1) with rfl | rfl <;> simp [mirL]
    · by_cases k3 : kind = 3
      · subst k3
        go_enter Try.func57, Try.ntmps57
        go_wp2
        go_ret
        refine ⟨_, rfl, ?_, by simp, by simp, by (repeat' (first | (with_reducible exact Below.refl _ _) | (with_reducible assumption) | (with_reducible refine Below.alloc ?_ ?_ _) | (with_reducible refine Below.drew ?_) | (with_reducible refine Below.setCell ?_ ?_ _) | (with_reducible refine Below.trans ?_ (Below.mono (by assumption) ?_)) | (with_reducible exact Nat.le_refl _) | omega | (simp only [World.size_alloc, World.size_setCell, World.size_drew]; omega) | (simp; omega) | (simp; done)))⟩
        intro k hk
        rcases (by simp [mirL] at hk; omega : k = 0 ∨ k = 1) with rfl | rfl <;> simp [mirL]
      · have e : mirL kind = [] := by simp [mirL, k1, k2, k3]
        rw [e]
        have q1 : (kind == 1) = false := by simpa using k1
        have q2 : (kind == 2) = false := by simpa using k2
        have q3 : (kind == 3) = false := by simpa using k3
        clear k1 k2 k3 e
        go_enter Try.func57, Try.ntmps57
        go_wp2
        go_ret
        exact ⟨_, rfl, fun k hk => by simp at hk, by simp, by simp, by (repeat' (first | (with_reducible exact Below.refl _ _) | (with_reducible assumption) | (with_reducible refine Below.alloc ?_ ?_ _) | (with_reducible refine Below.drew ?_) | (with_reducible refine Below.setCell ?_ ?_ _) | (with_reducible refine Below.trans ?_ (Below.mono (by assumption) ?_)) | (with_reducible exact Nat.le_refl _) | omega | (simp only [World.size_alloc, World.size_setCell, World.size_drew]; omega) | (simp; omega) | (simp; done)))⟩
end Go.Proofs.Ytbeefbmgbmgbfaa
