/-
  The words that the model goes through, level by level: the plain mathematics.
-/
import Derived.Test.YtbeefbmgbmgbfaaQthree
import Derived.Test.YtbeefbmgbmgbfaaWthree
namespace Go.Proofs.Ytbeefbmgbmgbfaa
open Go.ChangeShapes Go.WideShapes Go.ChangeAt Go.RowKit Go.Joins 
set_option linter.unusedSimpArgs false
set_option linter.unusedVariables false
/-- The words of n letters that the model looks at. -/
def lev (kind : Int) : Nat → List (List Int)
  | 0 => [[]]
  | n + 1 => (lev kind n).flatMap fun z => if (l1WordR kind z).2 then ext z 2 else []
/-- Is a word the one that is looked for? -/
def isWd (kind : Int) (p : Int × Bool) (z : List Int) : Bool := decide (l1WordR kind z = (p, true))
/-- All words that the model looks at, in its order. -/
def wds (kind : Int) (n : Nat) : List (List Int) := (List.range n).flatMap (lev kind)
def wdsFind (kind : Int) (p : Int × Bool) : Option (List Int) := (wds kind 5).find? (isWd kind p)
theorem wds_succ (kind : Int) (n : Nat) : wds kind (n + 1) = wds kind n ++ lev kind n := by simp [wds, List.range_succ]
theorem wds_len (kind : Int) : ∀ n, (lev kind n).length ≤ 2 ^ n ∧ ∀ z ∈ lev kind n, z.length = n
  | 0 => ⟨by simp [lev], by simp [lev]⟩
  | n + 1 => by
    obtain ⟨h1, h2⟩ := wds_len kind n
    constructor
    · have : ∀ l : List (List Int), (l.flatMap fun z => if (l1WordR kind z).2 then ext z 2 else []).length ≤ 2 * l.length := by
        intro l
        induction l with
        | nil => simp
        | cons z l ih =>
          simp only [List.flatMap_cons, List.length_append, List.length_cons]
          split
          · have e : (ext z 2).length = 2 := by simp [ext]
            omega
          · simp only [List.length_nil]; omega
      have := this (lev kind n)
      simp only [lev]
      rw [Nat.pow_succ]
      omega
    · intro z hz
      simp only [lev, List.mem_flatMap] at hz
      obtain ⟨y, hy, hz⟩ := hz
      split at hz
      · simp only [ext, List.mem_map] at hz
        obtain ⟨x, _, rfl⟩ := hz
        simp [h2 y hy]
      · cases hz
theorem find_at {kind : Int} {p : Int × Bool} {n i : Nat} (hn : n < 5) (h1 : (wds kind n).find? (isWd kind p) = Option.none) (h2 : ((lev kind n).take i).find? (isWd kind p) = Option.none) (hi : i < (lev kind n).length)
    (hz : isWd kind p ((lev kind n).getD i []) = true) : wdsFind kind p = some ((lev kind n).getD i []) := by
  have e : ∃ rest, wds kind 5 = (wds kind n ++ lev kind n) ++ rest := by
    refine ⟨((List.range (4 - n)).map (fun x => n + 1 + x)).flatMap (lev kind), ?_⟩
    rw [← wds_succ]
    unfold wds
    rw [← List.flatMap_append, show (5 : Nat) = (n + 1) + (4 - n) by omega, List.range_add]
  obtain ⟨rest, e⟩ := e
  have e2 : lev kind n = (lev kind n).take i ++ (lev kind n).getD i [] :: (lev kind n).drop (i + 1) := by
    conv => lhs; rw [← List.take_append_drop i (lev kind n)]
    rw [List.drop_eq_getElem_cons hi]
    simp [List.getD, hi]
  unfold wdsFind
  rw [e, List.find?_append, List.find?_append, h1]
  have e3 : (lev kind n).find? (isWd kind p) = some ((lev kind n).getD i []) := by
    conv => lhs; rw [e2]
    rw [List.find?_append, h2, List.find?_cons_of_pos hz]
    rfl
  rw [e3]
  rfl
theorem wdsFind_eq (kind t : Int) (f : Bool) : (ofB kind t f = false → wdsFind kind (t, f) = Option.none) ∧
    (∀ N, N ≤ 30 → wordR kind (wd (mirL kind).length N) = ((t, f), true) → (∀ k, k < N → wordR kind (wd (mirL kind).length k) ≠ ((t, f), true)) → ofB kind t f = true → wdsFind kind (t, f) = some (wd (mirL kind).length N)) := by
  by_cases hk : 0 ≤ kind ∧ kind ≤ 3
  · by_cases ht : 0 ≤ t ∧ t < 4
    · have key : ∀ f, wdsFind kind (t, f) = if ofB kind t f then ((List.range 31).find? fun i => wordR kind (wd (mirL kind).length i) == ((t, f), true)).map (wd (mirL kind).length) else Option.none := by
        rcases (by omega : kind = 0 ∨ kind = 1 ∨ kind = 2 ∨ kind = 3) with rfl | rfl | rfl | rfl <;> rcases (by omega : t = 0 ∨ t = 1 ∨ t = 2 ∨ t = 3) with rfl | rfl | rfl | rfl <;> decide +kernel
      constructor
      · intro h
        rw [key, h]
        rfl
      · intro N hN hy hno h
        have e : (List.range 31).find? (fun i => wordR kind (wd (mirL kind).length i) == ((t, f), true)) = some N := by
          rw [List.find?_eq_some_iff_append]
          refine ⟨by simpa using hy, List.range N, (List.range (30 - N)).map (fun x => N + 1 + x), ?_, ?_⟩
          · rw [show 31 = N + (1 + (30 - N)) by omega, List.range_add, List.range_add]
            simp [Nat.add_assoc, Function.comp_def]
          · intro x hx
            have := hno x (by simpa using hx)
            simpa using this
        rw [key, h, e]
        rfl
    · have hs : isSymB t = false := by
        simp [isSymB]
        omega
      have ho : ofB kind t f = false := by simp [ofB, hs]
      refine ⟨fun _ => ?_, fun N _ _ _ h => by rw [ho] at h; cases h⟩
      unfold wdsFind
      rw [List.find?_eq_none]
      intro z _
      unfold isWd l1WordR
      cases hw : wordFrom kind (0, false) z with
      | none => simp
      | some r =>
        have := wordFrom_sym (by decide) (by decide) hw
        simp only [decide_eq_true_eq]
        intro e
        have e1 : r = (t, f) := (Prod.mk.inj e).1
        rw [e1] at this
        exact ht this
  · have ho : ofB kind t f = false := by
      have h0 : kind ≠ 0 := by omega
      have h1 : kind ≠ 1 := by omega
      have h2 : kind ≠ 2 := by omega
      have h3 : kind ≠ 3 := by omega
      simp [ofB, h0, h1, h2, h3]
    refine ⟨fun _ => ?_, fun N _ _ _ h => by rw [ho] at h; cases h⟩
    unfold wdsFind
    rw [List.find?_eq_none]
    intro z _
    unfold isWd l1WordR
    rw [inB_no hk]
    cases wordFrom kind (0, false) z <;> simp
theorem Queue.mono {W : World} {B B2 : Nat} {s : Value} {ws : List (List Int)} (h : Queue W B s ws) (hB : B2 ≤ B) : Queue W B2 s ws := by
  obtain ⟨hs, h1, h2, h3⟩ := h
  exact ⟨hs, ownsRow_le h1 hB, h2, fun i hi => by
    obtain ⟨g, c, a, b, d, e, f⟩ := h3 i hi
    exact ⟨g, c, a, b, d, e, by omega⟩⟩
end Go.Proofs.Ytbeefbmgbmgbfaa
