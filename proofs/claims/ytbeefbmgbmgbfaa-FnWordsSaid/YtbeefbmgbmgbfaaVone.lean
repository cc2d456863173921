/-
  Words of mirrors: how long the shortest ones are, and what two words one behind the other do.
-/
import Derived.Test.YtbeefbmgbmgbfaaQthree
import Derived.Test.YtbeefbmgbmgbfaaFone
import Derived.Test.YtbeefbmgbmgbfaaDtwo
namespace Go.Proofs.Ytbeefbmgbmgbfaa
open Go.ChangeShapes Go.WideShapes Go.ChangeAt Go.RowKit Go.Joins 
set_option linter.unusedSimpArgs false
set_option linter.unusedVariables false
/-- How long the first word of a symmetry is. -/
def shortL (kind : Int) (p : Int × Bool) : Nat :=
  match (List.range 31).find? fun i => wordR kind (wd (mirL kind).length i) == (p, true) with
  | some i => (wd (mirL kind).length i).length
  | Option.none => 0
theorem shortL_of {kind : Int} {p : Int × Bool} {N : Nat} (hN : N ≤ 30) (hyes : wordR kind (wd (mirL kind).length N) = (p, true)) (hno : ∀ k, k < N → wordR kind (wd (mirL kind).length k) ≠ (p, true)) : shortL kind p = (wd (mirL kind).length N).length := by
  have e : (List.range 31).find? (fun i => wordR kind (wd (mirL kind).length i) == (p, true)) = some N := by
    rw [List.find?_eq_some_iff_append]
    refine ⟨by simpa using hyes, List.range N, (List.range (30 - N)).map (fun x => N + 1 + x), ?_, ?_⟩
    · rw [show 31 = N + (1 + (30 - N)) by omega, List.range_add, List.range_add]
      simp [Nat.add_assoc, Function.comp_def]
    · intro x hx
      have := hno x (by simpa using hx)
      simpa using this
  unfold shortL
  rw [e]
theorem shortL_facts (kind : Int) (h0 : 0 ≤ kind) (h3 : kind ≤ 3) : shortL kind (0, false) = 0 ∧ ∀ p ∈ symsTo kind 8, shortL kind p ≤ 4 ∧ (shortL kind p % 2 = if p.2 then 1 else 0) ∧ ∀ q ∈ mirL kind, shortL kind (thenP p q) ≤ shortL kind p + 1 ∧ (thenP p q).2 = !p.2 := by
  rcases (by omega : kind = 0 ∨ kind = 1 ∨ kind = 2 ∨ kind = 3) with rfl | rfl | rfl | rfl <;> decide +kernel
theorem thenP_assoc (kind : Int) (h0 : 0 ≤ kind) (h3 : kind ≤ 3) : ∀ p ∈ symsTo kind 8, ∀ q ∈ symsTo kind 8, thenP p (0, false) = p ∧ ∀ r ∈ mirL kind, thenP (thenP p q) r = thenP p (thenP q r) := by
  rcases (by omega : kind = 0 ∨ kind = 1 ∨ kind = 2 ∨ kind = 3) with rfl | rfl | rfl | rfl <;> decide +kernel
theorem mirr_twice (kind : Int) (h0 : 1 ≤ kind) (h3 : kind ≤ 3) : mirr kind 0 = some (0, true) ∧ ∀ p ∈ symsTo kind 8, thenP (thenP p (0, true)) (0, true) = p := by
  rcases (by omega : kind = 1 ∨ kind = 2 ∨ kind = 3) with rfl | rfl | rfl <;> decide +kernel
theorem syms_ofB {kind : Int} {p : Int × Bool} (h : p ∈ symsTo kind 8) : ofB kind p.1 p.2 = true := (List.mem_filter.1 h).2
/-- Letters of a word are mirrors. -/
theorem letter_mirr {kind x : Int} (hx : 0 ≤ x ∧ x < ((mirL kind).length : Int)) : ∃ q, mirr kind x = some q ∧ q ∈ mirL kind := by
  refine ⟨(mirL kind).getD x.toNat (0, false), by rw [mirr_eq, if_pos hx], ?_⟩
  have : x.toNat < (mirL kind).length := by omega
  simp [List.getD, this]
theorem word_len (kind : Int) (h0 : 0 ≤ kind) (h3 : kind ≤ 3) : ∀ (u : List Int) (p r : Int × Bool), p ∈ symsTo kind 8 → Letters kind u → wordFrom kind p u = some r → shortL kind r ≤ shortL kind p + u.length ∧ r.2 = (p.2 != decide (u.length % 2 = 1))
  | [], p, r, _, _, h => by
    cases h
    simp
  | x :: u, p, r, hp, hl, h => by
    obtain ⟨q, hq, hqm⟩ := letter_mirr (hl x (by simp))
    simp only [wordFrom, hq] at h
    have hs := ((shortL_facts kind h0 h3).2 p hp).2.2 q hqm
    have ih := word_len kind h0 h3 u (thenP p q) r (syms_closed kind h0 h3 p hp q ((syms_mirr kind h0 h3).2 q hqm)) (fun y hy => hl y (by simp [hy])) h
    refine ⟨by have := ih.1; have := hs.1; simp; omega, ?_⟩
    rw [ih.2, hs.2]
    rcases (by omega : u.length % 2 = 0 ∨ u.length % 2 = 1) with e | e
    · have e2 : (u.length + 1) % 2 = 1 := by omega
      simp [e, e2]
    · have e2 : (u.length + 1) % 2 = 0 := by omega
      simp [e, e2]
theorem word_behind (kind : Int) (h0 : 0 ≤ kind) (h3 : kind ≤ 3) : ∀ (v : List Int) (p q r : Int × Bool), p ∈ symsTo kind 8 → q ∈ symsTo kind 8 → Letters kind v → wordFrom kind q v = some r → wordFrom kind (thenP p q) v = some (thenP p r)
  | [], p, q, r, _, _, _, h => by
    cases h
    rfl
  | x :: v, p, q, r, hp, hq, hl, h => by
    obtain ⟨s, hs, hsm⟩ := letter_mirr (hl x (by simp))
    simp only [wordFrom, hs] at h ⊢
    rw [((thenP_assoc kind h0 h3 p hp q hq).2 s hsm)]
    exact word_behind kind h0 h3 v p (thenP q s) r hp (syms_closed kind h0 h3 q hq s ((syms_mirr kind h0 h3).2 s hsm)) (fun y hy => hl y (by simp [hy])) h
end Go.Proofs.Ytbeefbmgbmgbfaa
