/-
  Texts Um Un Ur Us, joined.
-/
import Derived.Test.YtfdgijmmgllmgaaGreatDoorS21
import Derived.Test.YtfdgijmmgllmgaaGreatDoorS08
import Derived.Deep.RegionLaw
import Derived.Lib.SliceRun
import Derived.Lib.ReflectliteSwap
import Derived.OwnWalk
import Derived.Deep.RegionHeld3
import Derived.IntWalk
import Derived.Test.YtfdgijmmgllmgaaGreatDoorS22
import Derived.Deep.DeepCutAuto
namespace Go.Proofs.YtfdgijmmgllmgaaGreatDoor
open Go.ChangeShapes Go.WideShapes Go.ChangeAt Go.RowKit Go.Joins
set_option linter.unusedSimpArgs false
set_option linter.unusedVariables false
set_option maxRecDepth 100000
attribute [local go_sem] store_f
open Ieee Go.Lib
attribute [local go_sem] store_c
theorem bw_set2 (L : List Bw) : ∀ n (c : Bw), n < L.length → bwCells (L.set n c) = ((bwCells L).set (n * 2) (.complex .f32 c.a1 c.a2)).set (n * 2 + 1) (.complex .f32 c.v1 c.v2) := by
  induction L with
  | nil => intro n c h; simp at h
  | cons b L ih =>
    intro n c h
    cases n with
    | zero => rfl
    | succ n =>
      have := ih n c (by simpa using h)
      have e : bwCells (b :: L) = .complex .f32 b.a1 b.a2 :: .complex .f32 b.v1 b.v2 :: bwCells L := rfl
      rw [e, show (n + 1) * 2 = n * 2 + 1 + 1 by omega]
      show _ = Value.complex .f32 b.a1 b.a2 :: .complex .f32 b.v1 b.v2 :: ((bwCells L).set (n * 2) (.complex .f32 c.a1 c.a2)).set (n * 2 + 1) (.complex .f32 c.v1 c.v2)
      rw [← this]
      rfl
def mixL (L R : List Bw) (k : Nat) : List Bw := R.take k ++ L.drop k
theorem mixL_len {L R : List Bw} (h : R.length = L.length) {k : Nat} (hk : k ≤ L.length) : (mixL L R k).length = L.length := by simp [mixL]; omega
theorem mixL_get {L R : List Bw} (h : R.length = L.length) {k : Nat} (hk : k < L.length) : (mixL L R k).getD k default = L.getD k default := by
  have : (R.take k).length = k := by simp; omega
  simp [mixL, List.getD, List.getElem?_append_right, this, show k < L.length from hk]
theorem mixL_step {L R : List Bw} (h : R.length = L.length) {k : Nat} (hk : k < L.length) : mixL L R (k + 1) = (mixL L R k).set k (R.getD k default) := by
  have h1 : (R.take k).length = k := by simp; omega
  have h2 : L.drop k = L[k] :: L.drop (k + 1) := List.drop_eq_getElem_cons hk
  have h3 : R.take (k + 1) = R.take k ++ [R.getD k default] := by
    rw [List.take_succ_eq_append_getElem (by omega)]; simp [List.getD, show k < R.length by omega]
  unfold mixL
  rw [h3, h2, List.set_append_right _ _ (by omega), h1, Nat.sub_self, List.set_cons_zero]
  simp
theorem mixL_0 (L R : List Bw) : mixL L R 0 = L := by simp [mixL]
theorem mixL_all {L R : List Bw} (h : R.length = L.length) : mixL L R L.length = R := by simp [mixL, ← h]
end Go.Proofs.YtfdgijmmgllmgaaGreatDoor
namespace Go.Proofs.YtfdgijmmgllmgaaGreatDoor
open Go.ChangeShapes Go.WideShapes Go.ChangeAt Go.RowKit Go.Joins
set_option linter.unusedSimpArgs false
set_option linter.unusedVariables false
set_option maxRecDepth 100000
attribute [local go_sem] store_f
open Ieee Go.Lib
attribute [local go_sem] store_c
theorem flat_take {α : Type} (f : α → List Value) (m : Nat) (hf : ∀ x, (f x).length = m) : ∀ (l : List α) (n : Nat), (l.flatMap f).take (n * m) = (l.take n).flatMap f
  | [], n => by simp
  | x :: l, 0 => by simp
  | x :: l, n + 1 => by
    rw [List.flatMap_cons, List.take_succ_cons, List.flatMap_cons, ← flat_take f m hf l n]
    have e : (n + 1) * m = (f x).length + n * m := by rw [hf, Nat.add_mul]; omega
    rw [e, List.take_length_add_append]
theorem flat_drop {α : Type} (f : α → List Value) (m : Nat) (hf : ∀ x, (f x).length = m) : ∀ (l : List α) (n : Nat), (l.flatMap f).drop (n * m) = (l.drop n).flatMap f
  | [], n => by simp
  | x :: l, 0 => by simp
  | x :: l, n + 1 => by
    rw [List.flatMap_cons, List.drop_succ_cons, ← flat_drop f m hf l n]
    have e : (n + 1) * m = (f x).length + n * m := by rw [hf, Nat.add_mul]; omega
    rw [e, List.drop_length_add_append]
theorem sh_cut (l : List Shd) (n : Nat) : shCells (l.take n ++ l.drop (n + 1)) = (shCells l).take (n * 7) ++ (shCells l).drop ((n + 1) * 7) := by
  rw [shCells_app]
  exact congr (congrArg _ (flat_take Shd.cells 7 (fun _ => rfl) l n).symm) (flat_drop Shd.cells 7 (fun _ => rfl) l (n + 1)).symm
theorem bw_cut (l : List Bw) (n : Nat) : bwCells (l.take n ++ l.drop (n + 1)) = (bwCells l).take (n * 2) ++ (bwCells l).drop ((n + 1) * 2) := by
  rw [bwCells_app]
  exact congr (congrArg _ (flat_take Bw.cells 2 (fun _ => rfl) l n).symm) (flat_drop Bw.cells 2 (fun _ => rfl) l (n + 1)).symm
theorem owns_cap {W : World} {B T sz n c : Nat} {a : Option Addr} {xs : List Value} (h : W.ownsRow B T sz (.slice a n c) n xs) (hn : 0 < n) : n ≤ c ∧ c ≤ 9223372036854775807 := by
  rcases h.2 with ⟨_, e⟩ | ⟨g, cap, cur, e1, _, _, h1, h2, _⟩
  · omega
  · cases e1
    unfold maxLen at h2
    exact ⟨h1, h2⟩
theorem LiesZ.grownN {W w1 : World} {a : Option Addr} {xs : List Value} {g : Nat} (h : LiesZ W a xs) (hg : W.grownBy w1 (some g)) (hne : a ≠ some ⟨g, 0, Option.none⟩) : LiesZ w1 a xs := by
  rcases h with h | ⟨k, e, h⟩
  · exact .inl h
  · exact .inr ⟨k, e, h.grown hg fun e' => hne (by rw [e]; cases e'; rfl)⟩
end Go.Proofs.YtfdgijmmgllmgaaGreatDoor
namespace Go.Proofs.YtfdgijmmgllmgaaGreatDoor
open Go.ChangeShapes Go.WideShapes Go.ChangeAt Go.RowKit Go.Joins
set_option linter.unusedSimpArgs false
set_option linter.unusedVariables false
set_option maxRecDepth 100000
attribute [local go_sem] store_f
open Ieee Go.Lib
attribute [local go_sem] store_c
structure Good (S : Shw) : Prop where
  fine : Fine S
  yes : ∀ e ∈ S.log, e.yes = true
  cost : cost S.log ≤ 10
  len : S.log.length ≤ 24
theorem doE_yes {S T : Shw} {e : Ev} (F : Fine S) (h : doE S e = some T) : e.yes = true := by
  have := F.few
  unfold doE at h
  cases e <;> simp only [doB] at h <;> simp only [Ev.yes]
  all_goals (split at h; (· simp; omega); (· simp at h))
theorem good_do {S T : Shw} {e : Ev} (G : Good S) (he : e.Ok) (h : doE S e = some T) (hc : Go.Proofs.YtfdgijmmgllmgaaGreatDoor.cost (S.log ++ [e]) ≤ 10) (hl : S.log.length ≤ 23) : Good T := by
  obtain ⟨g1, _, _⟩ := do_log h
  have hy := doE_yes G.fine h
  refine ⟨fine_do G.fine he h hc, fun x hx => ?_, by rw [g1]; exact hc, by rw [g1]; simp; omega⟩
  rw [g1] at hx
  rcases List.mem_append.1 hx with h | h
  · exact G.yes x h
  · rw [List.mem_singleton] at h; rw [h]; exact hy
theorem good_start {size step : Nat} (h1 : 1 ≤ size) (h5 : size ≤ 5) (hs : ∃ i, i < 5 ∧ step = stepB i) : Good (start size step) :=
  ⟨fine_start h1 h5 hs, fun e h => absurd h (by simp [start]), by simp [start, Go.Proofs.YtfdgijmmgllmgaaGreatDoor.cost], by simp [start]⟩
theorem good_run {l : List Ev} : ∀ {S T : Shw}, Good S → (∀ e ∈ l, e.Ok) → runE S l = some T → Go.Proofs.YtfdgijmmgllmgaaGreatDoor.cost (S.log ++ l) ≤ 10 → S.log.length + l.length ≤ 24 → Good T := by
  induction l with
  | nil => intro S T F _ h _ _; simp only [runE, Option.some.injEq] at h; subst h; exact F
  | cons e l ih =>
    intro S T F hl h hc hn
    simp only [runE] at h
    cases hd : doE S e with
    | none => rw [hd] at h; simp at h
    | some U =>
      rw [hd] at h
      obtain ⟨g1, _, _⟩ := do_log hd
      have hc' : Go.Proofs.YtfdgijmmgllmgaaGreatDoor.cost (S.log ++ [e] ++ l) ≤ 10 := by simpa using hc
      rw [List.length_cons] at hn
      refine ih (good_do F (hl e (List.mem_cons_self ..)) hd ?_ (by omega)) (fun x hx => hl x (List.mem_cons_of_mem _ hx)) h (by rw [g1]; exact hc') (by rw [g1]; simp; omega)
      rw [cost_append] at hc'
      omega
theorem Fine.tum {S : Shw} (F : Fine S) : TumOk S.kind S.g.1.1 S.g.1.2 0 S.bds.length (S.bds.map wd) := by
  have k3 := F.kin
  have c0 : (0 : Int) ≤ (S.kind : Int) := by omega
  have c3 : (S.kind : Int) ≤ 3 := by omega
  refine ⟨by unfold kindB; simp; omega, pt_is S.g, share_le (by omega), F.few, by simp, fun k hk => ?_, fun k hk => ?_⟩
  · rw [getD_map wd _ hk]
    have h := inWedge_p c0 c3 (S.bds.getD k default).1
    rw [(F.bds _ (getD_mem hk)).2.2.2] at h
    exact h
  · rw [getD_map wd _ hk]
    exact pt_is _
theorem Good.lens {S : Shw} (G : Good S) : ShoLen S.w S.bds.length S.bds.length S.log.length :=
  ⟨G.fine.len, by simp [Shw.w], by simp [Shw.w], by have := G.fine.few; omega, G.fine.few, by have := G.len; omega⟩
theorem Fine.size {S : Shw} (F : Fine S) (w : World) : Calls Tryz.prog 19 #[.int .i64 S.size] w fun e w' => e = .returned (.bool true) ∧ w' = w := by
  have h := isSize_i S.size w
  rwa [show sizeB (S.size : Int) = true by unfold sizeB; have := F.s1; have := F.s5; simp; omega] at h
theorem areDrawn {l : List Shd} {N : Nat} (hl : l.length = N) (hn : N ≤ 12) (h : ∀ s ∈ l, s.Drawn) (a : Option Addr) (cap : Nat) : AreIs a N cap l := by
  subst hl
  exact areIs hn (fun s hs => (h s hs).ok)
theorem Good.ask {S : Shw} (G : Good S) : ShAsk S.w S.bds.length S.bds.length S.log.length true := by
  have F := G.fine
  obtain ⟨i, hi, hs⟩ := F.st
  refine ⟨F.size, ?_, colYes (.inl F.lit.r) (.inl F.lit.g) (.inl F.lit.b), areDrawn F.len (by have := F.few; omega) F.shs, fun w a cap hr => (isT F.tum).call w a cap hr, fun _ => rfl, ?_, ?_, fun _ => ?_⟩
  · show StepIs S.step
    rw [hs]; exact stepIs hi
  · show (0 : Int) ≤ (S.ticks : Int); omega
  · show (S.ticks : Int) ≤ 200; have := F.ticks; have := G.len; omega
  · refine logIs (by simp [Shw.w]) G.len fun e he => ?_
    obtain ⟨x, hx, rfl⟩ := List.mem_map.1 he
    obtain ⟨v, K, _⟩ := evM_of (F.log x hx)
    rw [G.yes x hx] at K
    exact evIs K
theorem Good.is {S : Shw} (G : Good S) : ShIs 16 S.w S.bds.length S.bds.length S.log.length true := shIs G.ask
end Go.Proofs.YtfdgijmmgllmgaaGreatDoor
namespace Go.Proofs.YtfdgijmmgllmgaaGreatDoor
open Go.ChangeShapes Go.WideShapes Go.ChangeAt Go.RowKit Go.Joins
set_option linter.unusedSimpArgs false
set_option linter.unusedVariables false
set_option maxRecDepth 100000
attribute [local go_sem] store_f
open Ieee Go.Lib
theorem logs (S : Shw) (e : Ev) : S.w.log ++ [e.w] = (S.log ++ [e]).map Ev.w := by simp [Shw.w]
end Go.Proofs.YtfdgijmmgllmgaaGreatDoor
