/-
  Texts Ua Qa Gd, joined.
-/
import Derived.Test.YtfdgijmmgllmgaaGreatR10
import Derived.Test.YtfdgijmmgllmgaaGreatR12
import Derived.Test.YtfdgijmmgllmgaaGreatR11
import Derived.Test.YtfdgijmmgllmgaaGreatR06
import Derived.Maps.AppendAt
namespace Go.Proofs.YtfdgijmmgllmgaaGreat
open Go.ChangeShapes Go.WideShapes Go.ChangeAt Go.RowKit Go.Joins
set_option linter.unusedSimpArgs false
set_option linter.unusedVariables false
set_option maxRecDepth 100000
attribute [local go_sem] store_f
open Ieee Go.Lib
structure Evw where
  kind : Int
  n : Int
  z1 : Nat
  z2 : Nat
  s : Shd
  l : Lit
def shd0 : Shd := ⟨0, 0, 0, 0, 0, 0, 0, 0, 0, 0⟩
def lit0 : Lit := ⟨0, 0, 0⟩
instance : Inhabited Evw := ⟨⟨0, 0, 0, 0, shd0, lit0⟩⟩
structure Sho where
  size : Int
  step : Nat
  lit : Lit
  shs : List Shd
  kind : Int
  g1 : Nat
  g2 : Nat
  bds : List Bw
  ticks : Int
  log : List Evw
instance : Inhabited Sho := ⟨⟨0, 0, lit0, [], 0, 0, 0, [], 0, []⟩⟩
inductive Ev where
  | add (s : Shd) (z : PtW)
  | take (n : Nat)
  | light (c : Lit)
  | mirrors (k : Nat)
  | gravity (z : PtW)
  | push (n : Nat) (z : PtW)
  | wait (n : Nat)
instance : Inhabited Ev := ⟨.take 0⟩
def Ev.w : Ev → Evw
  | .add s z => ⟨1, 0, z.1.1, z.1.2, s, lit0⟩
  | .take n => ⟨2, n, 0, 0, shd0, lit0⟩
  | .light c => ⟨3, 0, 0, 0, shd0, c⟩
  | .mirrors k => ⟨4, k, 0, 0, shd0, lit0⟩
  | .gravity z => ⟨5, 0, z.1.1, z.1.2, shd0, lit0⟩
  | .push n z => ⟨6, n, z.1.1, z.1.2, shd0, lit0⟩
  | .wait n => ⟨7, n, 0, 0, shd0, lit0⟩
def Ev.Ok : Ev → Prop
  | .add s z => s.Drawn ∧ Lim 40 z
  | .take n => n ≤ 8
  | .light c => c.Ok
  | .mirrors k => k ≤ 3
  | .gravity z => Lim 1 z
  | .push n z => n ≤ 8 ∧ Lim 5 z
  | .wait n => 1 ≤ n ∧ n ≤ 6
def Ev.big : Ev → Nat
  | .add _ _ => 1
  | .push _ _ => 1
  | .wait _ => 1
  | _ => 0
theorem Ev.big_le (e : Ev) : e.big ≤ 1 := by cases e <;> simp [Ev.big]
def cost : List Ev → Nat
  | [] => 0
  | e :: l => e.big + cost l
theorem cost_append (l m : List Ev) : cost (l ++ m) = cost l + cost m := by
  induction l with
  | nil => simp [cost]
  | cons e l ih => simp only [List.cons_append, cost, ih]; omega
theorem cost_le (l : List Ev) : cost l ≤ l.length := by
  induction l with
  | nil => simp [cost]
  | cons e l ih => have := e.big_le; simp only [cost, List.length_cons]; omega
structure Shw where
  size : Nat
  step : Nat
  lit : Lit
  shs : List Shd
  kind : Nat
  g : PtW
  bds : List (PtW × PtW)
  ticks : Nat
  log : List Ev
def Shw.w (S : Shw) : Sho := ⟨S.size, S.step, S.lit, S.shs, S.kind, S.g.1.1, S.g.1.2, S.bds.map wd, S.ticks, S.log.map Ev.w⟩
def start (size step : Nat) : Shw := ⟨size, step, lit0, [], 0, zeroP, [], 0, []⟩
instance : Inhabited Shw := ⟨start 0 0⟩
def refold (k : Nat) (b : PtW × PtW) : PtW × PtW := (actP (foldS k b.1) b.1, actP (foldS k b.1) b.2)
def doB (S : Shw) : Ev → Option Shw
  | .add s z => if S.bds.length < 8 then some { S with shs := S.shs ++ [s], bds := S.bds ++ [(actP (foldS S.kind z) z, zeroP)] } else none
  | .take n => if n < S.bds.length then some { S with shs := S.shs.take n ++ S.shs.drop (n + 1), bds := S.bds.take n ++ S.bds.drop (n + 1) } else none
  | .light c => some { S with lit := c }
  | .mirrors k => some { S with kind := k, bds := S.bds.map (refold k) }
  | .gravity z => some { S with g := z }
  | .push n z => if n < S.bds.length then some { S with bds := S.bds.set n ((S.bds.getD n default).1, sumP (S.bds.getD n default).2 z) } else none
  | .wait n => some { S with bds := runL S.kind S.g (keptW 0) n S.bds, ticks := S.ticks + n }
def doE (S : Shw) (e : Ev) : Option Shw := (doB S e).map fun T => { T with log := S.log ++ [e] }
def runE : Shw → List Ev → Option Shw
  | S, [] => some S
  | S, e :: l => (doE S e).bind fun T => runE T l
def vB (n : Nat) : Nat := 6 * (n - 1)
def aB (n : Nat) : Nat := 40 + 18 * ((n - 1) * (n - 1)) + 3 * (n - 1)
theorem vB_mono {n m : Nat} (h : n ≤ m) : vB n ≤ vB m := by unfold vB; omega
theorem aB_mono {n m : Nat} (h : n ≤ m) : aB n ≤ aB m := by
  unfold aB
  have h1 : n - 1 ≤ m - 1 := by omega
  have h2 := Nat.mul_le_mul h1 h1
  omega
theorem aB_top {n : Nat} (h : n ≤ 10) : aB n ≤ 1525 := by
  have h1 := aB_mono h
  have h2 : aB 10 = 1525 := rfl
  omega
def pB (V : Nat) : Nat → Nat
  | 0 => 0
  | j + 1 => pB V j + (V + (j + 1))
theorem pB_mono (V : Nat) {i j : Nat} (h : i ≤ j) : pB V i ≤ pB V j := by
  induction j with
  | zero => obtain rfl : i = 0 := by omega
            exact Nat.le_refl _
  | succ j ih =>
    by_cases e : i = j + 1
    · subst e; exact Nat.le_refl _
    · have := ih (by omega)
      simp only [pB]; omega
theorem pB_6 (V : Nat) : pB V 6 = 6 * V + 21 := by simp only [pB]; omega
theorem aB_step {n : Nat} (h : 1 ≤ n) : aB n + pB (vB n) 6 = aB (n + 1) := by
  obtain ⟨m, rfl⟩ : ∃ m, n = m + 1 := ⟨n - 1, by omega⟩
  rw [pB_6]
  unfold aB vB
  simp only [Nat.add_sub_cancel]
  have : (m + 1) * (m + 1) = m * m + 2 * m + 1 := by
    rw [Nat.add_mul, Nat.mul_add]; omega
  rw [this]; omega
theorem run_far {kind : Int} {g : PtW} {k V A : Nat} {l : List (PtW × PtW)} (h0 : 0 ≤ kind) (h3 : kind ≤ 3) (hk : Keep k) (hg : Lim 1 g) (hl : ∀ b ∈ l, Lim V b.2 ∧ Lim A b.1 ∧ wed kind b.1 = true) :
    ∀ j, A + pB V j < 1600 → ∀ b ∈ runL kind g k j l, Lim (V + j) b.2 ∧ Lim (A + pB V j) b.1 ∧ wed kind b.1 = true
  | 0, _, b, hb => hl b hb
  | j + 1, hj, b, hb => by
    have hj' : A + (pB V j + (V + (j + 1))) < 1600 := hj
    obtain ⟨c, hc, rfl⟩ := List.mem_map.1 hb
    obtain ⟨h1, h2, _⟩ := run_far h0 h3 hk hg hl j (by omega) c hc
    obtain ⟨_, h4, h5, h6⟩ := step_lim h0 h3 hk hg h1 h2 (by omega)
    refine ⟨h4.mono (by omega), h5.mono ?_, h6⟩
    show A + pB V j + (V + j + 1) ≤ A + (pB V j + (V + (j + 1)))
    omega
theorem run_far_can {kind : Int} {g : PtW} {k V A : Nat} {l : List (PtW × PtW)} (h0 : 0 ≤ kind) (h3 : kind ≤ 3) (hk : Keep k) (hg : Lim 1 g) (hl : ∀ b ∈ l, Lim V b.2 ∧ Lim A b.1 ∧ wed kind b.1 = true) {j : Nat} (hj : A + pB V (j + 1) < 1600) {b : PtW × PtW} (hb : b ∈ runL kind g k j l) : Can g b := by
  have hj' : A + (pB V j + (V + (j + 1))) < 1600 := hj
  obtain ⟨h1, h2, _⟩ := run_far h0 h3 hk hg hl j (by omega) b hb
  exact (step_lim h0 h3 hk hg h1 h2 (by omega)).1
structure Fine (S : Shw) : Prop where
  s1 : 1 ≤ S.size
  s5 : S.size ≤ 5
  st : ∃ i, i < 5 ∧ S.step = stepB i
  lit : S.lit.Ok
  len : S.shs.length = S.bds.length
  few : S.bds.length ≤ 8
  kin : S.kind ≤ 3
  gr : Lim 1 S.g
  shs : ∀ s ∈ S.shs, s.Drawn
  bds : ∀ b ∈ S.bds, 1 ≤ cost S.log ∧ Lim (vB (cost S.log)) b.2 ∧ Lim (aB (cost S.log)) b.1 ∧ wed S.kind b.1 = true
  ticks : S.ticks ≤ 6 * S.log.length
  log : ∀ e ∈ S.log, e.Ok
theorem keep0 : Keep (keptW 0) := kept_keep (by omega)
theorem fine_do {S T : Shw} {e : Ev} (F : Fine S) (he : e.Ok) (h : doE S e = some T) (hc : cost (S.log ++ [e]) ≤ 10) : Fine T := by
  have e1 : cost (S.log ++ [e]) = cost S.log + e.big := by rw [cost_append]; simp [cost]
  have hb : ∀ b ∈ S.bds, 1 ≤ cost (S.log ++ [e]) ∧ Lim (vB (cost (S.log ++ [e]))) b.2 ∧ Lim (aB (cost (S.log ++ [e]))) b.1 ∧ wed S.kind b.1 = true := fun b hb => by
    obtain ⟨h1, h2, h3, h4⟩ := F.bds b hb
    exact ⟨by omega, h2.mono (vB_mono (by omega)), h3.mono (aB_mono (by omega)), h4⟩
  have hlog : ∀ x ∈ S.log ++ [e], x.Ok := fun x hx => by
    rcases List.mem_append.1 hx with h | h
    · exact F.log x h
    · rw [List.mem_singleton] at h; rw [h]; exact he
  have hlen : (S.log ++ [e]).length = S.log.length + 1 := by simp
  have ht : S.ticks ≤ 6 * (S.log ++ [e]).length := by have := F.ticks; omega
  have k0 : (0 : Int) ≤ (S.kind : Int) := by omega
  have k3 : (S.kind : Int) ≤ 3 := by have := F.kin; omega
  unfold doE at h
  cases e with
  | add s z =>
    simp only [doB] at h
    split at h
    · rename_i hlt
      simp only [Option.map_some, Option.some.injEq] at h
      subst h
      have FI := foldIs k0 k3 z
      refine ⟨F.s1, F.s5, F.st, F.lit, by simp [F.len], by simp; omega, F.kin, F.gr, fun x hx => ?_, fun b hb' => ?_, ht, hlog⟩
      · rcases List.mem_append.1 hx with h | h
        · exact F.shs x h
        · rw [List.mem_singleton] at h; rw [h]; exact he.1
      · rcases List.mem_append.1 hb' with h | h
        · exact hb b h
        · rw [List.mem_singleton] at h
          subst h
          have e2 : (Ev.add s z).big = 1 := rfl
          refine ⟨show 1 ≤ cost (S.log ++ [Ev.add s z]) by omega, lim_zero _, (lim_act _ he.2).mono ?_, FI.wed⟩
          unfold aB; omega
    · simp at h
  | take n =>
    simp only [doB] at h
    split at h
    · rename_i hlt
      simp only [Option.map_some, Option.some.injEq] at h
      subst h
      refine ⟨F.s1, F.s5, F.st, F.lit, by simp [F.len], by simp; have := F.few; omega, F.kin, F.gr, fun x hx => ?_, fun b hb' => ?_, ht, hlog⟩
      · rcases List.mem_append.1 hx with h | h
        · exact F.shs x (List.mem_of_mem_take h)
        · exact F.shs x (List.mem_of_mem_drop h)
      · rcases List.mem_append.1 hb' with h | h
        · exact hb b (List.mem_of_mem_take h)
        · exact hb b (List.mem_of_mem_drop h)
    · simp at h
  | light c =>
    simp only [doB, Option.map_some, Option.some.injEq] at h
    subst h
    exact ⟨F.s1, F.s5, F.st, he, F.len, F.few, F.kin, F.gr, F.shs, hb, ht, hlog⟩
  | mirrors k =>
    simp only [doB, Option.map_some, Option.some.injEq] at h
    subst h
    refine ⟨F.s1, F.s5, F.st, F.lit, by simp [F.len], by simpa using F.few, he, F.gr, F.shs, fun b hb' => ?_, ht, hlog⟩
    obtain ⟨c, hc', rfl⟩ := List.mem_map.1 hb'
    obtain ⟨h1, h2, h3, _⟩ := hb c hc'
    have he' : k ≤ 3 := he
    have FI := foldIs (kind := k) (by omega) (by omega) c.1
    exact ⟨h1, lim_act _ h2, lim_act _ h3, FI.wed⟩
  | gravity z =>
    simp only [doB, Option.map_some, Option.some.injEq] at h
    subst h
    exact ⟨F.s1, F.s5, F.st, F.lit, F.len, F.few, F.kin, he, F.shs, hb, ht, hlog⟩
  | push n z =>
    simp only [doB] at h
    split at h
    · rename_i hlt
      simp only [Option.map_some, Option.some.injEq] at h
      subst h
      refine ⟨F.s1, F.s5, F.st, F.lit, by simp [F.len], by simpa using F.few, F.kin, F.gr, F.shs, fun b hb' => ?_, ht, hlog⟩
      rcases List.mem_or_eq_of_mem_set hb' with h | h
      · exact hb b h
      · subst h
        obtain ⟨h1, h2, h3, h4⟩ := F.bds _ (getD_mem hlt)
        have e2 : (Ev.push n z).big = 1 := rfl
        have hv : vB (cost S.log) + 5 ≤ vB (cost (S.log ++ [Ev.push n z])) := by rw [e1, e2]; unfold vB; omega
        have hv2 : vB (cost S.log) ≤ 54 := by unfold vB; omega
        have hm : cost S.log ≤ cost (S.log ++ [Ev.push n z]) := by omega
        exact ⟨show 1 ≤ cost (S.log ++ [Ev.push n z]) by omega, ((lim_sum h2 he.2 (by omega)).2).mono hv, h3.mono (aB_mono hm), h4⟩
    · simp at h
  | wait n =>
    simp only [doB, Option.map_some, Option.some.injEq] at h
    subst h
    have he' : 1 ≤ n ∧ n ≤ 6 := he
    have e2 : (Ev.wait n).big = 1 := rfl
    refine ⟨F.s1, F.s5, F.st, F.lit, by simp [F.len, runL_len], by simpa [runL_len] using F.few, F.kin, F.gr, F.shs, fun b hb' => ?_, ?_, hlog⟩
    · have hne : S.bds ≠ [] := fun e0 => by
        have h1 := runL_len S.kind S.g (keptW 0) S.bds n
        have h2 : (runL S.kind S.g (keptW 0) n S.bds).length = 0 := by rw [h1, e0]; rfl
        have h3 : runL S.kind S.g (keptW 0) n S.bds = [] := List.eq_nil_of_length_eq_zero h2
        have hb2 : b ∈ runL S.kind S.g (keptW 0) n S.bds := hb'
        rw [h3] at hb2
        simp at hb2
      obtain ⟨c0, hc0⟩ := List.exists_mem_of_ne_nil _ hne
      have hn1 := (F.bds c0 hc0).1
      have hst := aB_step hn1
      have hpm := pB_mono (vB (cost S.log)) he'.2
      have htop := aB_top (n := cost S.log + 1) (by omega)
      obtain ⟨h1, h2, h3⟩ := run_far k0 k3 keep0 F.gr (fun b hb => (F.bds b hb).2) n (by omega) b hb'
      have ec : cost (S.log ++ [Ev.wait n]) = cost S.log + 1 := by rw [e1, e2]
      have hv : vB (cost S.log) + n ≤ vB (cost (S.log ++ [Ev.wait n])) := by rw [ec]; unfold vB; omega
      have ha : aB (cost S.log) + pB (vB (cost S.log)) n ≤ aB (cost (S.log ++ [Ev.wait n])) := by rw [ec]; omega
      exact ⟨show 1 ≤ cost (S.log ++ [Ev.wait n]) by omega, h1.mono hv, h2.mono ha, h3⟩
    · have h1 := F.ticks
      have h2 : S.ticks + n ≤ 6 * (S.log ++ [Ev.wait n]).length := by omega
      exact h2
theorem do_log {S T : Shw} {e : Ev} (h : doE S e = some T) : T.log = S.log ++ [e] ∧ T.size = S.size ∧ T.step = S.step := by
  unfold doE at h
  cases e <;> simp only [doB] at h
  all_goals (first | (split at h; (· simp only [Option.map_some, Option.some.injEq] at h; subst h; exact ⟨rfl, rfl, rfl⟩); (· simp at h)) | (simp only [Option.map_some, Option.some.injEq] at h; subst h; exact ⟨rfl, rfl, rfl⟩))
theorem runE_append (l : List Ev) : ∀ (S : Shw) (m : List Ev), runE S (l ++ m) = (runE S l).bind fun T => runE T m := by
  induction l with
  | nil => intro S m; rfl
  | cons e l ih =>
    intro S m
    simp only [List.cons_append, runE]
    cases doE S e with
    | none => rfl
    | some T => exact ih T m
theorem runE_log {l : List Ev} : ∀ {S T : Shw}, runE S l = some T → T.log = S.log ++ l ∧ T.size = S.size ∧ T.step = S.step := by
  induction l with
  | nil => intro S T h; simp only [runE, Option.some.injEq] at h; subst h; simp
  | cons e l ih =>
    intro S T h
    simp only [runE] at h
    cases hd : doE S e with
    | none => rw [hd] at h; simp at h
    | some U =>
      rw [hd] at h
      obtain ⟨h1, h2, h3⟩ := ih h
      obtain ⟨g1, g2, g3⟩ := do_log hd
      exact ⟨by rw [h1, g1]; simp, h2.trans g2, h3.trans g3⟩
theorem fine_start {size step : Nat} (h1 : 1 ≤ size) (h5 : size ≤ 5) (hs : ∃ i, i < 5 ∧ step = stepB i) : Fine (start size step) :=
  ⟨h1, h5, hs, ⟨Nat.zero_le _, Nat.zero_le _, Nat.zero_le _⟩, rfl, Nat.zero_le _, Nat.zero_le _, lim_zero 1, fun s h => absurd h (by simp [start]), fun s h => absurd h (by simp [start]), Nat.zero_le _, fun s h => absurd h (by simp [start])⟩
structure Told (S : Shw) : Prop where
  fine : Fine S
  came : runE (start S.size S.step) S.log = some S
theorem told_do {S T : Shw} {e : Ev} (H : Told S) (he : e.Ok) (h : doE S e = some T) (hc : cost (S.log ++ [e]) ≤ 10) : Told T := by
  obtain ⟨g1, g2, g3⟩ := do_log h
  refine ⟨fine_do H.fine he h hc, ?_⟩
  rw [g1, g2, g3, runE_append, H.came]
  simp only [Option.bind_some, runE, h]
def stAt (S : Shw) (l : List Ev) (j : Nat) : Shw := (runE S (l.take j)).getD default
theorem stAt_run {S T : Shw} {l : List Ev} (h : runE S l = some T) (j : Nat) : runE S (l.take j) = some (stAt S l j) := by
  rw [← List.take_append_drop j l, runE_append] at h
  unfold stAt
  cases hr : runE S (l.take j) with
  | none => rw [hr] at h; simp at h
  | some U => rfl
theorem stAt_all {S T : Shw} {l : List Ev} (h : runE S l = some T) : stAt S l l.length = T := by
  unfold stAt; rw [List.take_length, h]; rfl
end Go.Proofs.YtfdgijmmgllmgaaGreat
namespace Go.Proofs.YtfdgijmmgllmgaaGreat
open Go.ChangeShapes Go.WideShapes Go.ChangeAt Go.RowKit Go.Joins
set_option linter.unusedSimpArgs false
set_option linter.unusedVariables false
set_option maxRecDepth 100000
attribute [local go_sem] store_f
open Ieee Go.Lib
attribute [local go_sem] store_c
def sixB (m k : Nat) : Bool := match fineB m k with
  | some r => match F32.div r 1098907648 with
    | some q => decide (q < 4294967296) && decide (q % 2147483648 ≤ 1109393408) && (decide (q % 2147483648 ≠ 0) || decide (q = 0))
    | none => false
  | none => false
set_option maxRecDepth 1000000
theorem six_0 : chkTo (fun m => chkTo (sixB (0 + m)) 6) 100 = true := by decide +kernel
theorem six_1 : chkTo (fun m => chkTo (sixB (100 + m)) 6) 100 = true := by decide +kernel
theorem six_2 : chkTo (fun m => chkTo (sixB (200 + m)) 6) 100 = true := by decide +kernel
theorem six_3 : chkTo (fun m => chkTo (sixB (300 + m)) 6) 100 = true := by decide +kernel
theorem six_4 : chkTo (fun m => chkTo (sixB (400 + m)) 6) 100 = true := by decide +kernel
theorem six_5 : chkTo (fun m => chkTo (sixB (500 + m)) 6) 100 = true := by decide +kernel
theorem six_6 : chkTo (fun m => chkTo (sixB (600 + m)) 6) 100 = true := by decide +kernel
theorem six_7 : chkTo (fun m => chkTo (sixB (700 + m)) 6) 100 = true := by decide +kernel
theorem six_8 : chkTo (fun m => chkTo (sixB (800 + m)) 6) 100 = true := by decide +kernel
theorem six_9 : chkTo (fun m => chkTo (sixB (900 + m)) 6) 100 = true := by decide +kernel
theorem six_10 : chkTo (fun m => chkTo (sixB (1000 + m)) 6) 100 = true := by decide +kernel
theorem six_11 : chkTo (fun m => chkTo (sixB (1100 + m)) 6) 100 = true := by decide +kernel
theorem six_12 : chkTo (fun m => chkTo (sixB (1200 + m)) 6) 81 = true := by decide +kernel
structure Six (r x : Nat) : Prop where
  div : F32.div r 1098907648 = some x
  lt : x < 4294967296
  le : x % 2147483648 ≤ 1109393408
  z : x % 2147483648 = 0 → x = 0
theorem six_of (m k : Nat) (hm : m < 1281) (hk : k < 6) : ∃ r x, fineB m k = some r ∧ Six r x := by
  have key : sixB m k = true := by
    rcases (by omega : (0 ≤ m ∧ m < 100) ∨ (100 ≤ m ∧ m < 200) ∨ (200 ≤ m ∧ m < 300) ∨ (300 ≤ m ∧ m < 400) ∨ (400 ≤ m ∧ m < 500) ∨ (500 ≤ m ∧ m < 600) ∨ (600 ≤ m ∧ m < 700) ∨ (700 ≤ m ∧ m < 800) ∨ (800 ≤ m ∧ m < 900) ∨ (900 ≤ m ∧ m < 1000) ∨ (1000 ≤ m ∧ m < 1100) ∨ (1100 ≤ m ∧ m < 1200) ∨ (1200 ≤ m ∧ m < 1281)) with h | h | h | h | h | h | h | h | h | h | h | h | h
    · have h1 := chkTo_at (chkTo_at six_0 (m - 0) (by omega)) k hk
      rwa [show 0 + (m - 0) = m by omega] at h1
    · have h1 := chkTo_at (chkTo_at six_1 (m - 100) (by omega)) k hk
      rwa [show 100 + (m - 100) = m by omega] at h1
    · have h1 := chkTo_at (chkTo_at six_2 (m - 200) (by omega)) k hk
      rwa [show 200 + (m - 200) = m by omega] at h1
    · have h1 := chkTo_at (chkTo_at six_3 (m - 300) (by omega)) k hk
      rwa [show 300 + (m - 300) = m by omega] at h1
    · have h1 := chkTo_at (chkTo_at six_4 (m - 400) (by omega)) k hk
      rwa [show 400 + (m - 400) = m by omega] at h1
    · have h1 := chkTo_at (chkTo_at six_5 (m - 500) (by omega)) k hk
      rwa [show 500 + (m - 500) = m by omega] at h1
    · have h1 := chkTo_at (chkTo_at six_6 (m - 600) (by omega)) k hk
      rwa [show 600 + (m - 600) = m by omega] at h1
    · have h1 := chkTo_at (chkTo_at six_7 (m - 700) (by omega)) k hk
      rwa [show 700 + (m - 700) = m by omega] at h1
    · have h1 := chkTo_at (chkTo_at six_8 (m - 800) (by omega)) k hk
      rwa [show 800 + (m - 800) = m by omega] at h1
    · have h1 := chkTo_at (chkTo_at six_9 (m - 900) (by omega)) k hk
      rwa [show 900 + (m - 900) = m by omega] at h1
    · have h1 := chkTo_at (chkTo_at six_10 (m - 1000) (by omega)) k hk
      rwa [show 1000 + (m - 1000) = m by omega] at h1
    · have h1 := chkTo_at (chkTo_at six_11 (m - 1100) (by omega)) k hk
      rwa [show 1100 + (m - 1100) = m by omega] at h1
    · have h1 := chkTo_at (chkTo_at six_12 (m - 1200) (by omega)) k hk
      rwa [show 1200 + (m - 1200) = m by omega] at h1
  unfold sixB at key
  cases h : fineB m k with
  | none => rw [h] at key; cases key
  | some r =>
    rw [h] at key
    simp only [] at key
    cases h2 : F32.div r 1098907648 with
    | none => rw [h2] at key; cases key
    | some x =>
      rw [h2] at key
      simp only [Bool.and_eq_true, Bool.or_eq_true, decide_eq_true_eq] at key
      exact ⟨r, x, rfl, ⟨h2, key.1.1, key.1.2, fun h => by rcases key.2 with h3 | h3; exact absurd h h3; exact h3⟩⟩
structure SixtDrawn (B q : Nat) (w : World) (e : Ending) (w' : World) (r x : Nat) : Prop where
  ret : e = .returned (.float .f32 r)
  six : Six r x
  cur : Cur B w' q
  grown : w.grownBy w' (some q)
set_option maxHeartbeats 2000000 in
theorem l1Fine_q (B q : Nat) (w : World) (hcur : Cur B w q) :
    Calls Tryz.prog 62 #[.pointer (some ⟨q, 0, Option.none⟩)] w fun e w' => ∃ r x, SixtDrawn B q w e w' r x := by
  have HC : Hid (Cur B w q) := hcur
  have hq := hcur.lt
  clear hcur
  go_enter Tryz.func62, Tryz.ntmps62
  go_wp2_with fail
  refine (l1Some_s B q _ HC.out).mono ?_
  rintro e w1 ⟨m, ⟨rfl, hm, hc1, hg1⟩⟩
  have HC1 : Hid (Cur B w1 q) := hc1
  have HG1 : Hid (w.grownBy w1 (some q)) := hg1
  have hq1 := hc1.lt
  have HD : Hid (∀ k, k < 6 → ∃ r x, F32.div (floatOfInt .f32 ((m : Int) - 640)) (divsB k) = some r ∧ Six r x) := fun k hk => six_of m k hm hk
  clear hc1 hg1
  go_wp2_with fail
  refine (l1Below_s B q 6 _ HC1.out.alloc (by omega) (by omega)).mono ?_
  rintro e w2 ⟨x, rfl, hx0, hx1, hc2, hg2⟩
  have HC2 : Hid (Cur B w2 q) := hc2
  have HG2 : Hid (w.grownBy w2 (some q)) := grownBy_trans (grown_alloc HG1.out _) hg2
  have HB : Blk w2 w1.heap.size #[.float .f32 1065353216, .float .f32 1073741824, .float .f32 1098907648, .float .f32 1115684864, .float .f32 1120403456, .float .f32 1077936128] _ := Blk.grown (Blk.new _ _ _) hg2 (by omega)
  have hl := HB.lt
  have c0 := Blk.cellAt (i := 0) HB rfl
  have c1 := Blk.cellAt (i := 1) HB rfl
  have c2 := Blk.cellAt (i := 2) HB rfl
  have c3 := Blk.cellAt (i := 3) HB rfl
  have c4 := Blk.cellAt (i := 4) HB rfl
  have c5 := Blk.cellAt (i := 5) HB rfl
  simp at c0 c1 c2 c3 c4 c5
  clear hc2 hg2 HB
  generalize floatOfInt .f32 ((m : Int) - 640) = a at HD ⊢
  rcases (by omega : x = 0 ∨ x = 1 ∨ x = 2 ∨ x = 3 ∨ x = 4 ∨ x = 5) with rfl | rfl | rfl | rfl | rfl | rfl
  · obtain ⟨r, x, hr, ho⟩ := HD.out 0 (by omega)
    have hop := fun t w => run_float_arith (P := Tryz.prog) w .quo t .f32 a 1065353216 r hr
    have HO := Lib.hid ho
    clear hr ho
    go_wp2_with (simp only [hop])
    go_ret
    exact ⟨r, x, rfl, HO.out, HC2.out, HG2.out⟩
  · obtain ⟨r, x, hr, ho⟩ := HD.out 1 (by omega)
    have hop := fun t w => run_float_arith (P := Tryz.prog) w .quo t .f32 a 1073741824 r hr
    have HO := Lib.hid ho
    clear hr ho
    go_wp2_with (simp only [hop])
    go_ret
    exact ⟨r, x, rfl, HO.out, HC2.out, HG2.out⟩
  · obtain ⟨r, x, hr, ho⟩ := HD.out 2 (by omega)
    have hop := fun t w => run_float_arith (P := Tryz.prog) w .quo t .f32 a 1098907648 r hr
    have HO := Lib.hid ho
    clear hr ho
    go_wp2_with (simp only [hop])
    go_ret
    exact ⟨r, x, rfl, HO.out, HC2.out, HG2.out⟩
  · obtain ⟨r, x, hr, ho⟩ := HD.out 3 (by omega)
    have hop := fun t w => run_float_arith (P := Tryz.prog) w .quo t .f32 a 1115684864 r hr
    have HO := Lib.hid ho
    clear hr ho
    go_wp2_with (simp only [hop])
    go_ret
    exact ⟨r, x, rfl, HO.out, HC2.out, HG2.out⟩
  · obtain ⟨r, x, hr, ho⟩ := HD.out 4 (by omega)
    have hop := fun t w => run_float_arith (P := Tryz.prog) w .quo t .f32 a 1120403456 r hr
    have HO := Lib.hid ho
    clear hr ho
    go_wp2_with (simp only [hop])
    go_ret
    exact ⟨r, x, rfl, HO.out, HC2.out, HG2.out⟩
  · obtain ⟨r, x, hr, ho⟩ := HD.out 5 (by omega)
    have hop := fun t w => run_float_arith (P := Tryz.prog) w .quo t .f32 a 1077936128 r hr
    have HO := Lib.hid ho
    clear hr ho
    go_wp2_with (simp only [hop])
    go_ret
    exact ⟨r, x, rfl, HO.out, HC2.out, HG2.out⟩
theorem Six.pt {r x : Nat} (h : Six r x) : Pt x ∧ (valOf F32 x).natAbs ≤ magOf F32 1109393408 := pt_small (by omega) h.lt h.le h.z
theorem mag_40 : magOf F32 1109393408 = 40 * 2 ^ 149 := by decide +kernel
def sixP {r x r' y : Nat} (h : Six r x) (h' : Six r' y) : PtW := ⟨(x, y), h.pt.1, h'.pt.1⟩
theorem sixP_lim {r x r' y : Nat} (h : Six r x) (h' : Six r' y) : Lim 40 (sixP h h') := ⟨by rw [← mag_40]; exact h.pt.2, by rw [← mag_40]; exact h'.pt.2⟩
set_option maxHeartbeats 1000000 in
theorem some_4 (B q : Nat) (w : World) (hcur : Cur B w q) :
    Calls Tryz.prog 58 #[.pointer (some ⟨q, 0, Option.none⟩), .int .i64 (-4), .int .i64 4] w fun e w' => ∃ m, SmallM B q w e w' 9 4 m := by
  have HC : Hid (Cur B w q) := hcur
  clear hcur
  go_enter Tryz.func58, Tryz.ntmps58
  go_wp2_with fail
  refine (l1Below_s B q 9 _ HC.out (by omega) (by omega)).mono ?_
  rintro e w1 ⟨x, rfl, hx0, hx1, hc1, hg1⟩
  obtain ⟨n, rfl⟩ : ∃ n : Nat, x = n := ⟨x.toNat, by omega⟩
  have HC1 : Hid (Cur B w1 q) := hc1
  have HG1 : Hid (w.grownBy w1 (some q)) := hg1
  have hn : n < 9 := by omega
  clear hc1 hg1
  go_wp2
  go_ret
  exact ⟨n, by first | rfl | (simp; omega), hn, HC1.out, HG1.out⟩
theorem gr_16 : ∀ m : Nat, m < 9 → F32.div (floatOfInt .f32 ((m : Int) - 4)) 1098907648 = some (overB 1098907648 ((m : Int) - 4)) ∧ overB 1098907648 ((m : Int) - 4) < 4294967296 ∧ overB 1098907648 ((m : Int) - 4) % 2147483648 ≤ 1065353216 ∧ (overB 1098907648 ((m : Int) - 4) % 2147483648 = 0 → overB 1098907648 ((m : Int) - 4) = 0) := by decide +kernel
structure LittleDrawn (B q : Nat) (w : World) (e : Ending) (w' : World) (n : Nat) (m : Nat) : Prop where
  ret : e = .returned (.int .i64 m)
  one : 1 ≤ m
  le : m ≤ n
  cur : Cur B w' q
  grown : w.grownBy w' (some q)
set_option maxHeartbeats 1000000 in
theorem little_5 (B q : Nat) (w : World) (hcur : Cur B w q) :
    Calls Tryz.prog 58 #[.pointer (some ⟨q, 0, Option.none⟩), .int .i64 1, .int .i64 5] w fun e w' => ∃ m, LittleDrawn B q w e w' 5 m := by
  have HC : Hid (Cur B w q) := hcur
  clear hcur
  go_enter Tryz.func58, Tryz.ntmps58
  go_wp2_with fail
  refine (l1Below_s B q 5 _ HC.out (by omega) (by omega)).mono ?_
  rintro e w1 ⟨x, rfl, hx0, hx1, hc1, hg1⟩
  obtain ⟨n, rfl⟩ : ∃ n : Nat, x = n := ⟨x.toNat, by omega⟩
  have HC1 : Hid (Cur B w1 q) := hc1
  have HG1 : Hid (w.grownBy w1 (some q)) := hg1
  have hn : n < 5 := by omega
  clear hc1 hg1
  go_wp2
  go_ret
  exact ⟨n + 1, by first | rfl | (simp; omega), by omega, by omega, HC1.out, HG1.out⟩
set_option maxHeartbeats 1000000 in
theorem little_6 (B q : Nat) (w : World) (hcur : Cur B w q) :
    Calls Tryz.prog 58 #[.pointer (some ⟨q, 0, Option.none⟩), .int .i64 1, .int .i64 6] w fun e w' => ∃ m, LittleDrawn B q w e w' 6 m := by
  have HC : Hid (Cur B w q) := hcur
  clear hcur
  go_enter Tryz.func58, Tryz.ntmps58
  go_wp2_with fail
  refine (l1Below_s B q 6 _ HC.out (by omega) (by omega)).mono ?_
  rintro e w1 ⟨x, rfl, hx0, hx1, hc1, hg1⟩
  obtain ⟨n, rfl⟩ : ∃ n : Nat, x = n := ⟨x.toNat, by omega⟩
  have HC1 : Hid (Cur B w1 q) := hc1
  have HG1 : Hid (w.grownBy w1 (some q)) := hg1
  have hn : n < 6 := by omega
  clear hc1 hg1
  go_wp2
  go_ret
  exact ⟨n + 1, by first | rfl | (simp; omega), by omega, by omega, HC1.out, HG1.out⟩
end Go.Proofs.YtfdgijmmgllmgaaGreat
namespace Go.Proofs.YtfdgijmmgllmgaaGreat
open Go.ChangeShapes Go.WideShapes Go.ChangeAt Go.RowKit Go.Joins
set_option linter.unusedSimpArgs false
set_option linter.unusedVariables false
set_option maxRecDepth 100000
attribute [local go_sem] store_f
open Ieee
def minG (o : Ordering) (x y : Nat) : Nat := match o with | .lt => x | .gt => y | .eq => if (FloatKind.f32.decode x).neg then x else y
def maxG (o : Ordering) (x y : Nat) : Nat := match o with | .lt => y | .gt => x | .eq => if (FloatKind.f32.decode x).neg then y else x
theorem run_min_g (P : Program) (w : World) (ts : Array TypeId) (t : TypeId) (x y : Nat) (o : Ordering) (h : FloatKind.f32.format.order x y = some o) : (Builtin.min_ ts t #[.float .f32 x, .float .f32 y]).run P w = .ok (.float .f32 (minG o x y)) w := by
  cases o <;> simp [Builtin.min_, Builtin.min2, h, minG]
theorem run_max_g (P : Program) (w : World) (ts : Array TypeId) (t : TypeId) (x y : Nat) (o : Ordering) (h : FloatKind.f32.format.order x y = some o) : (Builtin.max_ ts t #[.float .f32 x, .float .f32 y]).run P w = .ok (.float .f32 (maxG o x y)) w := by
  cases o <;> simp [Builtin.max_, Builtin.max2, h, maxG]
theorem cmp_cases (a b : Int) : (compare a b = .lt ∧ a < b) ∨ (compare a b = .eq ∧ a = b) ∨ (compare a b = .gt ∧ b < a) := by
  rcases Int.lt_trichotomy a b with h | h | h
  · exact .inl ⟨by simp [compare, compareOfLessAndEq, h], h⟩
  · exact .inr (.inl ⟨by simp [h], h⟩)
  · exact .inr (.inr ⟨by
      have h1 : ¬ a < b := by omega
      have h2 : ¬ a = b := by omega
      simp [compare, compareOfLessAndEq, h1, h2], h⟩)
theorem min_val {x y : Nat} (hx : Fin32 x) (hy : Fin32 y) : ∃ m, (∀ (P : Program) (w : World) ts t, (Builtin.min_ ts t #[.float .f32 x, .float .f32 y]).run P w = .ok (.float .f32 m) w) ∧ Fin32 m ∧ m < max (x + 1) (y + 1) ∧ valOf F32 m ≤ valOf F32 x ∧ valOf F32 m ≤ valOf F32 y ∧ (valOf F32 m = valOf F32 x ∨ valOf F32 m = valOf F32 y) := by
  have h := order_fin F32 hx hy
  refine ⟨minG (compare (valOf F32 x) (valOf F32 y)) x y, fun P w ts t => run_min_g P w ts t x y _ h, ?_⟩
  rcases cmp_cases (valOf F32 x) (valOf F32 y) with ⟨e, h1⟩ | ⟨e, h1⟩ | ⟨e, h1⟩
  · rw [e]; exact ⟨hx, by simp [minG]; omega, by simp only [minG]; omega, by simp only [minG]; omega, .inl rfl⟩
  · rw [e]
    simp only [minG]
    split
    · exact ⟨hx, by omega, by omega, by omega, .inl rfl⟩
    · exact ⟨hy, by omega, by omega, by omega, .inr rfl⟩
  · rw [e]; exact ⟨hy, by simp [minG]; omega, by simp only [minG]; omega, by simp only [minG]; omega, .inr rfl⟩
theorem max_val {x y : Nat} (hx : Fin32 x) (hy : Fin32 y) : ∃ m, (∀ (P : Program) (w : World) ts t, (Builtin.max_ ts t #[.float .f32 x, .float .f32 y]).run P w = .ok (.float .f32 m) w) ∧ Fin32 m ∧ m < max (x + 1) (y + 1) ∧ valOf F32 x ≤ valOf F32 m ∧ valOf F32 y ≤ valOf F32 m ∧ (valOf F32 m = valOf F32 x ∨ valOf F32 m = valOf F32 y) := by
  have h := order_fin F32 hx hy
  refine ⟨maxG (compare (valOf F32 x) (valOf F32 y)) x y, fun P w ts t => run_max_g P w ts t x y _ h, ?_⟩
  rcases cmp_cases (valOf F32 x) (valOf F32 y) with ⟨e, h1⟩ | ⟨e, h1⟩ | ⟨e, h1⟩
  · rw [e]; exact ⟨hy, by simp [maxG]; omega, by simp only [maxG]; omega, by simp only [maxG]; omega, .inr rfl⟩
  · rw [e]
    simp only [maxG]
    split
    · exact ⟨hy, by omega, by omega, by omega, .inr rfl⟩
    · exact ⟨hx, by omega, by omega, by omega, .inl rfl⟩
  · rw [e]; exact ⟨hx, by simp [maxG]; omega, by simp only [maxG]; omega, by simp only [maxG]; omega, .inl rfl⟩
structure Row3 (w : World) (g x y z : Nat) : Prop where
  c0 : w.cell? ⟨g, 0, Option.none⟩ = some (.float .f32 x)
  c1 : w.cell? ⟨g, 1, Option.none⟩ = some (.float .f32 y)
  c2 : w.cell? ⟨g, 2, Option.none⟩ = some (.float .f32 z)
structure Min2 (x y m : Nat) : Prop where
  run : ∀ (P : Program) (w : World) ts t, (Builtin.min_ ts t #[.float .f32 x, .float .f32 y]).run P w = .ok (.float .f32 m) w
structure Max2 (x y m : Nat) : Prop where
  run : ∀ (P : Program) (w : World) ts t, (Builtin.max_ ts t #[.float .f32 x, .float .f32 y]).run P w = .ok (.float .f32 m) w
set_option maxHeartbeats 1000000 in
theorem slMin {x y z m n : Nat} (M : Min2 x y m) (N : Min2 m z n) (w : World) (g cap : Nat) (R : Row3 w g x y z) :
    Calls Tryz.prog 142 #[.slice (some ⟨g, 0, Option.none⟩) 3 cap] w fun e w' => e = .returned (.float .f32 n) ∧ w' = w := by
  obtain ⟨c0, c1, c2⟩ := R
  have q1 := M.run Tryz.prog
  have q2 := N.run Tryz.prog
  go_enter Tryz.func142, Tryz.ntmps142
  go_wp2_with fail
  go_loop [3, 4] (fun v i => (v = .float .f32 x ∧ i = .int .i64 1) ∨ (v = .float .f32 m ∧ i = .int .i64 2) ∨ (v = .float .f32 n ∧ i = .int .i64 3)) (fun _ i => 3 - (intOf i).toNat)
  case atStart => exact .inl ⟨rfl, rfl⟩
  case round =>
    rcases hrel with ⟨rfl, rfl⟩ | ⟨rfl, rfl⟩ | ⟨rfl, rfl⟩
    · go_wp2_with (simp only [q1])
      go_round
      case rel => simp
      case measure => simp [intOf]
    · go_wp2_with (simp only [q2])
      go_round
      case rel => simp
      case measure => simp [intOf]
    · go_wp2
      go_ret
      exact ⟨rfl, rfl⟩
set_option maxHeartbeats 1000000 in
theorem slMax {x y z m n : Nat} (M : Max2 x y m) (N : Max2 m z n) (w : World) (g cap : Nat) (R : Row3 w g x y z) :
    Calls Tryz.prog 143 #[.slice (some ⟨g, 0, Option.none⟩) 3 cap] w fun e w' => e = .returned (.float .f32 n) ∧ w' = w := by
  obtain ⟨c0, c1, c2⟩ := R
  have q1 := M.run Tryz.prog
  have q2 := N.run Tryz.prog
  go_enter Tryz.func143, Tryz.ntmps143
  go_wp2_with fail
  go_loop [3, 4] (fun v i => (v = .float .f32 x ∧ i = .int .i64 1) ∨ (v = .float .f32 m ∧ i = .int .i64 2) ∨ (v = .float .f32 n ∧ i = .int .i64 3)) (fun _ i => 3 - (intOf i).toNat)
  case atStart => exact .inl ⟨rfl, rfl⟩
  case round =>
    rcases hrel with ⟨rfl, rfl⟩ | ⟨rfl, rfl⟩ | ⟨rfl, rfl⟩
    · go_wp2_with (simp only [q1])
      go_round
      case rel => simp
      case measure => simp [intOf]
    · go_wp2_with (simp only [q2])
      go_round
      case rel => simp
      case measure => simp [intOf]
    · go_wp2
      go_ret
      exact ⟨rfl, rfl⟩
end Go.Proofs.YtfdgijmmgllmgaaGreat
