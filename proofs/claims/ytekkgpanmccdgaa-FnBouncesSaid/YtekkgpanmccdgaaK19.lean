/-
  Texts of this proof, joined: Cop, Cdr, Tp, Tq, Tr.
-/
import Derived.Test.YtekkgpanmccdgaaK09
import Derived.Test.YtekkgpanmccdgaaK18
import Derived.Deep.RegionLaw
import Derived.Deep.AppendLies
import Derived.Deep.DeepCutAuto
import Derived.Test.YtekkgpanmccdgaaK14
import Derived.Deep.QuietTactic
import Derived.BigQuiet
/-
  Sums, differences and products of parts of colours as whole numbers.
-/
namespace Go.Proofs.Ytekkgpanmccdgaa
open Ieee

theorem cutAt_mono {n m g : Nat} (h : n ≤ m) : cutAt n g ≤ cutAt m g := by
  have hq : n / g ≤ m / g := Nat.div_le_div_right h
  rcases Nat.eq_or_lt_of_le hq with e | l
  · unfold cutAt
    have h1 := Nat.div_add_mod n g
    have h2 := Nat.div_add_mod m g
    rw [e] at h1 ⊢
    have hr : n % g ≤ m % g := by omega
    have : (decide (g < 2 * (n % g)) || (g == 2 * (n % g) && m / g % 2 == 1)).toNat ≤ (decide (g < 2 * (m % g)) || (g == 2 * (m % g) && m / g % 2 == 1)).toNat := by
      by_cases c1 : g < 2 * (m % g)
      · simp only [c1, decide_true, Bool.true_or]
        exact Bool.toNat_le _
      · have c2 : ¬ g < 2 * (n % g) := by omega
        by_cases c3 : g = 2 * (n % g)
        · have c4 : g = 2 * (m % g) := by omega
          have e1 : (g == 2 * (n % g)) = true := by simpa using c3
          have e2 : (g == 2 * (m % g)) = true := by simpa using c4
          rw [e1, e2, decide_eq_false c1, decide_eq_false c2]
          exact Nat.le_refl _
        · have e1 : (g == 2 * (n % g)) = false := by simpa using c3
          rw [e1, decide_eq_false c2]
          simp
    omega
  · have h1 : cutAt n g ≤ n / g + 1 := by unfold cutAt; have := Bool.toNat_le (decide (g < 2 * (n % g)) || (g == 2 * (n % g) && n / g % 2 == 1)); omega
    have h2 : m / g ≤ cutAt m g := by unfold cutAt; omega
    omega

theorem log2_mono {n m : Nat} (h : n ≤ m) : n.log2 ≤ m.log2 := by
  rcases Nat.eq_zero_or_pos n with e | e
  · subst e; simp
  · exact (Nat.le_log2 (by omega)).2 (Nat.le_trans ((Nat.le_log2 (by omega)).1 (Nat.le_refl _)) h)

theorem rn_mono (f : Format) {N M Q : Nat} (h : N ≤ M) : rn f N Q ≤ rn f M Q := by
  have hk := rn_kept f N Q
  have hm := rn_kept f M Q
  have hl := log2_mono h
  unfold rn
  generalize hu : N.log2 - (f.fractionBits + Q) = u at hk ⊢
  generalize hv : M.log2 - (f.fractionBits + Q) = v at hm ⊢
  have huv : u ≤ v := by omega
  rcases Nat.eq_or_lt_of_le huv with e | l
  · subst e
    exact Nat.add_le_add_left (cutAt_mono h) _
  · have h1 : (u + 1) * f.binade ≤ v * f.binade := Nat.mul_le_mul_right _ l
    rw [Nat.add_mul] at h1
    omega

/-- The magnitude of a part, in units of the least place. -/
def pm (x : Nat) : Nat := magOf F32 (rungOf F32 x)

theorem mag_one : magOf F32 1065353216 = 2 ^ 149 := by decide +kernel

theorem Part.rung {x : Nat} (h : Part x) : rungOf F32 x ≤ 1065353216 := by
  rcases h with h | h
  · rw [rung_of_lt (by omega)]; exact h
  · subst h; unfold rungOf; rw [F32_sw]; decide

theorem Part.pm_le {x : Nat} (h : Part x) : pm x ≤ 2 ^ 149 := by
  rw [← mag_one]; exact magOf_le F32 h.rung

theorem Part.neg {x : Nat} (h : Part x) : negOf F32 x = true → rungOf F32 x = 0 := by
  intro hn
  rcases h with h | h
  · rw [neg_of_lt (by omega)] at hn; cases hn
  · subst h; unfold rungOf; rw [F32_sw]

theorem Part.val {x : Nat} (h : Part x) : valOf F32 x = (pm x : Int) := by
  unfold valOf pm
  cases hn : negOf F32 x
  · rfl
  · rw [h.neg hn, magOf_zero]; rfl

theorem Part.order {a b : Nat} (ha : Part a) (hb : Part b) : F32.order a b = some (compare (pm a : Int) (pm b : Int)) := by
  rw [order_fin F32 ha.fin hb.fin, ha.val, hb.val]

theorem pm_word {r : Nat} (h : r < 2147483648) : pm r = magOf F32 r := by unfold pm; rw [rung_of_lt h]

theorem part_of_le {x : Nat} (h : x ≤ 1065353216) : Part x := Or.inl h
theorem part_one : Part 1065353216 := Or.inl (Nat.le_refl _)
theorem part_zero : Part 0 := Or.inl (by omega)
theorem pm_one : pm 1065353216 = 2 ^ 149 := by rw [pm_word (by omega), mag_one]
theorem pm_zero : pm 0 = 0 := by rw [pm_word (by omega), magOf_zero]

/-- What an operation gives, set to +0 where it is 0. -/
def opB (o : Option Nat) : Nat := match o with | some r => cleanB r | none => 0
def mulB (a b : Nat) : Nat := opB (F32.mul a b)
def subB (a b : Nat) : Nat := opB (F32.sub a b)
def addB (a b : Nat) : Nat := opB (F32.add a b)

theorem clean_word (s : Bool) {r : Nat} (h : r < 2139095040) : cleanB (F32.word s r) = if r = 0 then 0 else F32.word s r := by
  rw [clean_eq (fin_word s h), rungOf_word F32 s (by rw [F32_sw]; omega)]

theorem mul_part {a b : Nat} (ha : Part a) (hb : Part b) :
    ∃ r, F32.mul a b = some r ∧ Fin32 r ∧ cleanB r = rn F32 (pm a * pm b) 149 ∧ rn F32 (pm a * pm b) 149 ≤ rungOf F32 a ∧ rn F32 (pm a * pm b) 149 ≤ rungOf F32 b := by
  have e := mul_fin F32 (q := 149) F32_lp ha.fin hb.fin
  have hN : pm a * pm b ≤ magOf F32 (rungOf F32 a) * 2 ^ 149 := Nat.mul_le_mul_left _ hb.pm_le
  have hN2 : pm a * pm b ≤ magOf F32 (rungOf F32 b) * 2 ^ 149 := by rw [Nat.mul_comm]; exact Nat.mul_le_mul_left _ ha.pm_le
  have hra := ha.rung
  obtain ⟨e1, l1⟩ := roundMul_eq 149 (negOf F32 a ^^ negOf F32 b) (pm a * pm b) (R := rungOf F32 a) (by omega) hN
  have l2 : rn F32 (pm a * pm b) 149 ≤ rungOf F32 b := rn_le F32 hN2
  refine ⟨_, e, ?_, ?_, l1, l2⟩
  · show Fin32 (roundMul F32 149 (negOf F32 a ^^ negOf F32 b) (pm a * pm b))
    rw [e1]; exact fin_word _ (by omega)
  · show cleanB (roundMul F32 149 (negOf F32 a ^^ negOf F32 b) (pm a * pm b)) = _
    rw [e1, clean_word _ (by omega)]
    by_cases h0 : rn F32 (pm a * pm b) 149 = 0
    · rw [if_pos h0, h0]
    · rw [if_neg h0]
      cases hs : (negOf F32 a ^^ negOf F32 b)
      · rfl
      · exfalso; apply h0
        have : pm a * pm b = 0 := by
          unfold pm
          cases na : negOf F32 a
          · cases nb : negOf F32 b
            · rw [na, nb] at hs; cases hs
            · rw [hb.neg nb, magOf_zero, Nat.mul_zero]
          · rw [ha.neg na, magOf_zero, Nat.zero_mul]
        rw [this, rn_zero]

theorem mulB_part {a b : Nat} (ha : Part a) (hb : Part b) : mulB a b = rn F32 (pm a * pm b) 149 ∧ mulB a b ≤ rungOf F32 a ∧ mulB a b ≤ rungOf F32 b := by
  obtain ⟨r, e, _, e1, l1, l2⟩ := mul_part ha hb
  unfold mulB; rw [e]
  show cleanB r = _ ∧ cleanB r ≤ _ ∧ cleanB r ≤ _
  rw [e1]; exact ⟨rfl, l1, l2⟩

theorem Part.mul {a b : Nat} (ha : Part a) (hb : Part b) : Part (mulB a b) := part_of_le (by have := (mulB_part ha hb).2.1; have := ha.rung; omega)

/-- A difference, whichever is greater. -/
theorem sub_part {a b : Nat} (ha : Part a) (hb : Part b) : ∃ r, F32.sub a b = some r ∧ Fin32 r ∧
    (pm b ≤ pm a → cleanB r = rn F32 (pm a - pm b) 0 ∧ rn F32 (pm a - pm b) 0 ≤ rungOf F32 a) := by
  have e := sub_fin F32 ha.fin hb.fin
  rw [ha.val, hb.val] at e
  have h1 := ha.pm_le
  have h2 := hb.pm_le
  have hra := ha.rung
  obtain ⟨e1, l1⟩ := roundTo_eq (negOf F32 a && !negOf F32 b) ((pm a : Int) - (pm b : Int)) (R := 1065353216) (by omega) (by rw [mag_one]; omega)
  rw [e1] at e
  refine ⟨_, e, fin_word _ (by omega), fun hle => ?_⟩
  have hn : ((pm a : Int) - (pm b : Int)).natAbs = pm a - pm b := by omega
  rw [hn]
  have l2 : rn F32 (pm a - pm b) 0 ≤ rungOf F32 a := rn_le F32 (by rw [Nat.pow_zero, Nat.mul_one]; exact Nat.sub_le _ _)
  refine ⟨?_, l2⟩
  rw [clean_word _ (by omega)]
  by_cases h0 : rn F32 (pm a - pm b) 0 = 0
  · rw [if_pos h0, h0]
  · rw [if_neg h0]
    have hT : ¬ ((pm a : Int) - (pm b : Int)) = 0 := by
      intro h; apply h0
      have : pm a - pm b = 0 := by omega
      rw [this, rn_zero]
    have hT2 : ¬ ((pm a : Int) - (pm b : Int)) < 0 := by omega
    rw [if_neg hT, decide_eq_false hT2]; rfl

theorem subB_part {a b : Nat} (ha : Part a) (hb : Part b) (h : pm b ≤ pm a) : subB a b = rn F32 (pm a - pm b) 0 ∧ subB a b ≤ rungOf F32 a := by
  obtain ⟨r, e, _, e1⟩ := sub_part ha hb
  unfold subB; rw [e]
  show cleanB r = _ ∧ cleanB r ≤ _
  rw [(e1 h).1]; exact ⟨rfl, (e1 h).2⟩

theorem Part.sub {a b : Nat} (ha : Part a) (hb : Part b) (h : pm b ≤ pm a) : Part (subB a b) := part_of_le (by have := (subB_part ha hb h).2; have := ha.rung; omega)

theorem mag_two : magOf F32 1073741824 = 2 ^ 150 := by decide +kernel

theorem add_part {a b : Nat} (ha : Part a) (hb : Part b) : ∃ r, F32.add a b = some r ∧ Fin32 r ∧ cleanB r = rn F32 (pm a + pm b) 0 ∧ rn F32 (pm a + pm b) 0 ≤ 1073741824 := by
  have e := add_fin F32 ha.fin hb.fin
  rw [ha.val, hb.val] at e
  have h1 := ha.pm_le
  have h2 := hb.pm_le
  have hn : ((pm a : Int) + (pm b : Int)).natAbs = pm a + pm b := by omega
  obtain ⟨e1, l1⟩ := roundTo_eq (negOf F32 a && negOf F32 b) ((pm a : Int) + (pm b : Int)) (R := 1073741824) (by omega) (by rw [mag_two, hn]; omega)
  rw [e1] at e
  rw [hn] at e l1
  refine ⟨_, e, fin_word _ (by omega), ?_, l1⟩
  rw [clean_word _ (by omega)]
  by_cases h0 : rn F32 (pm a + pm b) 0 = 0
  · rw [if_pos h0, h0]
  · rw [if_neg h0]
    have hT : ¬ ((pm a : Int) + (pm b : Int)) = 0 := by
      intro h; apply h0
      have : pm a + pm b = 0 := by omega
      rw [this, rn_zero]
    have hT2 : ¬ ((pm a : Int) + (pm b : Int)) < 0 := by omega
    rw [if_neg hT, decide_eq_false hT2]; rfl

theorem addB_part {a b : Nat} (ha : Part a) (hb : Part b) : addB a b = rn F32 (pm a + pm b) 0 ∧ addB a b ≤ 1073741824 := by
  obtain ⟨r, e, _, e1, l1⟩ := add_part ha hb
  unfold addB; rw [e]
  show cleanB r = _ ∧ cleanB r ≤ _
  rw [e1]; exact ⟨rfl, l1⟩
end Go.Proofs.Ytekkgpanmccdgaa

/-
  Draws of parts and of colours.
-/
namespace Go.Proofs.Ytekkgpanmccdgaa
open Go.ChangeShapes Go.WideShapes Go.ChangeAt Go.RowKit Go.Joins
set_option linter.unusedSimpArgs false
set_option linter.unusedVariables false
set_option maxRecDepth 100000
attribute [local go_sem] store_f
open Ieee

structure PartDrawn (B q : Nat) (w : World) (e : Ending) (w' : World) (x : Nat) : Prop where
  ret : e = .returned (.float .f32 x)
  le : x ≤ 1065353216
  cur : Cur B w' q
  grown : w.grownBy w' (some q)

/-- n hundredths, as bits. -/
def centB (n : Nat) : Nat := match FloatKind.f32.format.div (floatOfInt .f32 n) 1120403456 with | some r => r | none => 0
theorem cents : ∀ n : Nat, n < 101 → FloatKind.f32.format.div (floatOfInt .f32 n) 1120403456 = some (centB n) ∧ centB n ≤ 1065353216 := by decide +kernel

set_option maxHeartbeats 1000000 in
theorem l2One_s (B q : Nat) (w : World) (hcur : Cur B w q) :
    Calls Try.prog 98 #[.pointer (some ⟨q, 0, Option.none⟩)] w fun e w' => ∃ x : Nat, PartDrawn B q w e w' x := by
  have HC : Hid (Cur B w q) := hcur
  clear hcur
  go_enter Try.func98, Try.ntmps98
  go_wp2_with fail
  refine (l1Once_s B q 3 _ HC.out (by omega) (by omega)).mono ?_
  rintro e w1 ⟨t, ⟨rfl, hc1, hg1⟩⟩
  have HC1 : Hid (Cur B w1 q) := hc1
  have HG1 : Hid (w.grownBy w1 (some q)) := hg1
  have s1 := hg1.size
  clear hc1 hg1
  cases t
  · go_wp2_with fail
    refine (l1Below_s B q 101 _ HC1.out (by omega) (by omega)).mono ?_
    rintro e w2 ⟨x, rfl, hx0, hx1, hc2, hg2⟩
    have HC2 : Hid (Cur B w2 q) := hc2
    have HG2 : Hid (w1.grownBy w2 (some q)) := hg2
    clear hc2 hg2
    obtain ⟨n, rfl⟩ : ∃ n : Nat, x = n := ⟨x.toNat, by omega⟩
    have hn : n < 101 := by omega
    have hop := fun t W => run_float_arith (P := Try.prog) W .quo t .f32 (floatOfInt .f32 n) 1120403456 _ (cents n hn).1
    have hle : Hid (centB n ≤ 1065353216) := (cents n hn).2
    generalize centB n = y at hop hle
    clear hx0 hx1
    go_wp2_with (simp only [hop])
    go_ret
    exact ⟨y, rfl, hle.out, HC2.out, grownBy_trans HG1.out HG2.out⟩
  · have hqlt := HC1.out.lt
    go_wp2_with fail
    have HA : Hid (Cur B (w1.alloc (.cells #[.float .f32 0, .float .f32 1065353216, .float .f32 1056964608, .float .f32 1048576000] 30)) q) := HC1.out.alloc
    have HK : Hid (Blk (w1.alloc (.cells #[.float .f32 0, .float .f32 1065353216, .float .f32 1056964608, .float .f32 1048576000] 30)) w1.heap.size #[.float .f32 0, .float .f32 1065353216, .float .f32 1056964608, .float .f32 1048576000] 30) := Blk.new _ _ _
    refine (l1Below_s B q 4 _ HA.out (by omega) (by omega)).mono ?_
    rintro e w2 ⟨x, rfl, hx0, hx1, hc2, hg2⟩
    have HB2 := HK.out.grown hg2 (by omega)
    have HC2 : Hid (Cur B w2 q) := hc2
    have HG2 : Hid (w.grownBy w2 (some q)) := grownBy_trans (grown_alloc HG1.out _) hg2
    have l2 := HB2.lt
    have d0 := Blk.cellAt (i := 0) HB2 rfl
    have d1 := Blk.cellAt (i := 1) HB2 rfl
    have d2 := Blk.cellAt (i := 2) HB2 rfl
    have d3 := Blk.cellAt (i := 3) HB2 rfl
    simp at d0 d1 d2 d3
    clear hc2 hg2 HB2
    rcases (by omega : x = 0 ∨ x = 1 ∨ x = 2 ∨ x = 3) with rfl | rfl | rfl | rfl
    all_goals
      go_wp2
      go_ret
      exact ⟨_, rfl, by omega, HC2.out, HG2.out⟩

structure ColDrawn (B q : Nat) (w : World) (e : Ending) (w' : World) (r g b : Nat) : Prop where
  ret : e = .returned (.agg #[.float .f32 r, .float .f32 g, .float .f32 b])
  lr : r ≤ 1065353216
  lg : g ≤ 1065353216
  lb : b ≤ 1065353216
  cur : Cur B w' q
  grown : w.grownBy w' (some q)

set_option maxHeartbeats 1000000 in
theorem l2Draw_s (B q : Nat) (w : World) (hcur : Cur B w q) :
    Calls Try.prog 83 #[.pointer (some ⟨q, 0, Option.none⟩)] w fun e w' => ∃ r g b : Nat, ColDrawn B q w e w' r g b := by
  have HC : Hid (Cur B w q) := hcur
  have hq := hcur.lt
  clear hcur
  go_enter Try.func83, Try.ntmps83
  go_wp2_with fail
  have HA : Hid (Cur B (w.alloc (.cells #[.float .f32 0, .float .f32 0, .float .f32 0] 82)) q) := HC.out.alloc
  have HK : Hid (Blk (w.alloc (.cells #[.float .f32 0, .float .f32 0, .float .f32 0] 82)) w.heap.size #[.float .f32 0, .float .f32 0, .float .f32 0] 82) := Blk.new _ _ _
  refine (l2One_s B q _ HA.out).mono ?_
  rintro e w1 ⟨r, ⟨rfl, lr, hc1, hg1⟩⟩
  have K1 : Hid (Blk w1 w.heap.size #[.float .f32 0, .float .f32 0, .float .f32 0] 82) := HK.out.grown hg1 (by omega)
  have C1 : Hid (Cur B w1 q) := hc1
  have G1 : Hid (w.grownBy w1 (some q)) := grownBy_trans (grown_alloc (grownBy_refl _ _) _) hg1
  clear hc1 hg1
  go_wp2_with fail
  refine (l2One_s B q _ C1.out).mono ?_
  rintro e w2 ⟨g, ⟨rfl, lg, hc2, hg2⟩⟩
  have K2 : Hid (Blk w2 w.heap.size #[.float .f32 0, .float .f32 0, .float .f32 0] 82) := K1.out.grown hg2 (by omega)
  have C2 : Hid (Cur B w2 q) := hc2
  have G2 : Hid (w.grownBy w2 (some q)) := grownBy_trans G1.out hg2
  clear hc2 hg2
  go_wp2_with fail
  refine (l2One_s B q _ C2.out).mono ?_
  rintro e w3 ⟨b, ⟨rfl, lb, hc3, hg3⟩⟩
  have HB3 := K2.out.grown hg3 (by omega)
  have C3 : Hid (Cur B w3 q) := hc3
  have G3 : Hid (w.grownBy w3 (some q)) := grownBy_trans G2.out hg3
  clear hc3 hg3
  have l3 := HB3.lt
  have d0 := Blk.cellAt (i := 0) HB3 rfl
  have d1 := Blk.cellAt (i := 1) HB3 rfl
  have d2 := Blk.cellAt (i := 2) HB3 rfl
  have f0 := Blk.freeAt (i := 0) HB3
  have f1 := Blk.freeAt (i := 1) HB3
  have f2 := Blk.freeAt (i := 2) HB3
  simp at d0 d1 d2
  have K3 : Hid (Blk w3 w.heap.size #[.float .f32 0, .float .f32 0, .float .f32 0] 82) := HB3
  clear HB3
  have LR : Hid (r ≤ 1065353216) := lr
  have LG : Hid (g ≤ 1065353216) := lg
  have LB : Hid (b ≤ 1065353216) := lb
  clear lr lg lb
  go_wp2
  have e0 := (K3.out.set (i := 0) (v := .float .f32 r)).cell 0
  have e1 := ((K3.out.set (i := 0) (v := .float .f32 r)).set (i := 1) (v := .float .f32 g)).cell 1
  have e2 := (((K3.out.set (i := 0) (v := .float .f32 r)).set (i := 1) (v := .float .f32 g)).set (i := 2) (v := .float .f32 b)).cell 2
  simp only [List.setIfInBounds_toArray, List.set_cons_zero, List.set_cons_succ, List.getElem?_toArray, List.getElem?_cons_zero, List.getElem?_cons_succ] at e0 e1 e2
  have CF : Cur B (((w3.setCell ⟨w.heap.size, 0, Option.none⟩ (.float .f32 r)).setCell ⟨w.heap.size, 1, Option.none⟩ (.float .f32 g)).setCell ⟨w.heap.size, 2, Option.none⟩ (.float .f32 b)) q := by
    have h := C3.out
    have hB := h.ge
    obtain ⟨a, len, cap, bs, i, hh, h1, h2, h3, h4, h5⟩ := h
    exact ⟨a, len, cap, bs, i, hh, ((h1.other (by dsimp only; omega)).other (by dsimp only; omega)).other (by dsimp only; omega), h2, h3, h4.of (by
      have h6 : Below B w3 w3 := Below.refl _ _
      exact Below.setCell (Below.setCell (Below.setCell h6 (by dsimp only; omega) _) (by dsimp only; omega) _) (by dsimp only; omega) _), h5⟩
  have GF : w.grownBy (((w3.setCell ⟨w.heap.size, 0, Option.none⟩ (.float .f32 r)).setCell ⟨w.heap.size, 1, Option.none⟩ (.float .f32 g)).setCell ⟨w.heap.size, 2, Option.none⟩ (.float .f32 b)) (some q) :=
    grown_setNew (grown_setNew (grown_setNew G3.out (Nat.le_refl _) _) (Nat.le_refl _) _) (Nat.le_refl _) _
  exact bodyPost_ret (v := .agg #[.float .f32 r, .float .f32 g, .float .f32 b]) (by simp [results, Try.results83, go_sem, e0, e1, e2]) rfl ⟨r, g, b, rfl, LR.out, LG.out, LB.out, CF, GF⟩
end Go.Proofs.Ytekkgpanmccdgaa

/-
  The draw of a tumble.
-/
namespace Go.Proofs.Ytekkgpanmccdgaa
open Go.ChangeShapes Go.WideShapes Go.ChangeAt Go.RowKit Go.Joins
set_option linter.unusedSimpArgs false
set_option linter.unusedVariables false
set_option maxRecDepth 100000
attribute [local go_sem] store_f
open Ieee Go.Lib
attribute [local go_sem] store_c

theorem owns_gr' {W w1 : World} {base : Nat} {e : TypeId} {size : Nat} {v : Value} {n : Nat} {xs : List Value} {q : Nat} (hg : W.grownBy w1 (some q)) (hq : q < base) (h : W.ownsRow base e size v n xs) : w1.ownsRow base e size v n xs := by
  obtain ⟨h1, h2⟩ := h
  refine ⟨h1, ?_⟩
  rcases h2 with h2 | ⟨g, cap, cur, e1, e2, e3, e4⟩
  · exact .inl h2
  · refine .inr ⟨g, cap, cur, e1, e2, ?_, e4⟩
    rw [hg.block g (Array.getElem?_eq_some_iff.1 e3).1 (fun e => by cases e; omega)]
    exact e3
theorem cur_belowAt {W w1 : World} {B q N : Nat} (h : Cur B W q) (hb : Below N W w1) (hq : q < N) : Cur B w1 q := by
  obtain ⟨a, len, cap, bs, i, hh, h1, h2, h3, h4, h5⟩ := h
  exact ⟨a, len, cap, bs, i, hh, (hb.block q hq).trans h1, h2, h3, h4.of (hb.mono (by omega)), h5⟩
theorem grown_st' {w w1 w2 : World} {q : Nat} {r : Option Nat} (h : w.grownBy w1 (some q)) (k : w1.grownBy w2 r) (hr : ∀ x, r = some x → w.heap.size ≤ x) : w.grownBy w2 (some q) :=
  ⟨k.os.trans h.os, k.tape.trans h.tape, k.output.trans h.output, Nat.le_trans h.size k.size, fun i hi hne => (k.block i (Nat.lt_of_lt_of_le hi h.size) (fun e => by have := hr i e.symm; omega)).trans (h.block i hi hne)⟩

structure KindDrawn (B q : Nat) (w : World) (e : Ending) (w' : World) (k : Nat) : Prop where
  ret : e = .returned (.int .i64 k)
  lt : k < 4
  cur : Cur B w' q
  grown : w.grownBy w' (some q)
set_option maxHeartbeats 2000000 in
theorem l1Int_5 (B q g : Nat) (t : TypeId) (w : World) (hcur : Cur B w q) (hne : g ≠ q) (hrow : Blk w g #[.int .i64 0, .int .i64 1, .int .i64 2, .int .i64 3, .int .i64 3] t) :
    Calls Try.prog 97 #[.pointer (some ⟨q, 0, Option.none⟩), .slice (some ⟨g, 0, Option.none⟩) 5 5] w fun e w' => ∃ x, KindDrawn B q w e w' x := by
  have HC : Hid (Cur B w q) := hcur
  have HB : Hid (∀ k : Nat, k < 5 → ∃ x : Nat, x < 4 ∧ w.cell? ⟨g, k, Option.none⟩ = some (.int .i64 (x : Nat))) := fun k hk => by
    rcases (by omega : k = 0 ∨ k = 1 ∨ k = 2 ∨ k = 3 ∨ k = 4) with rfl | rfl | rfl | rfl | rfl
    · exact ⟨0, by omega, (hrow.cell _).trans rfl⟩
    · exact ⟨1, by omega, (hrow.cell _).trans rfl⟩
    · exact ⟨2, by omega, (hrow.cell _).trans rfl⟩
    · exact ⟨3, by omega, (hrow.cell _).trans rfl⟩
    · exact ⟨3, by omega, (hrow.cell _).trans rfl⟩
  have hlt : Hid (g < w.heap.size) := hrow.lt
  clear hcur hrow
  go_enter Try.func97, Try.ntmps97
  go_wp2_with fail
  refine (l1Below_s B q 5 _ HC.out (by omega) (by omega)).mono ?_
  rintro e w1 ⟨x, rfl, hx0, hx1, hc1, hg1⟩
  obtain ⟨n, rfl⟩ : ∃ n : Nat, x = n := ⟨x.toNat, by omega⟩
  have hn : n < 5 := by omega
  obtain ⟨y, hy4, hy⟩ := HB.out n hn
  have hy1 : w1.cell? ⟨g, n, Option.none⟩ = some (.int .i64 (y : Nat)) := (World.cell?_of_block (hg1.block g hlt.out (fun e => hne (Option.some.inj e)))).trans hy
  have HC1 : Hid (Cur B w1 q) := hc1
  have HG1 : Hid (w.grownBy w1 (some q)) := hg1
  clear hc1 hg1 hy hx0 hx1
  go_wp2
  go_ret
  exact ⟨y, rfl, hy4, HC1.out, HG1.out⟩

/-- What stands while a tumble is drawn: the cursor, and the tumble. -/
structure Tst (B q m : Nat) (w0 W : World) (cs : Array Value) : Prop where
  cur : Cur B W q
  gr : w0.grownBy W (some q)
  blk : Blk W m cs 39
  ne : m ≠ q
theorem Tst.drew {B q m : Nat} {w0 W : World} {cs : Array Value} (h : Tst B q m w0 W cs) : Tst B q m w0 W.drew cs := ⟨h.cur, grownBy_draws (n := 1) h.gr, h.blk.drew, h.ne⟩
theorem Tst.alloc {B q m : Nat} {w0 W : World} {cs : Array Value} {o : Obj} (h : Tst B q m w0 W cs) : Tst B q m w0 (W.alloc o) cs := ⟨h.cur.alloc, grown_alloc h.gr _, h.blk.alloc, h.ne⟩
theorem Tst.step {B q m : Nat} {w0 W w1 : World} {cs : Array Value} (hc : Cur B w1 q) (hg : W.grownBy w1 (some q)) (h : Tst B q m w0 W cs) : Tst B q m w0 w1 cs := ⟨hc, grownBy_trans h.gr hg, h.blk.grown hg h.ne, h.ne⟩
theorem Tst.below {B q m : Nat} {w0 W w1 : World} {cs : Array Value} (hb : Below W.heap.size W w1) (h : Tst B q m w0 W cs) : Tst B q m w0 w1 cs :=
  ⟨h.cur.below hb, grown_st' h.gr ⟨hb.os, hb.tape, hb.output, hb.size, fun i hi _ => hb.block i hi⟩ (r := Option.none) (fun x e => by cases e), h.blk.below hb, h.ne⟩
theorem Tst.setNew {B q m : Nat} {w0 W : World} {cs : Array Value} {a : Addr} {v : Value} (h : Tst B q m w0 W cs) (h1 : w0.heap.size ≤ a.block) (h2 : m ≠ a.block) (h3 : q < a.block) : Tst B q m w0 (W.setCell a v) cs :=
  ⟨h.cur.set h3, grown_setNew h.gr h1 v, h.blk.other h2, h.ne⟩

/-- A drawn tumble as it lies in memory. -/
structure TumDrawn (B q : Nat) (w : World) (e : Ending) (w' : World) (kind : Nat) (g : PtW) (ls : Nat) (l : List (PtW × PtW)) (a : Option Addr) (c : Nat) : Prop where
  ret : e = .returned (.agg #[.int .i64 kind, .complex .f32 g.1.1 g.1.2, .float .f32 ls, .slice a l.length c])
  row : BwIn w' a (l.map wd)
  base : Base kind g ls l
  few : l.length ≤ 4
  cur : Cur B w' q
  grown : w.grownBy w' (some q)
structure FoldD (kind : Nat) : Prop where
  fold : ∀ x y, smB x = true → smB y = true → ∃ p : PtW, ∃ t f, FoldMS kind x y p.1.1 p.1.2 t f ∧ Lim 640 p ∧ wed kind p = true
theorem foldD {kind : Nat} (h : kind < 4) : FoldD kind := ⟨fun x y hx hy =>
  ⟨_, _, _, foldS_raw (by omega) (by omega) (sm_ok hx) (sm_ok hy), lim_act _ (lim_ptOf hx hy), (foldIs (by omega) (by omega) _).wed⟩⟩
end Go.Proofs.Ytekkgpanmccdgaa

/-
  The draw of a tumble: its beads.
-/
namespace Go.Proofs.Ytekkgpanmccdgaa
open Go.ChangeShapes Go.WideShapes Go.ChangeAt Go.RowKit Go.Joins
set_option linter.unusedSimpArgs false
set_option linter.unusedVariables false
set_option maxRecDepth 100000
attribute [local go_sem] store_f
open Ieee Go.Lib
attribute [local go_sem] store_c

/-- .. and the beads that it has so far. -/
structure Tbd (B q m r T : Nat) (w0 W : World) (cs : Array Value) (v : Value) (n : Nat) (xs : List Value) : Prop where
  t : Tst B q m w0 W cs
  own : W.ownsRow (m + 1) 54 2 v n xs
  res : Blk W r #[.int .i64 0, .complex .f32 0 0, .float .f32 0, .slice Option.none 0 0] 39
  rq : r ≠ q
  top : ∀ x, v.ownBlock = some x → x < T
  mT : m < T
  qT : q < T
  rT : r < T
  wT : w0.heap.size ≤ T
  qm : q < m
  le : T ≤ W.heap.size
theorem Tbd.drew {B q m r T : Nat} {w0 W : World} {cs : Array Value} {v : Value} {n : Nat} {xs : List Value} (h : Tbd B q m r T w0 W cs v n xs) : Tbd B q m r T w0 W.drew cs v n xs :=
  ⟨h.t.drew, h.own.drew, h.res.drew, h.rq, h.top, h.mT, h.qT, h.rT, h.wT, h.qm, h.le⟩
theorem Tbd.alloc {B q m r T : Nat} {w0 W : World} {cs : Array Value} {v : Value} {n : Nat} {xs : List Value} {o : Obj} (h : Tbd B q m r T w0 W cs v n xs) : Tbd B q m r T w0 (W.alloc o) cs v n xs :=
  ⟨h.t.alloc, h.own.alloc _, h.res.alloc, h.rq, h.top, h.mT, h.qT, h.rT, h.wT, h.qm, Nat.le_trans h.le (by simp)⟩
theorem Tbd.step {B q m r T : Nat} {w0 W w1 : World} {cs : Array Value} {v : Value} {n : Nat} {xs : List Value} (hc : Cur B w1 q) (hg : W.grownBy w1 (some q)) (h : Tbd B q m r T w0 W cs v n xs) : Tbd B q m r T w0 w1 cs v n xs :=
  ⟨h.t.step hc hg, owns_gr' hg (by have := h.qm; omega) h.own, h.res.grown hg h.rq, h.rq, h.top, h.mT, h.qT, h.rT, h.wT, h.qm, Nat.le_trans h.le hg.size⟩
theorem Tbd.below {B q m r T : Nat} {w0 W w1 : World} {cs : Array Value} {v : Value} {n : Nat} {xs : List Value} (hb : Below W.heap.size W w1) (h : Tbd B q m r T w0 W cs v n xs) : Tbd B q m r T w0 w1 cs v n xs :=
  ⟨h.t.below hb, ownsBelow hb h.own, h.res.below hb, h.rq, h.top, h.mT, h.qT, h.rT, h.wT, h.qm, Nat.le_trans h.le hb.size⟩
theorem Tbd.setNew {B q m r T : Nat} {w0 W : World} {cs : Array Value} {v u : Value} {n : Nat} {xs : List Value} {a : Addr} (h : Tbd B q m r T w0 W cs v n xs) (ha : T ≤ a.block) : Tbd B q m r T w0 (W.setCell a u) cs v n xs := by
  have h1 := h.mT
  have h2 := h.qT
  have h3 := h.rT
  have h4 := h.wT
  refine ⟨h.t.setNew (by omega) (by omega) (by omega), ?_, h.res.other (by omega), h.rq, h.top, h.mT, h.qT, h.rT, h.wT, h.qm, by simpa using h.le⟩
  obtain ⟨o1, o2⟩ := h.own
  refine ⟨o1, ?_⟩
  rcases o2 with o2 | ⟨g', cap', cur, e1, e2, e3, e4⟩
  · exact .inl o2
  · have := h.top g' (by rw [e1]; rfl)
    exact .inr ⟨g', cap', cur, e1, e2, (Below.heap_setCell _ _ _ _ (by omega)).trans e3, e4⟩
theorem map_snoc {l : List (PtW × PtW)} (p v : PtW) : bwCells ((l ++ [(p, v)]).map wd) = bwCells (l.map wd) ++ [.complex .f32 p.1.1 p.1.2, .complex .f32 v.1.1 v.1.2] := by
  rw [List.map_append, List.map_cons, List.map_nil, bwCells_snoc]; rfl

set_option maxHeartbeats 32000000 in
theorem l5Draw_s (B q : Nat) (w : World) (hcur : Cur B w q) :
    Calls Try.prog 50 #[.pointer (some ⟨q, 0, Option.none⟩)] w fun e w' => ∃ kind g ls l a c, TumDrawn B q w e w' kind g ls l a c := by
  obtain ⟨i0, hi, hz0, hz1, hz2⟩ := info_parts infoB
  have HC : Hid (Cur B w q) := hcur
  have hq := hcur.lt
  clear hcur
  go_enter Try.func50, Try.ntmps50
  go_wp2_with fail
  generalize hX : (w.alloc (.cells #[.int .i64 0, .complex .f32 0 0, .float .f32 0, .slice Option.none 0 0] 39)).alloc (.cells #[.int .i64 0, .int .i64 1, .int .i64 2, .int .i64 3, .int .i64 3] 3) = X
  have R0 : Hid (Blk X w.heap.size #[.int .i64 0, .complex .f32 0 0, .float .f32 0, .slice Option.none 0 0] 39) := by rw [← hX]; exact (Blk.new _ _ _).alloc
  have I0 : Hid (Blk X (w.heap.size + 1) #[.int .i64 0, .int .i64 1, .int .i64 2, .int .i64 3, .int .i64 3] 3) := by rw [← hX]; exact Blk.newAt (by simp)
  have C0 : Hid (Cur B X q) := by rw [← hX]; exact HC.out.alloc.alloc
  have G0 : Hid (w.grownBy X (some q)) := by rw [← hX]; exact grown_alloc (grown_alloc (grownBy_refl _ _) _) _
  have sX : w.heap.size + 2 ≤ X.heap.size := by rw [← hX]; simp
  clear hX HC
  refine (l1Int_5 B q _ _ _ C0.out (by omega) I0.out).mono ?_
  rintro e w1 ⟨kind, ⟨rfl, hk4, hc, hg⟩⟩
  have C1 : Hid (Cur B w1 q) := hc
  have G1 : Hid (w.grownBy w1 (some q)) := grownBy_trans G0.out hg
  have R1 : Hid (Blk w1 w.heap.size #[.int .i64 0, .complex .f32 0 0, .float .f32 0, .slice Option.none 0 0] 39) := R0.out.grown hg (by omega)
  have s1 := hg.size
  clear hc hg C0 G0 R0 I0
  go_wp2_with fail
  refine (l2One_s B q _ C1.out).mono ?_
  rintro e w2 ⟨ls, ⟨rfl, hls, hc, hg⟩⟩
  have C2 : Hid (Cur B w2 q) := hc
  have G2 : Hid (w.grownBy w2 (some q)) := grownBy_trans G1.out hg
  have R2 : Hid (Blk w2 w.heap.size #[.int .i64 0, .complex .f32 0 0, .float .f32 0, .slice Option.none 0 0] 39) := R1.out.grown hg (by omega)
  have s2 := hg.size
  have HLS := Lib.hid hls
  clear hc hg C1 G1 R1 hls
  go_wp2_with fail
  obtain ⟨m, hm⟩ : ∃ m : Nat, m = w2.heap.size := ⟨_, rfl⟩
  have T3 : Hid (Tst B q m w (w2.alloc (.cells #[.int .i64 kind, .complex .f32 0 0, .float .f32 ls, .slice Option.none 0 0] 39)) #[.int .i64 kind, .complex .f32 0 0, .float .f32 ls, .slice Option.none 0 0]) := ⟨C2.out.alloc, grown_alloc G2.out _, Blk.newAt hm, by omega⟩
  have R3 : Hid (Blk (w2.alloc (.cells #[.int .i64 kind, .complex .f32 0 0, .float .f32 ls, .slice Option.none 0 0] 39)) w.heap.size #[.int .i64 0, .complex .f32 0 0, .float .f32 0, .slice Option.none 0 0] 39) := R2.out.alloc
  have s3 : m < (w2.alloc (.cells #[.int .i64 kind, .complex .f32 0 0, .float .f32 ls, .slice Option.none 0 0] 39)).heap.size := by simp; omega
  have hwm : w.heap.size + 1 < m := by omega
  rw [← hm]
  generalize w2.alloc (.cells #[.int .i64 kind, .complex .f32 0 0, .float .f32 ls, .slice Option.none 0 0] 39) = Y at *
  clear C2 G2 R2 hm s1 s2 sX
  refine (l1Once_s B q 2 _ T3.out.cur (by omega) (by omega)).mono ?_
  rintro e w4 ⟨tt, ⟨rfl, hc, hg⟩⟩
  have T4 : Hid (Tst B q m w w4 #[.int .i64 kind, .complex .f32 0 0, .float .f32 ls, .slice Option.none 0 0]) := Tst.step hc hg T3.out
  have R4 : Hid (Blk w4 w.heap.size #[.int .i64 0, .complex .f32 0 0, .float .f32 0, .slice Option.none 0 0] 39) := R3.out.grown hg (by omega)
  have s4 : m < w4.heap.size := Nat.lt_of_lt_of_le s3 hg.size
  clear hc hg T3 R3 s3
  go_upto_if 15 with (fail)
  go_cut [3] (fun p3 wx => p3 = .pointer (some ⟨m, 0, Option.none⟩) ∧ ∃ g : PtW, Lim 1 g ∧ Tst B q m w wx #[.int .i64 kind, .complex .f32 g.1.1 g.1.2, .float .f32 ls, .slice Option.none 0 0] ∧ Blk wx w.heap.size #[.int .i64 0, .complex .f32 0 0, .float .f32 0, .slice Option.none 0 0] 39 ∧ m < wx.heap.size)
  case first =>
    cases tt
    · go_wp2_with fail
      go_meet
      exact ⟨rfl, zeroP, lim_zero 1, T4.out, R4.out, s4⟩
    · go_wp2_with fail
      refine (some_8 B q _ T4.out.cur).mono ?_
      rintro e w5 ⟨j, ⟨rfl, hj, hc, hg⟩⟩
      have T5 : Hid (Tst B q m w w5 #[.int .i64 kind, .complex .f32 0 0, .float .f32 ls, .slice Option.none 0 0]) := Tst.step hc hg T4.out
      have R5 : Hid (Blk w5 w.heap.size #[.int .i64 0, .complex .f32 0 0, .float .f32 0, .slice Option.none 0 0] 39) := R4.out.grown hg (by omega)
      have s5 : m < w5.heap.size := Nat.lt_of_lt_of_le s4 hg.size
      obtain ⟨e1, a1, a2, a3⟩ := gr_8 j hj
      obtain ⟨P1, L1⟩ := pt_small (by omega) a1 a2 a3
      have hop1 := fun t w => run_float_arith (P := Try.prog) w .quo t .f32 (floatOfInt .f32 ((j : Int) - 8)) 1090519040 _ e1
      have HP1 := Lib.hid P1
      have HL1 := Lib.hid L1
      clear hc hg e1 a1 a2 a3 P1 L1 T4 R4 s4
      generalize overB 1090519040 ((j : Int) - 8) = x at *
      go_wp2_with (simp only [hop1])
      refine (some_8 B q _ T5.out.cur).mono ?_
      rintro e w6 ⟨k, ⟨rfl, hk, hc, hg⟩⟩
      have T6 : Hid (Tst B q m w w6 #[.int .i64 kind, .complex .f32 0 0, .float .f32 ls, .slice Option.none 0 0]) := Tst.step hc hg T5.out
      have R6 : Hid (Blk w6 w.heap.size #[.int .i64 0, .complex .f32 0 0, .float .f32 0, .slice Option.none 0 0] 39) := R5.out.grown hg (by omega)
      have s6 : m < w6.heap.size := Nat.lt_of_lt_of_le s5 hg.size
      obtain ⟨e1, a1, a2, a3⟩ := gr_8 k hk
      obtain ⟨P2, L2⟩ := pt_small (by omega) a1 a2 a3
      have hop2 := fun t w => run_float_arith (P := Try.prog) w .quo t .f32 (floatOfInt .f32 ((k : Int) - 8)) 1090519040 _ e1
      have HP2 := Lib.hid P2
      have HL2 := Lib.hid L2
      clear hc hg e1 a1 a2 a3 P2 L2 hop1 T5 R5 s5
      generalize overB 1090519040 ((k : Int) - 8) = y at *
      have m1 := Blk.cellAt (i := 1) T6.out.blk rfl
      simp only [List.getElem_toArray, List.getElem_cons_zero, List.getElem_cons_succ] at m1
      have f1 := T6.out.blk.free 1
      go_wp2_with (simp only [hop2])
      go_meet
      refine ⟨rfl, ⟨(x, y), HP1.out, HP2.out⟩, ⟨by rw [← mag_unit]; exact Nat.le_trans HL1.out (by omega), by rw [← mag_unit]; exact Nat.le_trans HL2.out (by omega)⟩, ⟨T6.out.cur.set (by dsimp only; omega), ?_, Blk.setAt rfl T6.out.blk rfl, T6.out.ne⟩, R6.out.other (by dsimp only; omega), by simp; omega⟩
      exact grown_setNew T6.out.gr (by dsimp only; omega) _
  case rest =>
    obtain ⟨rfl, g, hlim, T7, R7, s7⟩ := hcut
    have HLIM := Lib.hid hlim
    have TC := Lib.hid T7
    have RC := Lib.hid R7
    have FD := foldD hk4
    clear hlim T7 R7 T4 R4 s4
    go_wp2_with fail
    refine (l1Below_s B q 5 _ TC.out.cur (by omega) (by omega)).mono ?_
    rintro e w7 ⟨z, rfl, hz0', hz1', hc, hg⟩
    obtain ⟨k, rfl⟩ : ∃ k : Nat, z = k := ⟨z.toNat, by omega⟩
    have T7 := Lib.hid (Tst.step hc hg TC.out)
    have R7 : Hid (Blk w7 w.heap.size #[.int .i64 0, .complex .f32 0 0, .float .f32 0, .slice Option.none 0 0] 39) := RC.out.grown hg (by omega)
    have s8 : m < w7.heap.size := Nat.lt_of_lt_of_le s7 hg.size
    clear hc hg TC RC s7 hz0'
    obtain ⟨g1, hg1⟩ : ∃ x, x = g.1.1 := ⟨_, rfl⟩
    obtain ⟨g2, hg2⟩ : ∃ x, x = g.1.2 := ⟨_, rfl⟩
    rw [← hg1, ← hg2] at T7
    have HG1 := Lib.hid hg1
    have HG2 := Lib.hid hg2
    clear hg1 hg2
    go_wp2_with fail
    go_loopw [4] (fun i wr => ∃ (l : List (PtW × PtW)) (k : Nat), i = .int .i64 k ∧ l.length + k ≤ 4 ∧ (∀ b ∈ l, Lim 5 b.2 ∧ Lim 640 b.1 ∧ wed kind b.1 = true) ∧ ∃ v, Tbd B q m w.heap.size wr.heap.size w wr #[.int .i64 kind, .complex .f32 g1 g2, .float .f32 ls, v] v l.length (bwCells (l.map wd)))
      (fun i _ => (intOf i).toNat)
    case atStart => exact ⟨[], k, rfl, by simp; omega, fun b hb => absurd hb (by simp), _, T7.out, World.ownsRow_nil _ _ _ _, R7.out, by omega, fun x hx => by simp [Value.ownBlock] at hx, s8, by omega, by omega, by omega, by omega, Nat.le_refl _⟩
    case round =>
      obtain ⟨l, k, rfl, hlk, hall, v, hT⟩ := hrel
      have HT := Lib.hid hT
      have HALL := Lib.hid hall
      have hqw := hT.qT
      have hmw := hT.mT
      have hqm := hT.qm
      have hrw := hT.rT
      clear hT hall T7 R7
      by_cases hk0 : 0 < k
      · go_wp2_with fail
        have m0 := Blk.cellAt (i := 0) HT.out.t.blk rfl
        simp only [List.getElem_toArray, List.getElem_cons_zero, List.getElem_cons_succ] at m0
        go_cut [5] (fun p5 wx => ∃ p : PtW, p5 = .complex .f32 p.1.1 p.1.2 ∧ Lim 640 p ∧ wed kind p = true ∧ Tbd B q m w.heap.size wr.heap.size w wx #[.int .i64 kind, .complex .f32 g1 g2, .float .f32 ls, v] v l.length (bwCells (l.map wd)))
        case first =>
          go_region_with (first
            | (go_at_call 57; (with_reducible refine (l1Point_m B q _ ?_).mono ?_); (next => first | exact HT.out.drew.t.cur | exact HT.out.drew.alloc.t.cur); rintro e wA ⟨x, y, ⟨rfl, hx, hy, hc, hg⟩⟩; have TA := Lib.hid (show Tbd B q m w.heap.size wr.heap.size w wA #[.int .i64 kind, .complex .f32 g1 g2, .float .f32 ls, v] v l.length (bwCells (l.map wd)) from by first | exact HT.out.drew.step hc hg | exact HT.out.drew.alloc.step hc hg); (try (first | have hN := Blk.grown (Blk.drew (Blk.new _ _ _)) hg (by (try simp only [World.size_drew]); omega) | have hN := Blk.grown (Blk.new _ _ _) hg (by (try simp only [World.size_drew]); omega))); obtain ⟨p, t, f, FM, hl, hw⟩ := FD.fold x y hx hy; have HPL := Lib.hid hl; have HPW := Lib.hid hw; have mA := Blk.cellAt (i := 0) TA.out.t.blk rfl; (simp only [List.getElem_toArray, List.getElem_cons_zero, List.getElem_cons_succ] at mA); have lA := TA.out.t.blk.lt; clear hc hg hl hw)
            | (go_at_call 71; (with_reducible refine (FM.call _).mono ?_); rintro e wB ⟨rfl, hb⟩; have TB := Lib.hid (show Tbd B q m w.heap.size wr.heap.size w wB #[.int .i64 kind, .complex .f32 g1 g2, .float .f32 ls, v] v l.length (bwCells (l.map wd)) from by first | exact TA.out.below hb | exact TA.out.alloc.below hb); (try (first | have hN := Blk.belowAt hb hN | have hN := Blk.belowAt hb (Blk.new _ _ _))); (try (have y0 := Blk.cellAt (i := 0) hN rfl; have y1 := Blk.cellAt (i := 1) hN rfl; (simp only [List.getElem_toArray, List.getElem_cons_zero, List.getElem_cons_succ] at y0 y1); have z0 := hN.free 0; have z1 := hN.free 1; have zl := hN.lt)); clear hb))
          all_goals
            go_wp2_with fail
            go_meet
            refine ⟨p, rfl, HPL.out, HPW.out, ?_⟩
            have hle := TA.out.le
            have hle2 := TB.out.le
            first
              | exact (TB.out.setNew (by (try dsimp only); (try simp only [World.size_drew, World.size_alloc]); omega)).setNew (by (try dsimp only); (try simp only [World.size_drew, World.size_alloc]); omega)
              | exact (TB.out.alloc.setNew (by (try dsimp only); (try simp only [World.size_drew, World.size_alloc]); omega)).setNew (by (try dsimp only); (try simp only [World.size_drew, World.size_alloc]); omega)
              | exact TB.out.alloc
              | exact ((TB.out.setNew (by (try dsimp only); (try simp only [World.size_drew, World.size_alloc]); omega)).setNew (by (try dsimp only); (try simp only [World.size_drew, World.size_alloc]); omega)).alloc
        case rest =>
          obtain ⟨p, rfl, hpl, hpw, hTC⟩ := hcut
          have TC := Lib.hid hTC
          have HPL := Lib.hid hpl
          have HPW := Lib.hid hpw
          have hown := hTC.own.lt
          have m3 := Blk.cellAt (i := 3) hTC.t.blk rfl
          simp only [List.getElem_toArray, List.getElem_cons_zero, List.getElem_cons_succ] at m3
          have lmc := hTC.t.blk.lt
          have hleT := hTC.le
          have htop := Lib.hid hTC.top
          clear hTC hpl hpw HT m0
          go_wp2_with fail
          go_region_law (first | (go_simp; (refine (l5Speed_s B q wc.drew TC.out.drew.t.cur).mono ?_); rintro e w4 ⟨u, ⟨rfl, hul, hc4, hg4⟩⟩; have T4 : Tbd B q m w.heap.size wr.heap.size w w4 #[.int .i64 kind, .complex .f32 g1 g2, .float .f32 ls, v] v l.length (bwCells (l.map wd)) := TC.out.drew.step hc4 hg4; have d2 := Blk.cellAt (i := 3) T4.t.blk rfl; (simp only [List.getElem_toArray, List.getElem_cons_zero, List.getElem_cons_succ] at d2); have d4 := cAlloc (o := .cells #[.complex .f32 p.1.1 p.1.2, .complex .f32 u.1.1 u.1.2] 54) d2; have hown2 := T4.own; have hle4 := T4.le; have HUL := Lib.hid hul; have hbs2 := hg4.size; (try simp only [World.size_drew] at hbs2); clear hc4 hg4 hul) | (refine step_append_lies _ (by rfl) _ _ _ (by rfl) (m + 1) 54 i0 _ 2 16 Try.underlying37 hi hz0 hz1 hz2 rfl (by omega) v l.length (bwCells (l.map wd)) (by rfl) (hown2.alloc _) ⟨w4.heap.size, 0, Option.none⟩ 1 1 [.complex .f32 p.1.1 p.1.2, .complex .f32 u.1.1 u.1.2] (by rfl) (by rfl) (World.news_of_block (cs := #[.complex .f32 p.1.1 p.1.2, .complex .f32 u.1.1 u.1.2]) (t := 54) (fr := (0, 0)) (heap_alloc_new w4 _)) (by simp [Value.oneCell']) (by omega) (by unfold maxLen; omega) (by omega) (by simp; omega) (w4.heap.size + 1) (by simp) ?_; intro gg cap3 w5 hown3 hgrow hat hlt3; have hP5 : Blk w5 m #[.int .i64 kind, .complex .f32 g1 g2, .float .f32 ls, v] 39 := (hgrow.block m (by simp; omega) (fun e => absurd (hown2.lt _ e.symm).1 (by omega))).trans (Blk.alloc T4.t.blk); have d3 := Blk.cellAt (i := 3) hP5 rfl; (simp only [List.getElem_toArray, List.getElem_cons_zero, List.getElem_cons_succ] at d3); have f3 := hP5.free 3; have hs3 := hgrow.size; (simp only [World.size_alloc] at hs3)))
          all_goals
            have hne : ∀ x, v.ownBlock = some x → m + 1 ≤ x := fun x hx => (hown2.lt x hx).1
            have hb5 : Below (m + 1) (w4.alloc (.cells #[.complex .f32 p.1.1 p.1.2, .complex .f32 u.1.1 u.1.2] 54)) w5 := Below.grown (Below.refl _ _) hgrow (by simp; omega) hne
            have hq4 : q < m := hqm
            have TF : Tbd B q m w.heap.size (w5.setCell ⟨m, 3, Option.none⟩ (.slice (some ⟨gg, 0, Option.none⟩) (l.length + 1) cap3)).heap.size w (w5.setCell ⟨m, 3, Option.none⟩ (.slice (some ⟨gg, 0, Option.none⟩) (l.length + 1) cap3)) #[.int .i64 kind, .complex .f32 g1 g2, .float .f32 ls, .slice (some ⟨gg, 0, Option.none⟩) (l.length + 1) cap3] (.slice (some ⟨gg, 0, Option.none⟩) (l.length + 1) cap3) (l.length + 1) (bwCells (l.map wd) ++ [.complex .f32 p.1.1 p.1.2, .complex .f32 u.1.1 u.1.2]) := by
              refine ⟨⟨Cur.set (cur_belowAt T4.alloc.t.cur hb5 (by omega)) (by dsimp only; omega), grown_setNew (grown_st' T4.alloc.t.gr hgrow (fun x hx => by have := hne x hx; omega)) (by dsimp only; omega) _, Blk.setAt rfl hP5 rfl, T4.t.ne⟩, owns_set hown3 (by dsimp only; omega), Blk.other ((hgrow.block w.heap.size (by simp; omega) (fun e => absurd (hne _ e.symm) (by omega))).trans (Blk.alloc T4.res)) (by dsimp only; omega), T4.rq, fun x hx => ?_, ?_, ?_, ?_, ?_, hq4, Nat.le_refl _⟩
              · simp only [Value.ownBlock, Option.some.injEq] at hx
                simp; omega
              · simp; omega
              · simp; omega
              · simp; omega
              · simp; omega
            have HTF := Lib.hid TF
            clear TF hb5 hne hP5 d2 d3 d4 f3 hown3 hown2 hgrow hat hs3 hbs2 T4 m3 hown TC
            go_wp2
            go_roundw
            case rel => exact ⟨l ++ [(p, u)], k - 1, by go_num, by simp; omega, (fun b hb => by
              rcases List.mem_append.1 hb with h | h
              · exact HALL.out b h
              · rw [List.mem_singleton] at h
                rw [h]
                exact ⟨HUL.out, HPL.out, HPW.out⟩), _, by rw [map_snoc, List.length_append, List.length_singleton]; exact HTF.out⟩
            case measure => simp [intOf]; omega
      · obtain rfl : k = 0 := by omega
        have hTT := HT.out
        have m0 := Blk.cellAt (i := 0) hTT.t.blk rfl
        have m1 := Blk.cellAt (i := 1) hTT.t.blk rfl
        have m2 := Blk.cellAt (i := 2) hTT.t.blk rfl
        have m3 := Blk.cellAt (i := 3) hTT.t.blk rfl
        have r0 := Blk.cellAt (i := 0) hTT.res rfl
        have r1 := Blk.cellAt (i := 1) hTT.res rfl
        have r2 := Blk.cellAt (i := 2) hTT.res rfl
        have r3 := Blk.cellAt (i := 3) hTT.res rfl
        simp only [List.getElem_toArray, List.getElem_cons_zero, List.getElem_cons_succ] at m0 m1 m2 m3 r0 r1 r2 r3
        have f0 := hTT.res.free 0
        have f1 := hTT.res.free 1
        have f2 := hTT.res.free 2
        have f3 := hTT.res.free 3
        have P0 := Lib.hid r0
        obtain ⟨a, c, rfl, hrow⟩ : ∃ a c, v = .slice a l.length c ∧ BwIn wr a (l.map wd) := by
          rcases ownsRow_forms hTT.own with ⟨e, hl0⟩ | ⟨ga, ca, e⟩
          · have hl : l = [] := List.eq_nil_of_length_eq_zero (by simpa using hl0)
            subst hl
            exact ⟨Option.none, 0, e, .inl rfl⟩
          · have ho := hTT.own
            rw [e] at ho
            exact ⟨_, ca, e, .inr ⟨ga, rfl, bwRow_of ho (by simp)⟩⟩
        have HROW := Lib.hid hrow
        have lm := hTT.t.blk.lt
        have lr := hTT.res.lt
        have RS := ((((hTT.res.set (i := 0) (v := .int .i64 kind)).set (i := 1) (v := .complex .f32 g1 g2)).set (i := 2) (v := .float .f32 ls)).set (i := 3) (v := .slice a l.length c))
        have e0 := RS.cell 0
        have e1 := RS.cell 1
        have e2 := RS.cell 2
        have e3 := RS.cell 3
        simp only [List.setIfInBounds_toArray, List.set_cons_zero, List.set_cons_succ, List.getElem?_toArray, List.getElem?_cons_zero, List.getElem?_cons_succ] at e0 e1 e2 e3
        have E0 := Lib.hid e0
        have E1 := Lib.hid e1
        have E2 := Lib.hid e2
        have E3 := Lib.hid e3
        clear RS e0 e1 e2 e3 hTT hrow
        go_wp2_with fail
        have e0 := E0.out
        have e1 := E1.out
        have e2 := E2.out
        have e3 := E3.out
        refine bodyPost_ret (v := .agg #[.int .i64 kind, .complex .f32 g1 g2, .float .f32 ls, .slice a l.length c]) (by simp [results, Try.results50, go_sem, e0, e1, e2, e3]) rfl ⟨kind, g, ls, l, a, c, ⟨by rw [HG1.out, HG2.out], HROW.out.grownAt grown_set4 P0.out, ⟨by omega, by omega, HLIM.out, HLS.out, by omega, HALL.out⟩, by omega, ?_, ?_⟩⟩
        · exact (((HT.out.t.cur.set (by dsimp only; omega)).set (by dsimp only; omega)).set (by dsimp only; omega)).set (by dsimp only; omega)
        · exact grown_setNew (grown_setNew (grown_setNew (grown_setNew HT.out.t.gr (by dsimp only; omega) _) (by dsimp only; omega) _) (by dsimp only; omega) _) (by dsimp only; omega) _
end Go.Proofs.Ytekkgpanmccdgaa

/-
  Tumbles that are the same: SameTumble of the program.
-/
namespace Go.Proofs.Ytekkgpanmccdgaa
open Go.ChangeShapes Go.WideShapes Go.ChangeAt Go.RowKit Go.Joins
set_option linter.unusedSimpArgs false
set_option linter.unusedVariables false
set_option maxRecDepth 100000
attribute [local go_sem] store_f
open Ieee Go.Lib
attribute [local go_sem] store_c

theorem run_equalIn_c (P : Program) (w : World) (d : Nat) (t : TypeId) (a b x y : Nat) (h : P.underlying t = some (.complex .f32)) : (Op.equalIn (d + 1) t (.complex .f32 a b) (.complex .f32 x y)).run P w = .ok ((FloatKind.f32.format.order a x == some .eq) && (FloatKind.f32.format.order b y == some .eq)) w := by
  simp [Op.equalIn, run_underlying h, Op.floatEq]
attribute [local go_sem] run_equalIn_c
structure Bw.Fin (b : Bw) : Prop where
  a1 : Fin32 b.a1
  a2 : Fin32 b.a2
  v1 : Fin32 b.v1
  v2 : Fin32 b.v2
theorem run_eq_bead {b : Bw} (h : b.Fin) (w : World) : (Op.equalIn 10000 54 (.agg #[.complex .f32 b.a1 b.a2, .complex .f32 b.v1 b.v2]) (.agg #[.complex .f32 b.a1 b.a2, .complex .f32 b.v1 b.v2])).run Try.prog w = .ok true w := by
  have u := Try.underlying36
  have a24 := Try.isAgg36
  have z24 := Try.sizeOf36
  have hS : Try.prog.underlying 54 = some (.struct (Try.prog.fieldsOf 54)) := by kernel_rfl
  have hp : Try.prog.stoodInHeld 54 = false := by kernel_rfl
  have e1 := order_self h.a1
  have e2 := order_self h.a2
  have e3 := order_self h.v1
  have e4 := order_self h.v2
  rw [show (10000 : Nat) = 9999 + 1 from rfl, run_equalIn_agg w 9999 54 _ _ hS hp]
  simp only [Program.fieldsOf, Try.underlying54]
  go_simp
structure EqBs (L : List Bw) : Prop where
  call : ∀ (w : World) (a b : Option Addr) (ca cb : Nat), BwIn w a L → BwIn w b L → Calls Try.prog 53 #[.slice a L.length ca, .slice b L.length cb] w fun e w' => e = .returned (.bool true) ∧ Below w.heap.size w w'
set_option maxHeartbeats 8000000 in
theorem eqBs {L : List Bw} (hn : L.length ≤ 8) (hf : ∀ b ∈ L, b.Fin) : EqBs L := ⟨fun w a b ca cb h1 h2 => by
  have R1 := Lib.hid h1
  have R2 := Lib.hid h2
  have HF := Lib.hid hf
  obtain ⟨N, hN⟩ : ∃ N, N = L.length := ⟨_, rfl⟩
  have HN := Lib.hid hN
  rw [← hN] at hn ⊢
  clear h1 h2 hf hN
  go_enter Try.func53, Try.ntmps53
  go_wp2_with fail
  go_loopw [13] (fun i wr => ∃ j : Nat, j ≤ N ∧ i = .int .i64 j ∧ Below w.heap.size w wr) (fun i _ => N - (intOf i).toNat)
  case atStart => exact ⟨0, by omega, rfl, Below.refl _ _⟩
  case round =>
    obtain ⟨j, hj, rfl, hbel⟩ := hrel
    by_cases hlt : j < N
    · rcases R1.out with hnil | ⟨g, rfl, hr1⟩
      · exfalso; have := HN.out; rw [hnil] at this; simp at this; omega
      rcases R2.out with hnil | ⟨k, rfl, hr2⟩
      · exfalso; have := HN.out; rw [hnil] at this; simp at this; omega
      obtain ⟨c0, c1⟩ := hr1.below hbel j (by have := HN.out; omega)
      obtain ⟨d0, d1⟩ := hr2.below hbel j (by have := HN.out; omega)
      have op := fun w => run_eq_bead (HF.out (L.getD j default) (getD_mem (by have := HN.out; omega))) w
      generalize L.getD j default = s at *
      have hj0 : (0 : Int) ≤ (j : Int) := by omega
      have hj1 : (j : Int) < (N : Int) := by omega
      clear hr1 hr2
      go_wp2_with fail
      go_quiet (fail)
      go_wp2
      have hds := hbel.size
      go_roundw
      case rel => exact ⟨j + 1, by omega, by go_num, hbel.trans (below_draws _ _ _)⟩
      case measure => simp [intOf]; omega
    · have hjm : j = N := by omega
      subst hjm
      go_wp2
      go_ret
      exact ⟨rfl, hbel⟩⟩
structure SameT (kind : Int) (g1 g2 ls N : Nat) (L : List Bw) : Prop where
  call : ∀ (w : World) (a b : Option Addr) (ca cb : Nat), BwIn w a L → BwIn w b L → Calls Try.prog 18 #[.agg #[.int .i64 kind, .complex .f32 g1 g2, .float .f32 ls, .slice a N ca], .agg #[.int .i64 kind, .complex .f32 g1 g2, .float .f32 ls, .slice b N cb]] w fun e w' => e = .returned (.bool true) ∧ Below w.heap.size w w'
set_option maxHeartbeats 8000000 in
theorem sameT {kind : Int} {g1 g2 ls N : Nat} {L : List Bw} (hL : L.length = N) (hn : N ≤ 8) (hf : ∀ b ∈ L, b.Fin) (f1 : Fin32 g1) (f2 : Fin32 g2) (f3 : Fin32 ls) : SameT kind g1 g2 ls N L := ⟨fun w a b ca cb h1 h2 => by
  have E := (eqBs (L := L) (by omega) hf).call
  rw [hL] at E
  have HE := Lib.hid E
  have e1 := order_self f1
  have e2 := order_self f2
  have e3 := order_self f3
  have R1 : Hid (BwIn ((w.alloc (.cells #[.int .i64 kind, .complex .f32 g1 g2, .float .f32 ls, .slice a N ca] 39)).alloc (.cells #[.int .i64 kind, .complex .f32 g1 g2, .float .f32 ls, .slice b N cb] 39)) a L) := h1.alloc.alloc
  have R2 : Hid (BwIn ((w.alloc (.cells #[.int .i64 kind, .complex .f32 g1 g2, .float .f32 ls, .slice a N ca] 39)).alloc (.cells #[.int .i64 kind, .complex .f32 g1 g2, .float .f32 ls, .slice b N cb] 39)) b L) := h2.alloc.alloc
  have hop : ∀ w, (binOp .eql 36 (.complex .f32 g1 g2) (.complex .f32 g1 g2)).run Try.prog w = .ok (.bool true) w := fun w => by rw [run_eql_complex, e1, e2]; rfl
  clear h1 h2 hf f1 f2 f3 e1 e2 E hL
  go_enter Try.func18, Try.ntmps18
  go_wp2_with (simp only [hop])
  refine (HE.out _ _ _ _ _ R1.out R2.out).mono ?_
  rintro e w2 ⟨rfl, hb⟩
  have HB := Lib.hid hb
  clear hb
  go_wp2
  go_ret
  exact ⟨rfl, by have hb := HB.out; (repeat' (first | (with_reducible exact Below.refl _ _) | (with_reducible assumption) | (with_reducible refine Below.alloc ?_ ?_ _) | (with_reducible refine Below.drew ?_) | (with_reducible refine Below.setCell ?_ ?_ _) | (with_reducible refine Below.trans ?_ (Below.mono (by assumption) ?_)) | (with_reducible exact Nat.le_refl _) | omega | (simp only [World.size_alloc, World.size_setCell, World.size_drew]; omega) | (simp; omega) | (simp; done)))⟩⟩
end Go.Proofs.Ytekkgpanmccdgaa
