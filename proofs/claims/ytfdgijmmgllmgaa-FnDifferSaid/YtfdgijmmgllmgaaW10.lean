/-
  Texts Dgen Cop Cdr Me, joined.
-/
import Derived.Test.YtfdgijmmgllmgaaW01
import Derived.Test.YtfdgijmmgllmgaaW07
import Derived.Test.YtfdgijmmgllmgaaW09
import Derived.Deep.RegionLaw
import Derived.Deep.AppendLies
namespace Go.Proofs.Ytfdgijmmgllmgaa
open Go.ChangeShapes Go.WideShapes Go.ChangeAt Go.RowKit Go.Joins 
set_option linter.unusedSimpArgs false
set_option linter.unusedVariables false
set_option maxRecDepth 100000
structure OnceDrawn (B q : Nat) (w : World) (e : Ending) (w' : World) (t : Bool) : Prop where
  ret : e = .returned (.bool t)
  cur : Cur B w' q
  grown : w.grownBy w' (some q)
theorem l1Once_s (B q : Nat) (n : Int) (w : World) (hcur : Cur B w q) (h1 : 1 ≤ n) (h2 : n ≤ 256) :
    Calls Try.prog 60 #[.pointer (some ⟨q, 0, Option.none⟩), .int .i64 n] w fun e w' => ∃ t : Bool, OnceDrawn B q w e w' t := by
  have HC : Hid (Cur B w q) := hcur
  clear hcur
  go_enter Try.func60, Try.ntmps60
  go_wp2_with fail
  refine (l1Below_s B q n _ HC.out h1 h2).mono ?_
  rintro e w1 ⟨x, rfl, hx0, hx1, hc1, hg1⟩
  have HC1 : Hid (Cur B w1 q) := hc1
  have HG1 : Hid (w.grownBy w1 (some q)) := hg1
  clear hc1 hg1
  go_wp2
  go_ret
  exact ⟨_, rfl, HC1.out, HG1.out⟩
end Go.Proofs.Ytfdgijmmgllmgaa
namespace Go.Proofs.Ytfdgijmmgllmgaa
open Ieee
def pm (x : Nat) : Nat := magOf F32 (rungOf F32 x)
theorem mag_one : magOf F32 1065353216 = 2 ^ 149 := by decide +kernel
theorem Part.rung {x : Nat} (h : Part x) : rungOf F32 x ≤ 1065353216 := by
  rcases h with h | h
  · rw [rung_of_lt (by omega)]; exact h
  · subst h; unfold rungOf; rw [F32_sw]; decide
theorem Part.pm_le {x : Nat} (h : Part x) : pm x ≤ 2 ^ 149 := by
  rw [← mag_one]; exact magOf_le F32 h.rung
theorem Part.neg {x : Nat} (h : Part x) : negOf F32 x = true → rungOf F32 x = 0 := by
  intro hn
  rcases h with h | h
  · rw [neg_of_lt (by omega)] at hn; cases hn
  · subst h; unfold rungOf; rw [F32_sw]
theorem Part.val {x : Nat} (h : Part x) : valOf F32 x = (pm x : Int) := by
  unfold valOf pm
  cases hn : negOf F32 x
  · rfl
  · rw [h.neg hn, magOf_zero]; rfl
theorem Part.order {a b : Nat} (ha : Part a) (hb : Part b) : F32.order a b = some (compare (pm a : Int) (pm b : Int)) := by
  rw [order_fin F32 ha.fin hb.fin, ha.val, hb.val]
theorem pm_word {r : Nat} (h : r < 2147483648) : pm r = magOf F32 r := by unfold pm; rw [rung_of_lt h]
theorem part_of_le {x : Nat} (h : x ≤ 1065353216) : Part x := Or.inl h
def opB (o : Option Nat) : Nat := match o with | some r => cleanB r | none => 0
def mulB (a b : Nat) : Nat := opB (F32.mul a b)
def subB (a b : Nat) : Nat := opB (F32.sub a b)
theorem clean_word (s : Bool) {r : Nat} (h : r < 2139095040) : cleanB (F32.word s r) = if r = 0 then 0 else F32.word s r := by
  rw [clean_eq (fin_word s h), rungOf_word F32 s (by rw [F32_sw]; omega)]
theorem mul_part {a b : Nat} (ha : Part a) (hb : Part b) :
    ∃ r, F32.mul a b = some r ∧ Fin32 r ∧ cleanB r = rn F32 (pm a * pm b) 149 ∧ rn F32 (pm a * pm b) 149 ≤ rungOf F32 a ∧ rn F32 (pm a * pm b) 149 ≤ rungOf F32 b := by
  have e := mul_fin F32 (q := 149) F32_lp ha.fin hb.fin
  have hN : pm a * pm b ≤ magOf F32 (rungOf F32 a) * 2 ^ 149 := Nat.mul_le_mul_left _ hb.pm_le
  have hN2 : pm a * pm b ≤ magOf F32 (rungOf F32 b) * 2 ^ 149 := by rw [Nat.mul_comm]; exact Nat.mul_le_mul_left _ ha.pm_le
  have hra := ha.rung
  obtain ⟨e1, l1⟩ := roundMul_eq 149 (negOf F32 a ^^ negOf F32 b) (pm a * pm b) (R := rungOf F32 a) (by omega) hN
  have l2 : rn F32 (pm a * pm b) 149 ≤ rungOf F32 b := rn_le F32 hN2
  refine ⟨_, e, ?_, ?_, l1, l2⟩
  · show Fin32 (roundMul F32 149 (negOf F32 a ^^ negOf F32 b) (pm a * pm b))
    rw [e1]; exact fin_word _ (by omega)
  · show cleanB (roundMul F32 149 (negOf F32 a ^^ negOf F32 b) (pm a * pm b)) = _
    rw [e1, clean_word _ (by omega)]
    by_cases h0 : rn F32 (pm a * pm b) 149 = 0
    · rw [if_pos h0, h0]
    · rw [if_neg h0]
      cases hs : (negOf F32 a ^^ negOf F32 b)
      · rfl
      · exfalso; apply h0
        have : pm a * pm b = 0 := by
          unfold pm
          cases na : negOf F32 a
          · cases nb : negOf F32 b
            · rw [na, nb] at hs; cases hs
            · rw [hb.neg nb, magOf_zero, Nat.mul_zero]
          · rw [ha.neg na, magOf_zero, Nat.zero_mul]
        rw [this, rn_zero]
theorem mulB_part {a b : Nat} (ha : Part a) (hb : Part b) : mulB a b = rn F32 (pm a * pm b) 149 ∧ mulB a b ≤ rungOf F32 a ∧ mulB a b ≤ rungOf F32 b := by
  obtain ⟨r, e, _, e1, l1, l2⟩ := mul_part ha hb
  unfold mulB; rw [e]
  show cleanB r = _ ∧ cleanB r ≤ _ ∧ cleanB r ≤ _
  rw [e1]; exact ⟨rfl, l1, l2⟩
theorem Part.mul {a b : Nat} (ha : Part a) (hb : Part b) : Part (mulB a b) := part_of_le (by have := (mulB_part ha hb).2.1; have := ha.rung; omega)
theorem sub_part {a b : Nat} (ha : Part a) (hb : Part b) : ∃ r, F32.sub a b = some r ∧ Fin32 r ∧
    (pm b ≤ pm a → cleanB r = rn F32 (pm a - pm b) 0 ∧ rn F32 (pm a - pm b) 0 ≤ rungOf F32 a) := by
  have e := sub_fin F32 ha.fin hb.fin
  rw [ha.val, hb.val] at e
  have h1 := ha.pm_le
  have h2 := hb.pm_le
  have hra := ha.rung
  obtain ⟨e1, l1⟩ := roundTo_eq (negOf F32 a && !negOf F32 b) ((pm a : Int) - (pm b : Int)) (R := 1065353216) (by omega) (by rw [mag_one]; omega)
  rw [e1] at e
  refine ⟨_, e, fin_word _ (by omega), fun hle => ?_⟩
  have hn : ((pm a : Int) - (pm b : Int)).natAbs = pm a - pm b := by omega
  rw [hn]
  have l2 : rn F32 (pm a - pm b) 0 ≤ rungOf F32 a := rn_le F32 (by rw [Nat.pow_zero, Nat.mul_one]; exact Nat.sub_le _ _)
  refine ⟨?_, l2⟩
  rw [clean_word _ (by omega)]
  by_cases h0 : rn F32 (pm a - pm b) 0 = 0
  · rw [if_pos h0, h0]
  · rw [if_neg h0]
    have hT : ¬ ((pm a : Int) - (pm b : Int)) = 0 := by
      intro h; apply h0
      have : pm a - pm b = 0 := by omega
      rw [this, rn_zero]
    have hT2 : ¬ ((pm a : Int) - (pm b : Int)) < 0 := by omega
    rw [if_neg hT, decide_eq_false hT2]; rfl
theorem subB_part {a b : Nat} (ha : Part a) (hb : Part b) (h : pm b ≤ pm a) : subB a b = rn F32 (pm a - pm b) 0 ∧ subB a b ≤ rungOf F32 a := by
  obtain ⟨r, e, _, e1⟩ := sub_part ha hb
  unfold subB; rw [e]
  show cleanB r = _ ∧ cleanB r ≤ _
  rw [(e1 h).1]; exact ⟨rfl, (e1 h).2⟩
theorem Part.sub {a b : Nat} (ha : Part a) (hb : Part b) (h : pm b ≤ pm a) : Part (subB a b) := part_of_le (by have := (subB_part ha hb h).2; have := ha.rung; omega)
end Go.Proofs.Ytfdgijmmgllmgaa
namespace Go.Proofs.Ytfdgijmmgllmgaa
open Go.ChangeShapes Go.WideShapes Go.ChangeAt Go.RowKit Go.Joins
set_option linter.unusedSimpArgs false
set_option linter.unusedVariables false
set_option maxRecDepth 100000
attribute [local go_sem] store_f
open Ieee
structure PartDrawn (B q : Nat) (w : World) (e : Ending) (w' : World) (x : Nat) : Prop where
  ret : e = .returned (.float .f32 x)
  le : x ≤ 1065353216
  cur : Cur B w' q
  grown : w.grownBy w' (some q)
def centB (n : Nat) : Nat := match FloatKind.f32.format.div (floatOfInt .f32 n) 1120403456 with | some r => r | none => 0
theorem cents : ∀ n : Nat, n < 101 → FloatKind.f32.format.div (floatOfInt .f32 n) 1120403456 = some (centB n) ∧ centB n ≤ 1065353216 := by decide +kernel
set_option maxHeartbeats 1000000 in
theorem l2One_s (B q : Nat) (w : World) (hcur : Cur B w q) :
    Calls Try.prog 93 #[.pointer (some ⟨q, 0, Option.none⟩)] w fun e w' => ∃ x : Nat, PartDrawn B q w e w' x := by
  have HC : Hid (Cur B w q) := hcur
  clear hcur
  go_enter Try.func93, Try.ntmps93
  go_wp2_with fail
  refine (l1Once_s B q 3 _ HC.out (by omega) (by omega)).mono ?_
  rintro e w1 ⟨t, ⟨rfl, hc1, hg1⟩⟩
  have HC1 : Hid (Cur B w1 q) := hc1
  have HG1 : Hid (w.grownBy w1 (some q)) := hg1
  have s1 := hg1.size
  clear hc1 hg1
  cases t
  · go_wp2_with fail
    refine (l1Below_s B q 101 _ HC1.out (by omega) (by omega)).mono ?_
    rintro e w2 ⟨x, rfl, hx0, hx1, hc2, hg2⟩
    have HC2 : Hid (Cur B w2 q) := hc2
    have HG2 : Hid (w1.grownBy w2 (some q)) := hg2
    clear hc2 hg2
    obtain ⟨n, rfl⟩ : ∃ n : Nat, x = n := ⟨x.toNat, by omega⟩
    have hn : n < 101 := by omega
    have hop := fun t W => run_float_arith (P := Try.prog) W .quo t .f32 (floatOfInt .f32 n) 1120403456 _ (cents n hn).1
    have hle : Hid (centB n ≤ 1065353216) := (cents n hn).2
    generalize centB n = y at hop hle
    clear hx0 hx1
    go_wp2_with (simp only [hop])
    go_ret
    exact ⟨y, rfl, hle.out, HC2.out, grownBy_trans HG1.out HG2.out⟩
  · have hqlt := HC1.out.lt
    go_wp2_with fail
    have HA : Hid (Cur B (w1.alloc (.cells #[.float .f32 0, .float .f32 1065353216, .float .f32 1056964608, .float .f32 1048576000] 30)) q) := HC1.out.alloc
    have HK : Hid (Blk (w1.alloc (.cells #[.float .f32 0, .float .f32 1065353216, .float .f32 1056964608, .float .f32 1048576000] 30)) w1.heap.size #[.float .f32 0, .float .f32 1065353216, .float .f32 1056964608, .float .f32 1048576000] 30) := Blk.new _ _ _
    refine (l1Below_s B q 4 _ HA.out (by omega) (by omega)).mono ?_
    rintro e w2 ⟨x, rfl, hx0, hx1, hc2, hg2⟩
    have HB2 := HK.out.grown hg2 (by omega)
    have HC2 : Hid (Cur B w2 q) := hc2
    have HG2 : Hid (w.grownBy w2 (some q)) := grownBy_trans (grown_alloc HG1.out _) hg2
    have l2 := HB2.lt
    have d0 := Blk.cellAt (i := 0) HB2 rfl
    have d1 := Blk.cellAt (i := 1) HB2 rfl
    have d2 := Blk.cellAt (i := 2) HB2 rfl
    have d3 := Blk.cellAt (i := 3) HB2 rfl
    simp at d0 d1 d2 d3
    clear hc2 hg2 HB2
    rcases (by omega : x = 0 ∨ x = 1 ∨ x = 2 ∨ x = 3) with rfl | rfl | rfl | rfl
    all_goals
      go_wp2
      go_ret
      exact ⟨_, rfl, by omega, HC2.out, HG2.out⟩
structure ColDrawn (B q : Nat) (w : World) (e : Ending) (w' : World) (r g b : Nat) : Prop where
  ret : e = .returned (.agg #[.float .f32 r, .float .f32 g, .float .f32 b])
  lr : r ≤ 1065353216
  lg : g ≤ 1065353216
  lb : b ≤ 1065353216
  cur : Cur B w' q
  grown : w.grownBy w' (some q)
set_option maxHeartbeats 1000000 in
theorem l2Draw_s (B q : Nat) (w : World) (hcur : Cur B w q) :
    Calls Try.prog 58 #[.pointer (some ⟨q, 0, Option.none⟩)] w fun e w' => ∃ r g b : Nat, ColDrawn B q w e w' r g b := by
  have HC : Hid (Cur B w q) := hcur
  have hq := hcur.lt
  clear hcur
  go_enter Try.func58, Try.ntmps58
  go_wp2_with fail
  have HA : Hid (Cur B (w.alloc (.cells #[.float .f32 0, .float .f32 0, .float .f32 0] 47)) q) := HC.out.alloc
  have HK : Hid (Blk (w.alloc (.cells #[.float .f32 0, .float .f32 0, .float .f32 0] 47)) w.heap.size #[.float .f32 0, .float .f32 0, .float .f32 0] 47) := Blk.new _ _ _
  refine (l2One_s B q _ HA.out).mono ?_
  rintro e w1 ⟨r, ⟨rfl, lr, hc1, hg1⟩⟩
  have K1 : Hid (Blk w1 w.heap.size #[.float .f32 0, .float .f32 0, .float .f32 0] 47) := HK.out.grown hg1 (by omega)
  have C1 : Hid (Cur B w1 q) := hc1
  have G1 : Hid (w.grownBy w1 (some q)) := grownBy_trans (grown_alloc (grownBy_refl _ _) _) hg1
  clear hc1 hg1
  go_wp2_with fail
  refine (l2One_s B q _ C1.out).mono ?_
  rintro e w2 ⟨g, ⟨rfl, lg, hc2, hg2⟩⟩
  have K2 : Hid (Blk w2 w.heap.size #[.float .f32 0, .float .f32 0, .float .f32 0] 47) := K1.out.grown hg2 (by omega)
  have C2 : Hid (Cur B w2 q) := hc2
  have G2 : Hid (w.grownBy w2 (some q)) := grownBy_trans G1.out hg2
  clear hc2 hg2
  go_wp2_with fail
  refine (l2One_s B q _ C2.out).mono ?_
  rintro e w3 ⟨b, ⟨rfl, lb, hc3, hg3⟩⟩
  have HB3 := K2.out.grown hg3 (by omega)
  have C3 : Hid (Cur B w3 q) := hc3
  have G3 : Hid (w.grownBy w3 (some q)) := grownBy_trans G2.out hg3
  clear hc3 hg3
  have l3 := HB3.lt
  have d0 := Blk.cellAt (i := 0) HB3 rfl
  have d1 := Blk.cellAt (i := 1) HB3 rfl
  have d2 := Blk.cellAt (i := 2) HB3 rfl
  have f0 := Blk.freeAt (i := 0) HB3
  have f1 := Blk.freeAt (i := 1) HB3
  have f2 := Blk.freeAt (i := 2) HB3
  simp at d0 d1 d2
  have K3 : Hid (Blk w3 w.heap.size #[.float .f32 0, .float .f32 0, .float .f32 0] 47) := HB3
  clear HB3
  have LR : Hid (r ≤ 1065353216) := lr
  have LG : Hid (g ≤ 1065353216) := lg
  have LB : Hid (b ≤ 1065353216) := lb
  clear lr lg lb
  go_wp2
  have e0 := (K3.out.set (i := 0) (v := .float .f32 r)).cell 0
  have e1 := ((K3.out.set (i := 0) (v := .float .f32 r)).set (i := 1) (v := .float .f32 g)).cell 1
  have e2 := (((K3.out.set (i := 0) (v := .float .f32 r)).set (i := 1) (v := .float .f32 g)).set (i := 2) (v := .float .f32 b)).cell 2
  simp only [List.setIfInBounds_toArray, List.set_cons_zero, List.set_cons_succ, List.getElem?_toArray, List.getElem?_cons_zero, List.getElem?_cons_succ] at e0 e1 e2
  have CF : Cur B (((w3.setCell ⟨w.heap.size, 0, Option.none⟩ (.float .f32 r)).setCell ⟨w.heap.size, 1, Option.none⟩ (.float .f32 g)).setCell ⟨w.heap.size, 2, Option.none⟩ (.float .f32 b)) q := by
    have h := C3.out
    have hB := h.ge
    obtain ⟨a, len, cap, bs, i, hh, h1, h2, h3, h4, h5⟩ := h
    exact ⟨a, len, cap, bs, i, hh, ((h1.other (by dsimp only; omega)).other (by dsimp only; omega)).other (by dsimp only; omega), h2, h3, h4.of (by
      have h6 : Below B w3 w3 := Below.refl _ _
      exact Below.setCell (Below.setCell (Below.setCell h6 (by dsimp only; omega) _) (by dsimp only; omega) _) (by dsimp only; omega) _), h5⟩
  have GF : w.grownBy (((w3.setCell ⟨w.heap.size, 0, Option.none⟩ (.float .f32 r)).setCell ⟨w.heap.size, 1, Option.none⟩ (.float .f32 g)).setCell ⟨w.heap.size, 2, Option.none⟩ (.float .f32 b)) (some q) :=
    grown_setNew (grown_setNew (grown_setNew G3.out (Nat.le_refl _) _) (Nat.le_refl _) _) (Nat.le_refl _) _
  exact bodyPost_ret (v := .agg #[.float .f32 r, .float .f32 g, .float .f32 b]) (by simp [results, Try.results58, go_sem, e0, e1, e2]) rfl ⟨r, g, b, rfl, LR.out, LG.out, LB.out, CF, GF⟩
end Go.Proofs.Ytfdgijmmgllmgaa
namespace Go.Proofs.Ytfdgijmmgllmgaa
open Go.ChangeShapes Go.WideShapes Go.ChangeAt Go.RowKit Go.Joins
set_option linter.unusedSimpArgs false
set_option linter.unusedVariables false
set_option maxRecDepth 100000
attribute [local go_sem] store_f
open Ieee
theorem owns_gr {W w1 : World} {base : Nat} {e : TypeId} {size : Nat} {v : Value} {n : Nat} {xs : List Value} {q : Nat} (hg : W.grownBy w1 (some q)) (hq : q < base) (h : W.ownsRow base e size v n xs) : w1.ownsRow base e size v n xs := by
  obtain ⟨h1, h2⟩ := h
  refine ⟨h1, ?_⟩
  rcases h2 with h2 | ⟨g, cap, cur, e1, e2, e3, e4⟩
  · exact .inl h2
  · refine .inr ⟨g, cap, cur, e1, e2, ?_, e4⟩
    rw [hg.block g (Array.getElem?_eq_some_iff.1 e3).1 (fun e => by cases e; omega)]
    exact e3
theorem Cur.below_at {W w1 : World} {B q N : Nat} (h : Cur B W q) (hb : Below N W w1) (hq : q < N) : Cur B w1 q := by
  obtain ⟨a, len, cap, bs, i, hh, h1, h2, h3, h4, h5⟩ := h
  exact ⟨a, len, cap, bs, i, hh, (hb.block q hq).trans h1, h2, h3, h4.of (hb.mono (by omega)), h5⟩
theorem grown_st {w w1 w2 : World} {q : Nat} {r : Option Nat} (h : w.grownBy w1 (some q)) (k : w1.grownBy w2 r) (hr : ∀ x, r = some x → w.heap.size ≤ x) : w.grownBy w2 (some q) :=
  ⟨k.os.trans h.os, k.tape.trans h.tape, k.output.trans h.output, Nat.le_trans h.size k.size, fun i hi hne => (k.block i (Nat.lt_of_lt_of_le hi h.size) (fun e => by have := hr i e.symm; omega)).trans (h.block i hi hne)⟩
theorem grown_below {w w1 w2 : World} {q N : Nat} (h : w.grownBy w1 (some q)) (k : Below N w1 w2) (hN : w.heap.size ≤ N) : w.grownBy w2 (some q) :=
  ⟨k.os.trans h.os, k.tape.trans h.tape, k.output.trans h.output, Nat.le_trans h.size k.size, fun i hi hne => (k.block i (by omega)).trans (h.block i hi hne)⟩
structure FiveDrawn (B q : Nat) (w : World) (e : Ending) (w' : World) (m : Nat) : Prop where
  ret : e = .returned (.int .i64 m)
  ge : 1 ≤ m
  le : m ≤ 5
  cur : Cur B w' q
  grown : w.grownBy w' (some q)
set_option maxHeartbeats 1000000 in
theorem some_5 (B q : Nat) (w : World) (hcur : Cur B w q) :
    Calls Try.prog 57 #[.pointer (some ⟨q, 0, Option.none⟩), .int .i64 1, .int .i64 5] w fun e w' => ∃ m, FiveDrawn B q w e w' m := by
  have HC : Hid (Cur B w q) := hcur
  clear hcur
  go_enter Try.func57, Try.ntmps57
  go_wp2_with fail
  refine (l1Below_s B q 5 _ HC.out (by omega) (by omega)).mono ?_
  rintro e w1 ⟨x, rfl, hx0, hx1, hc1, hg1⟩
  obtain ⟨n, rfl⟩ : ∃ n : Nat, x = n := ⟨x.toNat, by omega⟩
  have HC1 : Hid (Cur B w1 q) := hc1
  have HG1 : Hid (w.grownBy w1 (some q)) := hg1
  have hn : n < 5 := by omega
  clear hc1 hg1
  go_wp2
  go_ret
  exact ⟨n + 1, by first | rfl | (simp; omega), by omega, by omega, HC1.out, HG1.out⟩
def Oks (l : List Lit) : Prop := ∀ c ∈ l, c.Ok
theorem isB_ok {c : Lit} (h : c.Ok) : c.isB = true := by
  have e1 := part_share (x := c.r) (.inl h.r)
  have e2 := part_share (x := c.g) (.inl h.g)
  have e3 := part_share (x := c.b) (.inl h.b)
  unfold Lit.isB colB
  rw [e1, e2, e3]; rfl
theorem picB_ok {n : Nat} {l : List Lit} (h1 : 1 ≤ n) (h8 : n ≤ 8) (hl : l.length = n * n) (hok : Oks l) : picB n l = true := by
  unfold picB
  have e1 : sizeB (n : Int) = true := by unfold sizeB; simp; omega
  have e2 : ((l.length : Nat) : Int) = (n : Int) * n := by rw [hl]; simp
  have e3 : l.all Lit.isB = true := List.all_eq_true.2 fun c hc => isB_ok (hok c hc)
  rw [e1, e3, e2]; simp
theorem oks_spread {kind : Int} {n : Nat} {l : List Lit} (hl : l.length = n * n) (hok : Oks l) : Oks (spreadCols kind n l) := by
  intro c hc
  unfold spreadCols colsTo at hc
  obtain ⟨k, hk, rfl⟩ := List.mem_map.1 hc
  have h1 := leastL_le n k (symsTo kind 8)
  have h2 := List.mem_range.1 hk
  have h3 : leastN kind n k < l.length := by unfold leastN; omega
  exact hok _ (by simp [List.getD, h3])
theorem owns_room {W : World} {B n g c size : Nat} {t : TypeId} {xs : List Value} (h : W.ownsRow B t size (.slice (some ⟨g, 0, Option.none⟩) n c) n xs) : n ≤ c := by
  rcases h.2 with ⟨e, _⟩ | ⟨g', cap, cur, e, _, _, hle, _⟩
  · simp at e
  · simp only [Value.slice.injEq] at e
    omega
structure PicDrawn (B q : Nat) (w : World) (e : Ending) (w' : World) (n : Nat) (l : List Lit) : Prop where
  ret : ∃ g cap, e = .returned (.agg #[.int .i64 n, .slice (some ⟨g, 0, Option.none⟩) l.length cap]) ∧ w.heap.size ≤ g ∧ g < w'.heap.size ∧ LitRow w' g 0 l ∧ l.length ≤ cap
  ge : 1 ≤ n
  le : n ≤ 5
  len : l.length = n * n
  ok : Oks l
  cur : Cur B w' q
  grown : w.grownBy w' (some q)
set_option maxHeartbeats 16000000 in
theorem l4Draw_s (B q : Nat) (w : World) (hcur : Cur B w q) :
    Calls Try.prog 26 #[.pointer (some ⟨q, 0, Option.none⟩)] w fun e w' => ∃ n l, PicDrawn B q w e w' n l := by
  obtain ⟨i0, hi, hz0, hz1, hz2⟩ := info_parts infoC
  have HC : Hid (Cur B w q) := hcur
  have hq := hcur.lt
  clear hcur
  go_enter Try.func26, Try.ntmps26
  go_wp2_with fail
  have C0 : Hid (Cur B (w.alloc (.cells #[.int .i64 0, .slice Option.none 0 0] 26)) q) := HC.out.alloc
  have R0 : Hid (Blk (w.alloc (.cells #[.int .i64 0, .slice Option.none 0 0] 26)) w.heap.size #[.int .i64 0, .slice Option.none 0 0] 26) := Blk.new _ _ _
  refine (some_5 B q _ C0.out).mono ?_
  rintro e w1 ⟨n, ⟨rfl, h1, h5, hc1, hg1⟩⟩
  have C1 : Hid (Cur B w1 q) := hc1
  have R1 : Hid (Blk w1 w.heap.size #[.int .i64 0, .slice Option.none 0 0] 26) := R0.out.grown hg1 (by omega)
  have G1 : Hid (w.grownBy w1 (some q)) := grownBy_trans (grown_alloc (grownBy_refl _ _) _) hg1
  have s1 : w.heap.size + 1 ≤ w1.heap.size := by have := hg1.size; simpa using this
  clear hc1 hg1 C0 R0 HC
  go_wp2_with fail
  obtain ⟨P, hP⟩ : ∃ P : Nat, P = w1.heap.size := ⟨_, rfl⟩
  generalize hV : w1.alloc (.cells #[.int .i64 n, .slice Option.none 0 0] 26) = V
  rw [← hP] at s1 ⊢
  have CV : Hid (Cur B V q) := by rw [← hV]; exact C1.out.alloc
  have RV : Hid (Blk V w.heap.size #[.int .i64 0, .slice Option.none 0 0] 26) := by rw [← hV]; exact R1.out.alloc
  have PV : Hid (Blk V P #[.int .i64 n, .slice Option.none 0 0] 26) := by rw [← hV]; exact Blk.newAt hP
  have GV : Hid (w.grownBy V (some q)) := by rw [← hV]; exact grown_alloc G1.out _
  have sV : V.heap.size = P + 1 := by rw [← hV, hP]; simp
  clear hV hP C1 R1 G1
  refine (l2Draw_s B q _ CV.out).mono ?_
  rintro e w2 ⟨r1, g1, b1, ⟨rfl, lr1, lg1, lb1, hc2, hg2⟩⟩
  have C2 : Hid (Cur B w2 q) := hc2
  have R2 : Hid (Blk w2 w.heap.size #[.int .i64 0, .slice Option.none 0 0] 26) := RV.out.grown hg2 (by omega)
  have P2 : Hid (Blk w2 P #[.int .i64 n, .slice Option.none 0 0] 26) := PV.out.grown hg2 (by omega)
  have G2 : Hid (w.grownBy w2 (some q)) := grownBy_trans GV.out hg2
  have s2 : P + 1 ≤ w2.heap.size := by have := hg2.size; omega
  clear hc2 hg2 CV RV PV GV sV
  go_wp2_with fail
  refine (l2Draw_s B q _ C2.out).mono ?_
  rintro e w3 ⟨r2, g2, b2, ⟨rfl, lr2, lg2, lb2, hc3, hg3⟩⟩
  have C3 : Hid (Cur B w3 q) := hc3
  have R3 : Hid (Blk w3 w.heap.size #[.int .i64 0, .slice Option.none 0 0] 26) := R2.out.grown hg3 (by omega)
  have P3 : Hid (Blk w3 P #[.int .i64 n, .slice Option.none 0 0] 26) := P2.out.grown hg3 (by omega)
  have G3 : Hid (w.grownBy w3 (some q)) := grownBy_trans G2.out hg3
  have s3 : P + 1 ≤ w3.heap.size := by have := hg3.size; omega
  clear hc3 hg3 C2 R2 P2 G2 s2
  go_wp2_with fail
  obtain ⟨F, hF⟩ : ∃ F : Nat, F = w3.heap.size := ⟨_, rfl⟩
  generalize hV : w3.alloc (.cells #[.float .f32 r1, .float .f32 g1, .float .f32 b1, .float .f32 r2, .float .f32 g2, .float .f32 b2] 47) = V
  rw [← hF] at s3 ⊢
  obtain ⟨cs, hcs⟩ : ∃ cs : List Lit, cs = [⟨r1, g1, b1⟩, ⟨r2, g2, b2⟩] := ⟨_, rfl⟩
  have HCS : Hid (∀ k, k < 2 → (cs.getD k default).Ok) := fun k hk => by
    rw [hcs]
    rcases (by omega : k = 0 ∨ k = 1) with rfl | rfl
    · exact ⟨lr1, lg1, lb1⟩
    · exact ⟨lr2, lg2, lb2⟩
  have HLC : Hid (cs.length = 2) := by rw [hcs]; exact rfl
  have CV : Cur B V q := by rw [← hV]; exact C3.out.alloc
  have RV : Blk V w.heap.size #[.int .i64 0, .slice Option.none 0 0] 26 := by rw [← hV]; exact R3.out.alloc
  have PV : Blk V P #[.int .i64 n, .slice Option.none 0 0] 26 := by rw [← hV]; exact P3.out.alloc
  have FV : LitRow V F 0 cs := by
    rw [← hV, hcs]
    have hk := Blk.newAt (W := w3) (cs := #[.float .f32 r1, .float .f32 g1, .float .f32 b1, .float .f32 r2, .float .f32 g2, .float .f32 b2]) (t := 47) hF
    intro k hk2
    rcases (by simp at hk2; omega : k = 0 ∨ k = 1) with rfl | rfl
    · exact ⟨hk.cellAt rfl, hk.cellAt rfl, hk.cellAt rfl⟩
    · exact ⟨hk.cellAt rfl, hk.cellAt rfl, hk.cellAt rfl⟩
  have GV : w.grownBy V (some q) := by rw [← hV]; exact grown_alloc G3.out _
  have sV : V.heap.size = F + 1 := by rw [← hV, hF]; simp
  clear hV hF hcs C3 R3 P3 G3 lr1 lg1 lb1 lr2 lg2 lb2
  obtain ⟨N, hN⟩ : ∃ N : Nat, N = n * n := ⟨_, rfl⟩
  have HN : Hid (N = n * n) := hN
  have hN25 : N ≤ 25 := by rw [hN]; exact Nat.le_trans (Nat.mul_le_mul h5 h5) (by omega)
  have hNN : (n : Int) * (n : Int) = (N : Int) := by rw [hN]; simp
  have h0 : 0 < N := by rw [hN]; exact Nat.mul_pos h1 h1
  have HNN : Hid ((n : Int) * (n : Int) = (N : Int)) := hNN
  clear hN hNN
  go_loopw [5] (fun i wr => ∃ l : List Lit, i = .int .i64 (l.length : Nat) ∧ l.length ≤ N ∧ Oks l ∧ (∃ v, Blk wr P #[.int .i64 n, v] 26 ∧ wr.ownsRow (F + 1) 47 3 v l.length (litCells l) ∧ (0 < l.length → v ≠ .slice Option.none 0 0)) ∧ Blk wr w.heap.size #[.int .i64 0, .slice Option.none 0 0] 26 ∧ LitRow wr F 0 cs ∧ F < wr.heap.size ∧ Cur B wr q ∧ w.grownBy wr (some q)) (fun i _ => N - (intOf i).toNat)
  case atStart => exact ⟨[], rfl, by simp, fun c hc => by simp at hc, ⟨_, PV, World.ownsRow_nil _ _ _ _, fun h => absurd h (by simp)⟩, RV, FV, by omega, CV, GV⟩
  case round =>
    obtain ⟨l, rfl, hlN, hok, ⟨v, hPb, hown, hnn⟩, hRb, hFr, hFl, hcu, hgr⟩ := hrel
    have HP : Hid (Blk wr P #[.int .i64 n, v] 26) := hPb
    have HO : Hid (wr.ownsRow (F + 1) 47 3 v l.length (litCells l)) := hown
    have HNIL : Hid (0 < l.length → v ≠ .slice Option.none 0 0) := hnn
    have HRB : Hid (Blk wr w.heap.size #[.int .i64 0, .slice Option.none 0 0] 26) := hRb
    have HFR : Hid (LitRow wr F 0 cs) := hFr
    have HCU : Hid (Cur B wr q) := hcu
    have HG : Hid (w.grownBy wr (some q)) := hgr
    have HOK : Hid (Oks l) := hok
    have d0 := Blk.cellAt (i := 0) hPb rfl
    have d1 := Blk.cellAt (i := 1) hPb rfl
    simp only [List.getElem_toArray, List.getElem_cons_zero, List.getElem_cons_succ] at d0 d1
    have hsw := hgr.size
    obtain ⟨j, hj⟩ : ∃ j : Nat, j = l.length := ⟨_, rfl⟩
    have HJ : Hid (j = l.length) := hj
    rw [← hj] at hlN ⊢
    have hNN := HNN.out
    clear hown hnn hRb hFr hcu hgr hok hPb CV RV PV FV GV sV hj
    by_cases hlt : j < N
    · go_wp2_with fail
      clear hNN
      go_region_law (first | (go_simp; (refine (l1Below_s B q 2 wr.drew (show Cur B wr.drew q from HCU.out) (by omega) (by omega)).mono ?_); rintro e w4 ⟨x, rfl, hx0, hx1, hc4, hg4⟩; obtain ⟨k, rfl⟩ : ∃ k : Nat, x = k := ⟨x.toNat, by omega⟩; have hk2 : k < 2 := (by omega); have hP4 := (Blk.drew HP.out).grown hg4 (by omega); have d2 := Blk.cellAt (i := 1) hP4 rfl; (simp only [List.getElem_toArray, List.getElem_cons_zero, List.getElem_cons_succ] at d2); have hF4 := LitRow.grown (LitRow.drew HFR.out) hg4 (fun e => by have e2 := Option.some.inj e; omega); obtain ⟨e0, e1, e2⟩ := hF4 k (by rw [HLC.out]; omega); have HSK : Hid ((cs.getD k default).Ok) := HCS.out k hk2; generalize cs.getD k default = s at e0 e1 e2 HSK; (simp only [Nat.zero_add] at e0 e1 e2); have d4 := cAlloc (o := .cells #[.float .f32 s.r, .float .f32 s.g, .float .f32 s.b] 47) d2; have hown2 := owns_gr hg4 (by omega) (World.ownsRow.drew HO.out); have hbs2 := hg4.size; (try simp only [World.size_drew] at hbs2)) | (refine step_append_lies _ (by rfl) _ _ _ (by rfl) (F + 1) 47 i0 _ 3 12 Try.underlying24 hi hz0 hz1 hz2 rfl (by omega) v l.length (litCells l) (by rfl) (hown2.alloc _) ⟨w4.heap.size, 0, Option.none⟩ 1 1 s.cells (by rfl) (by rfl) (World.news_of_block (cs := #[.float .f32 s.r, .float .f32 s.g, .float .f32 s.b]) (t := 47) (fr := (0, 0)) (heap_alloc_new w4 _)) (by simp [Lit.cells, Value.oneCell']) (by omega) (by have := HJ.out; unfold maxLen; omega) (by have := HJ.out; omega) (by simp; omega) (w4.heap.size + 1) (by simp) ?_; intro gg cap3 w5 hown3 hgrow hat hlt3; have hP5 : Blk w5 P #[.int .i64 n, v] 26 := (hgrow.block P (by simp; omega) (fun e => absurd (hown2.lt _ e.symm).1 (by omega))).trans (Blk.alloc hP4); have d3 := Blk.cellAt (i := 1) hP5 rfl; (simp only [List.getElem_toArray, List.getElem_cons_zero, List.getElem_cons_succ] at d3); have f3 := hP5.free 1; have hs3 := hgrow.size; (simp only [World.size_alloc] at hs3)))
      all_goals
        have hne : ∀ x, v.ownBlock = some x → F + 1 ≤ x := fun x hx => (hown2.lt x hx).1
        have HGW : w.grownBy w4 (some q) := grownBy_trans (⟨HG.out.os, HG.out.tape, HG.out.output, HG.out.size, HG.out.block⟩ : w.grownBy wr.drew (some q)) hg4
        have HP6 : Hid (Blk (w5.setCell ⟨P, 1, Option.none⟩ (.slice (some ⟨gg, 0, Option.none⟩) (l.length + 1) cap3)) P #[.int .i64 n, .slice (some ⟨gg, 0, Option.none⟩) (l.length + 1) cap3] 26) := Blk.setAt (b := P) rfl hP5 rfl
        have HR6 : Hid (Blk (w5.setCell ⟨P, 1, Option.none⟩ (.slice (some ⟨gg, 0, Option.none⟩) (l.length + 1) cap3)) w.heap.size #[.int .i64 0, .slice Option.none 0 0] 26) := Blk.other ((hgrow.block w.heap.size (by simp; omega) (fun e => absurd (hne _ e.symm) (by omega))).trans (Blk.alloc ((Blk.drew HRB.out).grown hg4 (by omega)))) (by dsimp only; omega)
        have HF6 : Hid (LitRow (w5.setCell ⟨P, 1, Option.none⟩ (.slice (some ⟨gg, 0, Option.none⟩) (l.length + 1) cap3)) F 0 cs) := LitRow.set (LitRow.grown (LitRow.alloc hF4) hgrow (fun e => absurd (hne _ e) (by omega))) (by dsimp only; omega)
        have HO6 : Hid ((w5.setCell ⟨P, 1, Option.none⟩ (.slice (some ⟨gg, 0, Option.none⟩) (l.length + 1) cap3)).ownsRow (F + 1) 47 3 (.slice (some ⟨gg, 0, Option.none⟩) (l.length + 1) cap3) (l.length + 1) (litCells l ++ s.cells)) := ownsSet hown3 (by dsimp only; omega)
        have hb5 : Below (F + 1) (w4.alloc (.cells #[.float .f32 s.r, .float .f32 s.g, .float .f32 s.b] 47)) w5 := Below.grown (Below.refl _ _) hgrow (by simp; omega) hne
        have HC6 : Hid (Cur B (w5.setCell ⟨P, 1, Option.none⟩ (.slice (some ⟨gg, 0, Option.none⟩) (l.length + 1) cap3)) q) := Cur.set (Cur.below_at (Cur.alloc hc4) hb5 (by omega)) (by dsimp only; omega)
        have HG6 : Hid (w.grownBy (w5.setCell ⟨P, 1, Option.none⟩ (.slice (some ⟨gg, 0, Option.none⟩) (l.length + 1) cap3)) (some q)) := grown_setNew (grown_st (grown_alloc HGW _) hgrow (fun x hx => by have := hne x hx; omega)) (by dsimp only; omega) _
        have HL6 : F < w5.heap.size := by omega
        clear hP5 hP4 d0 d1 d2 d3 d4 e0 e1 e2 f3 hown3 hown2 hgrow hg4 hc4 hat hs3 hbs2 hF4 hb5 HGW hne
        go_wp2
        go_roundw
        case rel => exact ⟨l ++ [s], by have := HJ.out; simp [this], by have := HJ.out; simp; omega, (fun c hc => by
          rcases List.mem_append.1 hc with h | h
          · exact HOK.out c h
          · simp at h; subst h; exact HSK.out), ⟨_, HP6.out, by simpa [litCells_snoc] using HO6.out, fun _ => by simp⟩, HR6.out, HF6.out, by simpa using HL6, HC6.out, HG6.out⟩
        case measure => simp [intOf]; omega
    · have hjm : j = N := by omega
      rcases ownsRow_forms HO.out with ⟨e, _⟩ | ⟨g, cp, rfl⟩
      · exact absurd e (HNIL.out (by have := HJ.out; omega))
      have hroom := owns_room HO.out
      have HROOM : Hid (l.length ≤ cp) := hroom
      clear hroom
      have hgl := HO.out.lt _ rfl
      dsimp only at hgl
      have HLR : Hid (LitRow wr g 0 l) := litRow_of HO.out rfl
      have HLN : Hid (l.length = n * n) := by rw [← HJ.out, hjm]; exact HN.out
      have hg0 : w.heap.size < g := by omega
      have hg1 : g < wr.heap.size := by omega
      have hw1 := HRB.out.lt
      clear hgl HO HNIL HFR hFl
      have hNN := HNN.out
      go_wp2_with fail
      clear hNN
      refine (l1Once_s B q 2 _ HCU.out (by omega) (by omega)).mono ?_
      rintro e w6 ⟨tt, ⟨rfl, hc6, hg6⟩⟩
      have HC6 : Hid (Cur B w6 q) := hc6
      have HP6 : Hid (Blk w6 P #[.int .i64 n, .slice (some ⟨g, 0, Option.none⟩) l.length cp] 26) := HP.out.grown hg6 (by omega)
      have HR6 : Hid (Blk w6 w.heap.size #[.int .i64 0, .slice Option.none 0 0] 26) := HRB.out.grown hg6 (by omega)
      have HL6 : Hid (LitRow w6 g 0 l) := HLR.out.grown hg6 (fun e => by have e2 := Option.some.inj e; omega)
      have HG6 : Hid (w.grownBy w6 (some q)) := grownBy_trans HG.out hg6
      have s6 : wr.heap.size ≤ w6.heap.size := hg6.size
      clear hc6 hg6 HCU HP HRB HLR HG d0 d1
      cases tt
      · have HPF := HP6
        have HRF := HR6
        have HLF := HL6
        have HCF := HC6
        have HGF := HG6
        have HLNF := HLN
        have HOKF := HOK
        clear HP6 HR6 HL6 HC6 HG6
        have p0 := Blk.cellAt (i := 0) HPF.out rfl
        have p1 := Blk.cellAt (i := 1) HPF.out rfl
        have r0 := Blk.cellAt (i := 0) HRF.out rfl
        have r1 := Blk.cellAt (i := 1) HRF.out rfl
        have f0 := HRF.out.free 0
        have f1 := HRF.out.free 1
        have lr := HRF.out.lt
        have lp := HPF.out.lt
        simp only [List.getElem_toArray, List.getElem_cons_zero, List.getElem_cons_succ] at p0 p1 r0 r1
        have RS := (HRF.out.set (i := 0) (v := .int .i64 n)).set (i := 1) (v := .slice (some ⟨g, 0, Option.none⟩) l.length cp)
        have e0 := RS.cell 0
        have e1 := RS.cell 1
        simp only [List.setIfInBounds_toArray, List.set_cons_zero, List.set_cons_succ, List.getElem?_toArray, List.getElem?_cons_zero, List.getElem?_cons_succ] at e0 e1
        have HE0 : Hid (((w6.setCell ⟨w.heap.size, 0, Option.none⟩ (.int .i64 n)).setCell ⟨w.heap.size, 1, Option.none⟩ (.slice (some ⟨g, 0, Option.none⟩) l.length cp)).cell? ⟨w.heap.size, 0, Option.none⟩ = some (.int .i64 n)) := e0
        have HE1 : Hid (((w6.setCell ⟨w.heap.size, 0, Option.none⟩ (.int .i64 n)).setCell ⟨w.heap.size, 1, Option.none⟩ (.slice (some ⟨g, 0, Option.none⟩) l.length cp)).cell? ⟨w.heap.size, 1, Option.none⟩ = some (.slice (some ⟨g, 0, Option.none⟩) l.length cp)) := e1
        have HLE : Hid (LitRow ((w6.setCell ⟨w.heap.size, 0, Option.none⟩ (.int .i64 n)).setCell ⟨w.heap.size, 1, Option.none⟩ (.slice (some ⟨g, 0, Option.none⟩) l.length cp)) g 0 l) := LitRow.set (LitRow.set HLF.out (by dsimp only; omega)) (by dsimp only; omega)
        have HCE : Hid (Cur B ((w6.setCell ⟨w.heap.size, 0, Option.none⟩ (.int .i64 n)).setCell ⟨w.heap.size, 1, Option.none⟩ (.slice (some ⟨g, 0, Option.none⟩) l.length cp)) q) := Cur.set (Cur.set HCF.out (by dsimp only; omega)) (by dsimp only; omega)
        have HGE : Hid (w.grownBy ((w6.setCell ⟨w.heap.size, 0, Option.none⟩ (.int .i64 n)).setCell ⟨w.heap.size, 1, Option.none⟩ (.slice (some ⟨g, 0, Option.none⟩) l.length cp)) (some q)) := grown_setNew (grown_setNew HGF.out (by dsimp only; omega) _) (by dsimp only; omega) _
        have HGL : Hid (g < ((w6.setCell ⟨w.heap.size, 0, Option.none⟩ (.int .i64 n)).setCell ⟨w.heap.size, 1, Option.none⟩ (.slice (some ⟨g, 0, Option.none⟩) l.length cp)).heap.size) := by show g < ((w6.setCell ⟨w.heap.size, 0, Option.none⟩ (.int .i64 n)).setCell ⟨w.heap.size, 1, Option.none⟩ (.slice (some ⟨g, 0, Option.none⟩) l.length cp)).heap.size; simp; omega
        clear RS e0 e1
        go_wp2
        have e0 := HE0.out
        have e1 := HE1.out
        exact bodyPost_ret (v := .agg #[.int .i64 n, .slice (some ⟨g, 0, Option.none⟩) l.length cp]) (by simp [results, Try.results26, go_sem, e0, e1]) rfl ⟨n, l, ⟨g, cp, rfl, by omega, HGL.out, HLE.out, HROOM.out⟩, h1, h5, HLNF.out, HOKF.out, HCE.out, HGE.out⟩
      · have HS : Hid (∀ kind : Nat, kind < 4 → SprS kind n (some ⟨g, 0, Option.none⟩) cp l (spreadCols kind n l)) := fun kind hk =>
          sprS (by unfold kindB; simp; omega) (picB_ok h1 (by omega) HLN.out HOK.out) (fun c hc => (HOK.out c hc).w)
        have HSL : Hid (∀ kind : Int, (spreadCols kind n l).length = n * n ∧ Oks (spreadCols kind n l)) := fun kind => ⟨by unfold spreadCols; rw [colsTo_len], oks_spread HLN.out HOK.out⟩
        have p0 := Blk.cellAt (i := 0) HP6.out rfl
        have p1 := Blk.cellAt (i := 1) HP6.out rfl
        simp only [List.getElem_toArray, List.getElem_cons_zero, List.getElem_cons_succ] at p0 p1
        have hlp := HP6.out.lt
        go_wp2_with fail
        go_region_law (first | (go_simp; (refine (l1Below_s B q 4 w6.drew (show Cur B w6.drew q from HC6.out) (by omega) (by omega)).mono ?_); rintro e w7 ⟨x, rfl, hx0, hx1, hc7, hg7⟩; obtain ⟨k, rfl⟩ : ∃ k : Nat, x = k := ⟨x.toNat, by omega⟩; have hk4 : k < 4 := (by omega); have hP7 := (Blk.drew HP6.out).grown hg7 (by omega); have d2 := Blk.cellAt (i := 0) hP7 rfl; have d3 := Blk.cellAt (i := 1) hP7 rfl; (simp only [List.getElem_toArray, List.getElem_cons_zero, List.getElem_cons_succ] at d2 d3); have hL7 := LitRow.grown (LitRow.drew HL6.out) hg7 (fun e => by have e2 := Option.some.inj e; omega); have K := HS.out k hk4; have KL : Hid _ := HSL.out k; (generalize spreadCols k n l = m at K KL); have hLA7 : LitsAt w7 (some ⟨g, 0, Option.none⟩) l := Or.inr ⟨g, 0, rfl, hL7⟩; have hbs7 := hg7.size; (try simp only [World.size_drew] at hbs7)) | (go_simp; (with_reducible refine (K.call _ hLA7).mono ?_); rintro e w8 ⟨⟨g8, cp8, ⟨rfl, hown8⟩⟩, hb8⟩; have hP8 := Blk.below hP7 hb8; have d5 := Blk.cellAt (i := 0) hP8 rfl; have d6 := Blk.cellAt (i := 1) hP8 rfl; (simp only [List.getElem_toArray, List.getElem_cons_zero, List.getElem_cons_succ] at d5 d6); have f5 := hP8.free 0; have f6 := hP8.free 1; have l8 := hP8.lt))
        all_goals
          have hs8 := hb8.size
          have HROOM8 : Hid (m.length ≤ cp8) := owns_room hown8
          have hg8 := hown8.lt _ rfl
          dsimp only at hg8
          have hg9 : w.heap.size < g8 := by omega
          have hgw : w.grownBy w7 (some q) := grownBy_trans (⟨HG6.out.os, HG6.out.tape, HG6.out.output, HG6.out.size, HG6.out.block⟩ : w.grownBy w6.drew (some q)) hg7
          have HPF : Hid (Blk ((w8.setCell ⟨P, 0, Option.none⟩ (.int .i64 n)).setCell ⟨P, 1, Option.none⟩ (.slice (some ⟨g8, 0, Option.none⟩) m.length cp8)) P #[.int .i64 n, .slice (some ⟨g8, 0, Option.none⟩) m.length cp8] 26) := Blk.setAt (b := P) rfl (Blk.setAt (b := P) rfl hP8 rfl) rfl
          have HRF : Hid (Blk ((w8.setCell ⟨P, 0, Option.none⟩ (.int .i64 n)).setCell ⟨P, 1, Option.none⟩ (.slice (some ⟨g8, 0, Option.none⟩) m.length cp8)) w.heap.size #[.int .i64 0, .slice Option.none 0 0] 26) := Blk.other (Blk.other (Blk.below ((Blk.drew HR6.out).grown hg7 (by omega)) hb8) (by dsimp only; omega)) (by dsimp only; omega)
          have HLF : Hid (LitRow ((w8.setCell ⟨P, 0, Option.none⟩ (.int .i64 n)).setCell ⟨P, 1, Option.none⟩ (.slice (some ⟨g8, 0, Option.none⟩) m.length cp8)) g8 0 m) := LitRow.set (LitRow.set (litRow_of hown8 rfl) (by dsimp only; omega)) (by dsimp only; omega)
          have HCF : Hid (Cur B ((w8.setCell ⟨P, 0, Option.none⟩ (.int .i64 n)).setCell ⟨P, 1, Option.none⟩ (.slice (some ⟨g8, 0, Option.none⟩) m.length cp8)) q) := Cur.set (Cur.set (Cur.below_at hc7 hb8 (by omega)) (by dsimp only; omega)) (by dsimp only; omega)
          have HGF : Hid (w.grownBy ((w8.setCell ⟨P, 0, Option.none⟩ (.int .i64 n)).setCell ⟨P, 1, Option.none⟩ (.slice (some ⟨g8, 0, Option.none⟩) m.length cp8)) (some q)) := grown_setNew (grown_setNew (grown_below hgw hb8 (by omega)) (by dsimp only; omega) _) (by dsimp only; omega) _
          have HLNF : Hid (m.length = n * n) := KL.out.1
          have HOKF : Hid (Oks m) := KL.out.2
          have hg10 : g8 < ((w8.setCell ⟨P, 0, Option.none⟩ (.int .i64 n)).setCell ⟨P, 1, Option.none⟩ (.slice (some ⟨g8, 0, Option.none⟩) m.length cp8)).heap.size := by simp; omega
          clear hP8 hP7 d2 d3 d5 d6 f5 f6 l8 hL7 hLA7 hown8 hb8 hgw hc7 hg7 hs8 p0 p1
          generalize ((w8.setCell ⟨P, 0, Option.none⟩ (.int .i64 n)).setCell ⟨P, 1, Option.none⟩ (.slice (some ⟨g8, 0, Option.none⟩) m.length cp8)) = w9 at HPF HRF HLF HCF HGF hg10 ⊢
          have p0 := Blk.cellAt (i := 0) HPF.out rfl
          have p1 := Blk.cellAt (i := 1) HPF.out rfl
          have r0 := Blk.cellAt (i := 0) HRF.out rfl
          have r1 := Blk.cellAt (i := 1) HRF.out rfl
          have f0 := HRF.out.free 0
          have f1 := HRF.out.free 1
          have lr := HRF.out.lt
          have lp := HPF.out.lt
          simp only [List.getElem_toArray, List.getElem_cons_zero, List.getElem_cons_succ] at p0 p1 r0 r1
          have RS := (HRF.out.set (i := 0) (v := .int .i64 n)).set (i := 1) (v := .slice (some ⟨g8, 0, Option.none⟩) m.length cp8)
          have e0 := RS.cell 0
          have e1 := RS.cell 1
          simp only [List.setIfInBounds_toArray, List.set_cons_zero, List.set_cons_succ, List.getElem?_toArray, List.getElem?_cons_zero, List.getElem?_cons_succ] at e0 e1
          have HE0 : Hid (((w9.setCell ⟨w.heap.size, 0, Option.none⟩ (.int .i64 n)).setCell ⟨w.heap.size, 1, Option.none⟩ (.slice (some ⟨g8, 0, Option.none⟩) m.length cp8)).cell? ⟨w.heap.size, 0, Option.none⟩ = some (.int .i64 n)) := e0
          have HE1 : Hid (((w9.setCell ⟨w.heap.size, 0, Option.none⟩ (.int .i64 n)).setCell ⟨w.heap.size, 1, Option.none⟩ (.slice (some ⟨g8, 0, Option.none⟩) m.length cp8)).cell? ⟨w.heap.size, 1, Option.none⟩ = some (.slice (some ⟨g8, 0, Option.none⟩) m.length cp8)) := e1
          have HLE : Hid (LitRow ((w9.setCell ⟨w.heap.size, 0, Option.none⟩ (.int .i64 n)).setCell ⟨w.heap.size, 1, Option.none⟩ (.slice (some ⟨g8, 0, Option.none⟩) m.length cp8)) g8 0 m) := LitRow.set (LitRow.set HLF.out (by dsimp only; omega)) (by dsimp only; omega)
          have HCE : Hid (Cur B ((w9.setCell ⟨w.heap.size, 0, Option.none⟩ (.int .i64 n)).setCell ⟨w.heap.size, 1, Option.none⟩ (.slice (some ⟨g8, 0, Option.none⟩) m.length cp8)) q) := Cur.set (Cur.set HCF.out (by dsimp only; omega)) (by dsimp only; omega)
          have HGE : Hid (w.grownBy ((w9.setCell ⟨w.heap.size, 0, Option.none⟩ (.int .i64 n)).setCell ⟨w.heap.size, 1, Option.none⟩ (.slice (some ⟨g8, 0, Option.none⟩) m.length cp8)) (some q)) := grown_setNew (grown_setNew HGF.out (by dsimp only; omega) _) (by dsimp only; omega) _
          have HGL : Hid (g8 < ((w9.setCell ⟨w.heap.size, 0, Option.none⟩ (.int .i64 n)).setCell ⟨w.heap.size, 1, Option.none⟩ (.slice (some ⟨g8, 0, Option.none⟩) m.length cp8)).heap.size) := by show g8 < ((w9.setCell ⟨w.heap.size, 0, Option.none⟩ (.int .i64 n)).setCell ⟨w.heap.size, 1, Option.none⟩ (.slice (some ⟨g8, 0, Option.none⟩) m.length cp8)).heap.size; simp; omega
          clear RS e0 e1
          go_wp2
          have e0 := HE0.out
          have e1 := HE1.out
          exact bodyPost_ret (v := .agg #[.int .i64 n, .slice (some ⟨g8, 0, Option.none⟩) m.length cp8]) (by simp [results, Try.results26, go_sem, e0, e1]) rfl ⟨n, m, ⟨g8, cp8, rfl, by omega, HGL.out, HLE.out, HROOM8.out⟩, h1, h5, HLNF.out, HOKF.out, HCE.out, HGE.out⟩
end Go.Proofs.Ytfdgijmmgllmgaa
