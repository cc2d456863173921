/-
  The draw of a complex number that may be no point; the model's test of points.
-/
import Derived.Test.YtkcfekhpppihhaaGl
namespace Go.Proofs.Ytkcfekhpppihhaa
open Go.ChangeShapes Go.WideShapes Go.ChangeAt Go.RowKit Go.Joins
set_option linter.unusedSimpArgs false
set_option linter.unusedVariables false
set_option maxRecDepth 100000
attribute [local go_sem] store_f
open Ieee

structure WordDrawn (B q : Nat) (w : World) (e : Ending) (w' : World) (x : Nat) : Prop where
  ret : e = .returned (.float .f32 x)
  lt : x < 4294967296
  cur : Cur B w' q
  grown : w.grownBy w' (some q)
theorem run_quo_nan {P : Program} (w : World) (t : TypeId) (x y : Nat) (h : FloatKind.f32.format.div x y = none) : (binOp .quo t (.float .f32 x) (.float .f32 y)).run P w = .ok (.float .f32 ((Question.nanBits .f32 x y).cut (w.tape w.drawn (.nanBits .f32 x y)))) w.drew := by
  simp [binOp, Op.floatArith, h, Question.forced]
theorem nan_lt (x y t : Nat) : (Question.nanBits .f32 x y).cut t < 4294967296 := by
  show t % 2 * 2 ^ 31 + 0x7f800000 + 1 + t / 2 % (2 ^ 23 - 1) < 4294967296
  have hb : t / 2 % (2 ^ 23 - 1) < 2 ^ 23 - 1 := Nat.mod_lt _ (by omega)
  have ha : t % 2 = 0 ∨ t % 2 = 1 := by omega
  generalize t / 2 % (2 ^ 23 - 1) = b at hb ⊢
  rcases ha with e | e <;> rw [e] <;> omega
theorem fine_lt {x : Nat} (h : okB x = true) : x < 4294967296 := ok_lt h

set_option maxHeartbeats 4000000 in
theorem l1Wild_s (B q : Nat) (w : World) (hcur : Cur B w q) :
    Calls Try.prog 72 #[.pointer (some ⟨q, 0, Option.none⟩)] w fun e w' => ∃ x, WordDrawn B q w e w' x := by
  have HC : Hid (Cur B w q) := hcur
  have hq := hcur.lt
  clear hcur
  go_enter Try.func72, Try.ntmps72
  go_wp2_with fail
  refine (l1Below_s B q 6 _ HC.out (by omega) (by omega)).mono ?_
  rintro e w1 ⟨k, rfl, hk0, hk1, hc1, hg1⟩
  have HC1 : Hid (Cur B w1 q) := hc1
  have HG1 : Hid (w.grownBy w1 (some q)) := hg1
  have hq1 := hc1.lt
  clear hc1 hg1
  rcases (by omega : k = 0 ∨ k = 1 ∨ (2 ≤ k ∧ k ≠ 0 ∧ k ≠ 1)) with rfl | rfl | ⟨h2, n0, n1⟩
  · go_wp2_with fail
    refine (l1Below_s B q 8 _ HC1.out.alloc (by omega) (by omega)).mono ?_
    rintro e w2 ⟨x, rfl, hx0, hx1, hc2, hg2⟩
    have HC2 : Hid (Cur B w2 q) := hc2
    have HG2 : Hid (w.grownBy w2 (some q)) := grownBy_trans (grown_alloc HG1.out _) hg2
    have HB := Blk.grown (Blk.new _ _ _) hg2 (by omega)
    have hl := HB.lt
    have c0 := Blk.cellAt (i := 0) HB rfl
    have c1 := Blk.cellAt (i := 1) HB rfl
    have c2 := Blk.cellAt (i := 2) HB rfl
    have c3 := Blk.cellAt (i := 3) HB rfl
    have c4 := Blk.cellAt (i := 4) HB rfl
    have c5 := Blk.cellAt (i := 5) HB rfl
    have c6 := Blk.cellAt (i := 6) HB rfl
    have c7 := Blk.cellAt (i := 7) HB rfl
    simp at c0 c1 c2 c3 c4 c5 c6 c7
    clear hc2 hg2 HB
    rcases (by omega : x = 0 ∨ x = 1 ∨ x = 2 ∨ x = 3 ∨ x = 4 ∨ x = 5 ∨ x = 6 ∨ x = 7) with rfl | rfl | rfl | rfl | rfl | rfl | rfl | rfl
    all_goals
      go_wp2
      go_ret
      exact ⟨_, rfl, by omega, HC2.out, HG2.out⟩
  · have o1 := fun t w => run_float_arith (P := Try.prog) w .quo t .f32 1065353216 0 2139095040 (by kernel_rfl)
    have o2 := fun t w => run_float_arith (P := Try.prog) w .quo t .f32 3212836864 0 4286578688 (by kernel_rfl)
    have o3 := fun t w => run_quo_nan (P := Try.prog) w t 0 0 (by kernel_rfl)
    have o4 := fun w => run_negf Try.prog w .f32 0
    have hn : Hid ((Question.nanBits .f32 0 0).cut (w1.tape w1.drawn (.nanBits .f32 0 0)) < 4294967296) := nan_lt _ _ _
    generalize hN : (Question.nanBits .f32 0 0).cut (w1.tape w1.drawn (.nanBits .f32 0 0)) = nn at hn
    have o3' : ∀ t, (binOp .quo t (.float .f32 0) (.float .f32 0)).run Try.prog w1 = .ok (.float .f32 nn) w1.drew := fun t => by rw [o3, hN]
    have e4 : Op.negFloat .f32 0 = 2147483648 := by kernel_rfl
    rw [e4] at o4
    clear o3 hN
    go_wp2_with (first | simp only [o1] | simp only [o2] | simp only [o3'] | simp only [o4])
    refine (l1Below_s B q 5 _ (Cur.alloc (show Cur B w1.drew q from HC1.out)) (by omega) (by omega)).mono ?_
    rintro e w2 ⟨x, rfl, hx0, hx1, hc2, hg2⟩
    have HC2 : Hid (Cur B w2 q) := hc2
    have HG2 : Hid (w.grownBy w2 (some q)) := grownBy_trans (grown_alloc (grownBy_draws (n := 1) HG1.out) _) hg2
    have HB := Blk.grown (Blk.new _ _ _) hg2 (by simp; omega)
    have hl := HB.lt
    have c0 := Blk.cellAt (i := 0) HB rfl
    have c1 := Blk.cellAt (i := 1) HB rfl
    have c2 := Blk.cellAt (i := 2) HB rfl
    have c3 := Blk.cellAt (i := 3) HB rfl
    have c4 := Blk.cellAt (i := 4) HB rfl
    simp at c0 c1 c2 c3 c4
    clear hc2 hg2 HB o1 o2 o3' o4
    rcases (by omega : x = 0 ∨ x = 1 ∨ x = 2 ∨ x = 3 ∨ x = 4) with rfl | rfl | rfl | rfl | rfl
    all_goals
      go_wp2
      go_ret
      exact ⟨_, rfl, by first | omega | exact hn.out, HC2.out, HG2.out⟩
  · go_wp2_with fail
    refine (l1Fine_s B q _ HC1.out).mono ?_
    rintro e w3 ⟨y, ⟨rfl, hy, hc3, hg3⟩⟩
    have HC3 : Hid (Cur B w3 q) := hc3
    have HG3 : Hid (w.grownBy w3 (some q)) := grownBy_trans HG1.out hg3
    have OY : Hid (okB y = true) := hy
    clear hc3 hg3 hy
    go_wp2
    go_ret
    exact ⟨y, rfl, ok_lt OY.out, HC3.out, HG3.out⟩

structure AnyDrawn (B q : Nat) (w : World) (e : Ending) (w' : World) (x y : Nat) : Prop where
  ret : e = .returned (.complex .f32 x y)
  ltx : x < 4294967296
  lty : y < 4294967296
  cur : Cur B w' q
  grown : w.grownBy w' (some q)
set_option maxHeartbeats 2000000 in
theorem l1Any_s (B q : Nat) (w : World) (hcur : Cur B w q) :
    Calls Try.prog 56 #[.pointer (some ⟨q, 0, Option.none⟩)] w fun e w' => ∃ x y, AnyDrawn B q w e w' x y := by
  have HC : Hid (Cur B w q) := hcur
  clear hcur
  go_enter Try.func56, Try.ntmps56
  go_wp2_with fail
  refine (l1Point_s B q _ HC.out).mono ?_
  rintro e w1 ⟨x, y, ⟨rfl, hx, hy, hc1, hg1⟩⟩
  have HC1 : Hid (Cur B w1 q) := hc1
  have HG1 : Hid (w.grownBy w1 (some q)) := hg1
  have LX : Hid (x < 4294967296) := ok_lt hx
  have LY : Hid (y < 4294967296) := ok_lt hy
  clear hc1 hg1 hx hy
  go_wp2_with fail
  refine (l1Below_s B q 10 _ HC1.out (by omega) (by omega)).mono ?_
  rintro e w2 ⟨k, rfl, hk0, hk1, hc2, hg2⟩
  have HC2 : Hid (Cur B w2 q) := hc2
  have HG2 : Hid (w.grownBy w2 (some q)) := grownBy_trans HG1.out hg2
  clear hc2 hg2
  rcases (by omega : k = 0 ∨ k = 1 ∨ (2 ≤ k ∧ k ≠ 0 ∧ k ≠ 1)) with rfl | rfl | ⟨h2, n0, n1⟩
  · go_wp2_with fail
    refine (l1Wild_s B q _ HC2.out).mono ?_
    rintro e w3 ⟨z, ⟨rfl, hz, hc3, hg3⟩⟩
    have HC3 : Hid (Cur B w3 q) := hc3
    have HG3 : Hid (w.grownBy w3 (some q)) := grownBy_trans HG2.out hg3
    have LZ : Hid (z < 4294967296) := hz
    clear hc3 hg3 hz
    go_wp2
    go_ret
    exact ⟨_, _, rfl, LZ.out, LY.out, HC3.out, HG3.out⟩
  · go_wp2_with fail
    refine (l1Wild_s B q _ HC2.out).mono ?_
    rintro e w3 ⟨z, ⟨rfl, hz, hc3, hg3⟩⟩
    have HC3 : Hid (Cur B w3 q) := hc3
    have HG3 : Hid (w.grownBy w3 (some q)) := grownBy_trans HG2.out hg3
    have LZ : Hid (z < 4294967296) := hz
    clear hc3 hg3 hz
    go_wp2
    go_ret
    exact ⟨_, _, rfl, LX.out, LZ.out, HC3.out, HG3.out⟩
  · go_wp2
    go_ret
    exact ⟨_, _, rfl, LX.out, LY.out, HC2.out, HG2.out⟩

structure Tested (w : World) (e : Ending) (w' : World) (x y : Nat) (t : Bool) : Prop where
  ret : e = .returned (.bool t)
  yes : t = true → inB x = true ∧ inB y = true
  below : Below w.heap.size w w'
set_option maxHeartbeats 4000000 in
theorem testPoint_s (x y : Nat) (w : World) : Calls Try.prog 25 #[.complex .f32 x y] w fun e w' => ∃ t, Tested w e w' x y t := by
  by_cases hs : rungOf F32 x < F32.infRung
  · by_cases ht : rungOf F32 y < F32.infRung
    · have S1 : ∀ w, Calls Try.prog 57 #[.float .f32 x] w fun e w' => e = .returned (.bool true) ∧ Below w.heap.size w w' := fun w => by
        have := l1Single_s x w
        simpa [hs] using this
      have S2 : ∀ w, Calls Try.prog 57 #[.float .f32 y] w fun e w' => e = .returned (.bool true) ∧ Below w.heap.size w w' := fun w => by
        have := l1Single_s y w
        simpa [ht] using this
      have H1 : Hid (∀ w, Calls Try.prog 57 #[.float .f32 x] w fun e w' => e = .returned (.bool true) ∧ Below w.heap.size w w') := S1
      have H2 : Hid (∀ w, Calls Try.prog 57 #[.float .f32 y] w fun e w' => e = .returned (.bool true) ∧ Below w.heap.size w w') := S2
      clear S1 S2
      go_enter Try.func25, Try.ntmps25
      go_wp2_with fail
      refine (H1.out _).mono ?_
      rintro e w1 ⟨rfl, hb1⟩
      have HB1 : Hid (Below w.heap.size w w1) := hb1
      have hs1 := hb1.size
      clear hb1
      go_wp2_with fail
      refine (H2.out _).mono ?_
      rintro e w2 ⟨rfl, hb2⟩
      have HB2 : Hid (Below w.heap.size w w2) := HB1.out.trans (hb2.mono hs1)
      clear hb2
      go_wp2
      all_goals (go_ret; exact ⟨_, rfl, by simp_all [inB], HB2.out⟩)
    · have S1 : Hid (∀ w, Calls Try.prog 57 #[.float .f32 x] w fun e w' => e = .returned (.bool true) ∧ Below w.heap.size w w') := fun w => by
        have := l1Single_s x w
        simpa [hs] using this
      have S2 : Hid (∀ w, Calls Try.prog 57 #[.float .f32 y] w fun e w' => e = .returned (.bool false) ∧ Below w.heap.size w w') := fun w => by
        have := l1Single_s y w
        simpa [ht] using this
      go_enter Try.func25, Try.ntmps25
      go_wp2_with fail
      refine (S1.out _).mono ?_
      rintro e w1 ⟨rfl, hb1⟩
      have HB1 : Hid (Below w.heap.size w w1) := hb1
      have hs1 := hb1.size
      clear hb1
      go_wp2_with fail
      refine (S2.out _).mono ?_
      rintro e w2 ⟨rfl, hb2⟩
      have HB2 : Hid (Below w.heap.size w w2) := HB1.out.trans (hb2.mono hs1)
      clear hb2
      go_wp2
      all_goals (go_ret; exact ⟨_, rfl, by simp, HB2.out⟩)
  · have S1 : Hid (∀ w, Calls Try.prog 57 #[.float .f32 x] w fun e w' => e = .returned (.bool false) ∧ Below w.heap.size w w') := fun w => by
      have := l1Single_s x w
      simpa [hs] using this
    go_enter Try.func25, Try.ntmps25
    go_wp2_with fail
    refine (S1.out _).mono ?_
    rintro e w1 ⟨rfl, hb1⟩
    have HB1 : Hid (Below w.heap.size w w1) := hb1
    clear hb1
    go_wp2
    all_goals (go_ret; exact ⟨_, rfl, by simp, HB1.out⟩)
end Go.Proofs.Ytkcfekhpppihhaa
