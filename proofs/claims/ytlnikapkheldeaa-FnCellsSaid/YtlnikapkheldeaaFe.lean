/-
  The draws of a single and of a point.
-/
import Derived.Test.YtlnikapkheldeaaDcur
import Derived.Test.YtlnikapkheldeaaFd
namespace Go.Proofs.Ytlnikapkheldeaa
open Go.ChangeShapes Go.WideShapes Go.ChangeAt Go.RowKit Go.Joins
set_option linter.unusedSimpArgs false
set_option linter.unusedVariables false
set_option maxRecDepth 100000
attribute [local go_sem] store_f
open Ieee

set_option maxHeartbeats 4000000 in
theorem l1Below_big (B q : Nat) (n : Int) (w : World) (hcur : Cur B w q) (h1 : 256 < n) (h2 : n ≤ 65536) :
    Calls Try.prog 73 #[.pointer (some ⟨q, 0, Option.none⟩), .int .i64 n] w fun e w' => ∃ x : Int, e = .returned (.int .i64 x) ∧ 0 ≤ x ∧ x < n ∧ Cur B w' q ∧ w.grownBy w' (some q) := by
  have HC : Hid (Cur B w q) := hcur
  clear hcur
  go_enter Try.func73, Try.ntmps73
  go_wp2_with fail
  refine (l1Byte_s B q _ HC.out).mono ?_
  rintro e w1 ⟨x, rfl, hx0, hx1, hc1, hg1⟩
  have HC1 : Hid (Cur B w1 q) := hc1
  have HG1 : Hid (w.grownBy w1 (some q)) := hg1
  clear hc1 hg1
  go_wp2_with fail
  refine (l1Byte_s B q _ HC1.out).mono ?_
  rintro e w2 ⟨y, rfl, hy0, hy1, hc2, hg2⟩
  have HC2 : Hid (Cur B w2 q) := hc2
  have HG2 : Hid (w.grownBy w2 (some q)) := grownBy_trans HG1.out hg2
  clear hc2 hg2
  go_wp2_with fail
  refine (l1Byte_s B q _ HC2.out).mono ?_
  rintro e w3 ⟨z, rfl, hz0, hz1, hc3, hg3⟩
  have HC3 : Hid (Cur B w3 q) := hc3
  have HG3 : Hid (w.grownBy w3 (some q)) := grownBy_trans HG2.out hg3
  clear hc3 hg3
  go_wp2
  go_ret
  exact ⟨_, rfl, Int.emod_nonneg _ (by omega), Int.emod_lt_of_pos _ (by omega), HC3.out, HG3.out⟩

structure FineDrawn (B q : Nat) (w : World) (e : Ending) (w' : World) (x : Nat) : Prop where
  ret : e = .returned (.float .f32 x)
  ok : okB x = true
  cur : Cur B w' q
  grown : w.grownBy w' (some q)
structure SomeDrawn (B q : Nat) (w : World) (e : Ending) (w' : World) (m : Nat) : Prop where
  ret : e = .returned (.int .i64 ((m : Int) - 640))
  lt : m < 1281
  cur : Cur B w' q
  grown : w.grownBy w' (some q)

set_option maxHeartbeats 1000000 in
theorem l1Some_s (B q : Nat) (w : World) (hcur : Cur B w q) :
    Calls Try.prog 90 #[.pointer (some ⟨q, 0, Option.none⟩), .int .i64 (-640), .int .i64 640] w fun e w' => ∃ m, SomeDrawn B q w e w' m := by
  have HC : Hid (Cur B w q) := hcur
  clear hcur
  go_enter Try.func90, Try.ntmps90
  go_wp2_with fail
  refine (l1Below_big B q 1281 _ HC.out (by omega) (by omega)).mono ?_
  rintro e w1 ⟨x, rfl, hx0, hx1, hc1, hg1⟩
  obtain ⟨n, rfl⟩ : ∃ n : Nat, x = n := ⟨x.toNat, by omega⟩
  have HC1 : Hid (Cur B w1 q) := hc1
  have HG1 : Hid (w.grownBy w1 (some q)) := hg1
  have hn : n < 1281 := by omega
  clear hc1 hg1
  go_wp2
  go_ret
  exact ⟨n, by first | rfl | (simp; omega), hn, HC1.out, HG1.out⟩

set_option maxHeartbeats 2000000 in
theorem l1Fine_s (B q : Nat) (w : World) (hcur : Cur B w q) :
    Calls Try.prog 202 #[.pointer (some ⟨q, 0, Option.none⟩)] w fun e w' => ∃ x, FineDrawn B q w e w' x := by
  have HC : Hid (Cur B w q) := hcur
  have hq := hcur.lt
  clear hcur
  go_enter Try.func202, Try.ntmps202
  go_wp2_with fail
  refine (l1Some_s B q _ HC.out).mono ?_
  rintro e w1 ⟨m, ⟨rfl, hm, hc1, hg1⟩⟩
  have HC1 : Hid (Cur B w1 q) := hc1
  have HG1 : Hid (w.grownBy w1 (some q)) := hg1
  have hq1 := hc1.lt
  have HD : Hid (∀ k, k < 6 → ∃ r, F32.div (floatOfInt .f32 ((m : Int) - 640)) (divsB k) = some r ∧ okB r = true) := fun k hk => fine_ok m k hm hk
  clear hc1 hg1
  go_wp2_with fail
  refine (l1Below_s B q 6 _ HC1.out.alloc (by omega) (by omega)).mono ?_
  rintro e w2 ⟨x, rfl, hx0, hx1, hc2, hg2⟩
  have HC2 : Hid (Cur B w2 q) := hc2
  have HG2 : Hid (w.grownBy w2 (some q)) := grownBy_trans (grown_alloc HG1.out _) hg2
  have HB : Blk w2 w1.heap.size #[.float .f32 1065353216, .float .f32 1073741824, .float .f32 1098907648, .float .f32 1115684864, .float .f32 1120403456, .float .f32 1077936128] _ := Blk.grown (Blk.new _ _ _) hg2 (by omega)
  have hl := HB.lt
  have c0 := Blk.cellAt (i := 0) HB rfl
  have c1 := Blk.cellAt (i := 1) HB rfl
  have c2 := Blk.cellAt (i := 2) HB rfl
  have c3 := Blk.cellAt (i := 3) HB rfl
  have c4 := Blk.cellAt (i := 4) HB rfl
  have c5 := Blk.cellAt (i := 5) HB rfl
  simp at c0 c1 c2 c3 c4 c5
  clear hc2 hg2 HB
  generalize floatOfInt .f32 ((m : Int) - 640) = a at HD ⊢
  rcases (by omega : x = 0 ∨ x = 1 ∨ x = 2 ∨ x = 3 ∨ x = 4 ∨ x = 5) with rfl | rfl | rfl | rfl | rfl | rfl
  · obtain ⟨r, hr, ho⟩ := HD.out 0 (by omega)
    have hop := fun t w => run_float_arith (P := Try.prog) w .quo t .f32 a 1065353216 r hr
    clear hr
    go_wp2_with (simp only [hop])
    go_ret
    exact ⟨r, rfl, ho, HC2.out, HG2.out⟩
  · obtain ⟨r, hr, ho⟩ := HD.out 1 (by omega)
    have hop := fun t w => run_float_arith (P := Try.prog) w .quo t .f32 a 1073741824 r hr
    clear hr
    go_wp2_with (simp only [hop])
    go_ret
    exact ⟨r, rfl, ho, HC2.out, HG2.out⟩
  · obtain ⟨r, hr, ho⟩ := HD.out 2 (by omega)
    have hop := fun t w => run_float_arith (P := Try.prog) w .quo t .f32 a 1098907648 r hr
    clear hr
    go_wp2_with (simp only [hop])
    go_ret
    exact ⟨r, rfl, ho, HC2.out, HG2.out⟩
  · obtain ⟨r, hr, ho⟩ := HD.out 3 (by omega)
    have hop := fun t w => run_float_arith (P := Try.prog) w .quo t .f32 a 1115684864 r hr
    clear hr
    go_wp2_with (simp only [hop])
    go_ret
    exact ⟨r, rfl, ho, HC2.out, HG2.out⟩
  · obtain ⟨r, hr, ho⟩ := HD.out 4 (by omega)
    have hop := fun t w => run_float_arith (P := Try.prog) w .quo t .f32 a 1120403456 r hr
    clear hr
    go_wp2_with (simp only [hop])
    go_ret
    exact ⟨r, rfl, ho, HC2.out, HG2.out⟩
  · obtain ⟨r, hr, ho⟩ := HD.out 5 (by omega)
    have hop := fun t w => run_float_arith (P := Try.prog) w .quo t .f32 a 1077936128 r hr
    clear hr
    go_wp2_with (simp only [hop])
    go_ret
    exact ⟨r, rfl, ho, HC2.out, HG2.out⟩
end Go.Proofs.Ytlnikapkheldeaa
