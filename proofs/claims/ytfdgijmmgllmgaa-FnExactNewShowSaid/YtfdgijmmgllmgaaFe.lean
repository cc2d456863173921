/-
  The draws of a single and of a point.
-/
import Derived.Test.YtfdgijmmgllmgaaDcur
import Derived.Test.YtfdgijmmgllmgaaFd
namespace Go.Proofs.Ytfdgijmmgllmgaa
open Go.ChangeShapes Go.WideShapes Go.ChangeAt Go.RowKit Go.Joins
set_option linter.unusedSimpArgs false
set_option linter.unusedVariables false
set_option maxRecDepth 100000
attribute [local go_sem] store_f
open Ieee

set_option maxHeartbeats 4000000 in
theorem l1Below_big (B q : Nat) (n : Int) (w : World) (hcur : Cur B w q) (h1 : 256 < n) (h2 : n ≤ 65536) :
    Calls Try.prog 59 #[.pointer (some ⟨q, 0, Option.none⟩), .int .i64 n] w fun e w' => ∃ x : Int, e = .returned (.int .i64 x) ∧ 0 ≤ x ∧ x < n ∧ Cur B w' q ∧ w.grownBy w' (some q) := by
  have HC : Hid (Cur B w q) := hcur
  clear hcur
  go_enter Try.func59, Try.ntmps59
  go_wp2_with fail
  refine (l1Byte_s B q _ HC.out).mono ?_
  rintro e w1 ⟨x, rfl, hx0, hx1, hc1, hg1⟩
  have HC1 : Hid (Cur B w1 q) := hc1
  have HG1 : Hid (w.grownBy w1 (some q)) := hg1
  clear hc1 hg1
  go_wp2_with fail
  refine (l1Byte_s B q _ HC1.out).mono ?_
  rintro e w2 ⟨y, rfl, hy0, hy1, hc2, hg2⟩
  have HC2 : Hid (Cur B w2 q) := hc2
  have HG2 : Hid (w.grownBy w2 (some q)) := grownBy_trans HG1.out hg2
  clear hc2 hg2
  go_wp2_with fail
  refine (l1Byte_s B q _ HC2.out).mono ?_
  rintro e w3 ⟨z, rfl, hz0, hz1, hc3, hg3⟩
  have HC3 : Hid (Cur B w3 q) := hc3
  have HG3 : Hid (w.grownBy w3 (some q)) := grownBy_trans HG2.out hg3
  clear hc3 hg3
  go_wp2
  go_ret
  exact ⟨_, rfl, Int.emod_nonneg _ (by omega), Int.emod_lt_of_pos _ (by omega), HC3.out, HG3.out⟩

structure FineDrawn (B q : Nat) (w : World) (e : Ending) (w' : World) (x : Nat) : Prop where
  ret : e = .returned (.float .f32 x)
  ok : okB x = true
  cur : Cur B w' q
  grown : w.grownBy w' (some q)
structure SomeDrawn (B q : Nat) (w : World) (e : Ending) (w' : World) (m : Nat) : Prop where
  ret : e = .returned (.int .i64 ((m : Int) - 640))
  lt : m < 1281
  cur : Cur B w' q
  grown : w.grownBy w' (some q)

set_option maxHeartbeats 1000000 in
theorem l1Some_s (B q : Nat) (w : World) (hcur : Cur B w q) :
    Calls Try.prog 57 #[.pointer (some ⟨q, 0, Option.none⟩), .int .i64 (-640), .int .i64 640] w fun e w' => ∃ m, SomeDrawn B q w e w' m := by
  have HC : Hid (Cur B w q) := hcur
  clear hcur
  go_enter Try.func57, Try.ntmps57
  go_wp2_with fail
  refine (l1Below_big B q 1281 _ HC.out (by omega) (by omega)).mono ?_
  rintro e w1 ⟨x, rfl, hx0, hx1, hc1, hg1⟩
  obtain ⟨n, rfl⟩ : ∃ n : Nat, x = n := ⟨x.toNat, by omega⟩
  have HC1 : Hid (Cur B w1 q) := hc1
  have HG1 : Hid (w.grownBy w1 (some q)) := hg1
  have hn : n < 1281 := by omega
  clear hc1 hg1
  go_wp2
  go_ret
  exact ⟨n, by first | rfl | (simp; omega), hn, HC1.out, HG1.out⟩

end Go.Proofs.Ytfdgijmmgllmgaa
