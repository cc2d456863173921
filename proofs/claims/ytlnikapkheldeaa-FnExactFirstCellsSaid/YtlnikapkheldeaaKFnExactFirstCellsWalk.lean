/-
  The call of FnExactFirstCells returns true and writes nothing that was there.
-/
import Derived.Test.YtlnikapkheldeaaK47
namespace Go.Proofs.Ytlnikapkheldeaa.wFnExactFirstCells
open Go.ChangeShapes Go.WideShapes Go.ChangeAt Go.RowKit Go.Joins
set_option linter.unusedSimpArgs false
set_option linter.unusedVariables false
set_option maxRecDepth 100000
attribute [local go_sem] store_f
open Ieee

set_option maxHeartbeats 8000000 in
theorem walk (kind n : Int) (w : World) (hk0 : -9223372036854775808 ≤ kind) (hk1 : kind ≤ 9223372036854775807) (hn0 : -9223372036854775808 ≤ n) (hn1 : n ≤ 9223372036854775807) :
    Calls Try.prog 16 #[.int .i64 kind, .int .i64 n] w fun e w' => e = .returned (.bool true) ∧ Below w.heap.size w w' := by
  obtain ⟨z, hz, FI, FZ⟩ := first_both (kind := kind) (n := n) (WalkArith.wf_i64 (by omega)) (WalkArith.wf_i64 (by omega))
  have HE : Hid (∀ a b ca cb, EqInts z a b ca cb) := fun a b ca cb => eqInts a b ca cb hz
  have HM : Hid (∀ a c B, MarkInts a z.length c B) := fun a c B => markInts a _ c B hz
  have HH : Hid (∀ a c, HeldInts a z.length c) := fun a c => heldInts a _ c hz
  clear hk0 hk1 hn0 hn1
  go_enter Try.func16, Try.ntmps16
  go_wp2_with fail
  refine (FZ.call _).mono ?_
  rintro e w1 ⟨⟨a1, c1, rfl, r1, l1⟩, hb1⟩
  have R1 : Hid (NumsAt w1 a1 z) := r1
  have L1 : Hid (∀ x, a1 = some x → x.block < w1.heap.size) := l1
  have B1 : Hid (Below w.heap.size w w1) := hb1
  clear r1 l1 hb1 FZ
  go_wp2_with fail
  refine (FI.call _).mono ?_
  rintro e w2 ⟨⟨a2, c2, rfl, r2, m2⟩, hb2⟩
  have R12 : Hid (NumsAt w2 a1 z) := R1.out.below hb2
  have R2 : Hid (NumsAt w2 a2 z) := r2
  have M2 : Hid (MkdAt w2 w1.heap.size a2 z.length 0) := m2
  have B2 : Hid (Below w.heap.size w w2) := B1.out.trans (hb2.mono B1.out.size)
  have hs2 := hb2.size
  clear r2 m2 hb2 R1
  go_wp2_with fail
  refine ((HE.out _ _ _ _).call _ R2.out R12.out).mono ?_
  rintro e w3 ⟨rfl, hb3⟩
  have R13 : Hid (NumsAt w3 a1 z) := R12.out.below hb3
  have M3 : Hid (MkdAt w3 w1.heap.size a2 z.length 0) := M2.out.below hb3
  have B3 : Hid (Below w.heap.size w w3) := B2.out.trans (hb3.mono B2.out.size)
  have hs3 := hb3.size
  clear hb3 R12 R2 M2 B2
  go_wp2_with fail
  refine ((HM.out _ _ _).call _ M3.out).mono ?_
  rintro e w4 ⟨rfl, m4, hb4⟩
  have R14 : Hid (NumsAt w4 a1 z) := R13.out.under hb4 L1.out
  have M4 : Hid (MksAt w4 a2 z.length) := m4.marks
  have B4 : Hid (Below w.heap.size w w4) := B3.out.trans (hb4.mono B1.out.size)
  clear m4 hb4 R13 M3 B3
  go_wp2_with fail
  refine ((HH.out _ _).call _ M4.out).mono ?_
  rintro e w5 ⟨rfl, hb5⟩
  have R15 : Hid (NumsAt w5 a1 z) := R14.out.below hb5
  have M5 : Hid (MksAt w5 a2 z.length) := M4.out.below hb5
  have B5 : Hid (Below w.heap.size w w5) := B4.out.trans (hb5.mono B4.out.size)
  clear hb5 R14 M4 B4
  go_wp2_with fail
  refine (FI.call _).mono ?_
  rintro e w6 ⟨⟨a6, c6, rfl, r6, _⟩, hb6⟩
  have R16 : Hid (NumsAt w6 a1 z) := R15.out.below hb6
  have R6 : Hid (NumsAt w6 a6 z) := r6
  have M6 : Hid (MksAt w6 a2 z.length) := M5.out.below hb6
  have B6 : Hid (Below w.heap.size w w6) := B5.out.trans (hb6.mono B5.out.size)
  clear r6 hb6 R15 M5 B5 FI
  go_wp2_with fail
  refine ((HE.out _ _ _ _).call _ R6.out R16.out).mono ?_
  rintro e w7 ⟨rfl, hb7⟩
  have M7 : Hid (MksAt w7 a2 z.length) := M6.out.below hb7
  have B7 : Hid (Below w.heap.size w w7) := B6.out.trans (hb7.mono B6.out.size)
  clear hb7 R16 R6 M6 B6
  go_wp2_with fail
  refine ((HH.out _ _).call _ M7.out).mono ?_
  rintro e w8 ⟨rfl, hb8⟩
  have B8 : Hid (Below w.heap.size w w8) := B7.out.trans (hb8.mono B7.out.size)
  clear hb8 M7 B7
  go_wp2
  go_ret
  exact ⟨rfl, B8.out⟩
end Go.Proofs.Ytlnikapkheldeaa.wFnExactFirstCells
