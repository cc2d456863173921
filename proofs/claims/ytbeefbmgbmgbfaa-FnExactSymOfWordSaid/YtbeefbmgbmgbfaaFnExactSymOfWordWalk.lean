/-
  The call of FnExactSymOfWord returns true and writes nothing that was there.
-/
import Derived.Test.YtbeefbmgbmgbfaaWtwo
import Derived.Test.YtbeefbmgbmgbfaaWthree
import Derived.Test.YtbeefbmgbmgbfaaWfour
namespace Go.Proofs.Ytbeefbmgbmgbfaa.wFnExactSymOfWord
open Go.ChangeShapes Go.WideShapes Go.ChangeAt Go.RowKit Go.Joins 
set_option linter.unusedSimpArgs false
set_option linter.unusedVariables false
set_option maxHeartbeats 4000000 in
set_option maxRecDepth 1000000 in
theorem walk (kind : Int) (a : Option Addr) (n cap : Nat) (z : List Int) (w : World) (_ : -9223372036854775808 ≤ kind) (_ : kind ≤ 9223372036854775807) (hz : SrcRow w a n z) :
    Calls Try.prog 12 #[.int .i64 kind, .slice a n cap] w fun e w' => e = .returned (.bool true) ∧ Below w.heap.size w w' := by
  by_cases hn : n ≤ 1048576
  · have HZ : Hid (SrcRow w a n z) := hz
    have HL : Hid (z.length = n) := hz.1
    have hzl : z.length ≤ 1048576 := by rw [hz.1]; exact hn
    clear hz
    have C1 : ∀ W g c, IntRow W g z → Calls Try.prog 39 #[.int .i64 kind, .slice (some ⟨g, 0, Option.none⟩) n c] W fun e w' => e = .returned (.tuple #[.agg #[.int .i64 (wordR kind z).1.1, .bool (wordR kind z).1.2], .bool (wordR kind z).2]) ∧ Below W.heap.size W w' := fun W g c h => by
      have := symOfWord_s kind g c z W h hzl
      rw [HL.out] at this
      exact this
    have C2 : ∀ W g c, IntRow W g z → Calls Try.prog 24 #[.int .i64 kind, .slice (some ⟨g, 0, Option.none⟩) n c] W fun e w' => e = .returned (.tuple #[.agg #[.int .i64 (wordR kind z).1.1, .bool (wordR kind z).1.2], .bool (wordR kind z).2]) ∧ Below W.heap.size W w' := fun W g c h => by
      have := symOfWord_i kind g c z W h hzl
      rw [HL.out] at this
      exact this
    generalize wordR kind z = R at C1 C2
    obtain ⟨⟨t, f⟩, ok⟩ := R
    have hn2 : ¬ (1048576 : Int) < (n : Int) := by omega
    go_enter Try.func12, Try.ntmps12
    go_wp2_with fail
    refine (toIntS_any a n cap z _ HZ.out hn).mono ?_
    rintro e w1 ⟨rfl, r1, s1, hb1⟩
    go_wp2_with fail
    refine (C1 _ _ _ r1).mono ?_
    rintro e w2 ⟨rfl, hb2⟩
    have HZ2 : Hid (SrcRow w2 a n z) := (HZ.out.below hb1).below hb2
    have s2 := hb2.size
    clear r1
    go_wp2_with fail
    refine (toIntS_any a n cap z _ (HZ2.out.below ((Below.refl _ _).alloc (Nat.le_refl _) _)) hn).mono ?_
    rintro e w3 ⟨rfl, r3, s3, hb3⟩
    simp only [World.size_alloc] at r3 s3
    have HR3 : Hid (IntRow w3 (w2.heap.size + 1) z) := r3
    clear r3
    have c20 : w3.cell? ⟨w2.heap.size, 0, Option.none⟩ = some (.int .i64 t) := cBelow hb3 (cNewAt rfl rfl)
    have c21 : w3.cell? ⟨w2.heap.size, 1, Option.none⟩ = some (.bool f) := cBelow hb3 (cNewAt rfl rfl)
    have b3 : Below w.heap.size w w3 := by (repeat' (first | (with_reducible exact Below.refl _ _) | (with_reducible assumption) | (with_reducible refine Below.alloc ?_ ?_ _) | (with_reducible refine Below.drew ?_) | (with_reducible refine Below.setCell ?_ ?_ _) | (with_reducible refine Below.trans ?_ (Below.mono (by assumption) ?_)) | (with_reducible exact Nat.le_refl _) | omega | (simp only [World.size_alloc, World.size_setCell, World.size_drew]; omega) | (simp; omega) | (simp; done)))
    have HZ3 : Hid (SrcRow w3 a n z) := (HZ2.out.below ((Below.refl _ _).alloc (Nat.le_refl _) _)).below hb3
    clear hb1 hb2 hb3 HZ2
    go_wp2_with fail
    refine (C2 _ _ _ HR3.out).mono ?_
    rintro e w4 ⟨rfl, hb4⟩
    have HR4 : Hid (IntRow w4 (w2.heap.size + 1) z) := HR3.out.below hb4
    have HZ4 : Hid (SrcRow w4 a n z) := HZ3.out.below hb4
    have d20 := cBelow hb4 c20
    have d21 := cBelow hb4 c21
    have s4 := hb4.size
    clear c20 c21 HR3 HZ3
    have hlt4 : w2.heap.size < w4.heap.size := by omega
    go_wp2_with fail
    refine (eqSym_same _ _ _).mono ?_
    rintro e w5 ⟨rfl, hb5⟩
    have HR5 : Hid (IntRow w5 (w2.heap.size + 1) z) := (HR4.out.below ((Below.refl _ _).alloc (Nat.le_refl _) _)).below hb5
    have HZ5 : Hid (SrcRow w5 a n z) := (HZ4.out.below ((Below.refl _ _).alloc (Nat.le_refl _) _)).below hb5
    have b5 : Below w.heap.size w w5 := by (repeat' (first | (with_reducible exact Below.refl _ _) | (with_reducible assumption) | (with_reducible refine Below.alloc ?_ ?_ _) | (with_reducible refine Below.drew ?_) | (with_reducible refine Below.setCell ?_ ?_ _) | (with_reducible refine Below.trans ?_ (Below.mono (by assumption) ?_)) | (with_reducible exact Nat.le_refl _) | omega | (simp only [World.size_alloc, World.size_setCell, World.size_drew]; omega) | (simp; omega) | (simp; done)))
    clear HR4 HZ4 d20 d21 hb5 hb4 b3
    go_wp2_with fail
    refine (toIntS_any a n cap z _ HZ5.out hn).mono ?_
    rintro e w6 ⟨rfl, r6, s6, hb6⟩
    have HR6 : Hid (IntRow w6 (w2.heap.size + 1) z) := HR5.out.below hb6
    have s5 := b5.size
    go_wp2_with fail
    refine (eqIntS_same z _ _ _ _ n _ HL.out hn HR6.out r6).mono ?_
    rintro e w7 ⟨rfl, hb7⟩
    clear r6
    go_wp2
    go_returns; exact ⟨rfl, by (repeat' (first | (with_reducible exact Below.refl _ _) | (with_reducible assumption) | (with_reducible refine Below.alloc ?_ ?_ _) | (with_reducible refine Below.drew ?_) | (with_reducible refine Below.setCell ?_ ?_ _) | (with_reducible refine Below.trans ?_ (Below.mono (by assumption) ?_)) | (with_reducible exact Nat.le_refl _) | omega | (simp only [World.size_alloc, World.size_setCell, World.size_drew]; omega) | (simp; omega) | (simp; done)))⟩
  · have hn2 : (1048576 : Int) < (n : Int) := by omega
    go_enter Try.func12, Try.ntmps12
    go_wp2
    go_returns; exact ⟨rfl, by (repeat' (first | (with_reducible exact Below.refl _ _) | (with_reducible assumption) | (with_reducible refine Below.alloc ?_ ?_ _) | (with_reducible refine Below.drew ?_) | (with_reducible refine Below.setCell ?_ ?_ _) | (with_reducible refine Below.trans ?_ (Below.mono (by assumption) ?_)) | (with_reducible exact Nat.le_refl _) | omega | (simp only [World.size_alloc, World.size_setCell, World.size_drew]; omega) | (simp; omega) | (simp; done)))⟩
end Go.Proofs.Ytbeefbmgbmgbfaa.wFnExactSymOfWord
