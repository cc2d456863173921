/-
  The call of FnColourText returns true and writes nothing that was there.
-/
import Derived.Test.YtljilmekmfnkbaaCtx
namespace Go.Proofs.Ytljilmekmfnkbaa.wFnColourText
open Go.ChangeShapes Go.WideShapes Go.ChangeAt Go.RowKit Go.Joins
set_option linter.unusedSimpArgs false
set_option linter.unusedVariables false
set_option maxRecDepth 100000
attribute [local go_sem] store_f
open Ieee

set_option maxHeartbeats 1000000 in
theorem walk (a : Option Addr) (len cap : Nat) (bs : List Int) (w : World) (hrow : ByteRow w w.heap.size a len bs) :
    Calls Try.prog 6 #[.slice a len cap] w fun e w' => e = .returned (.bool true) ∧ Below w.heap.size w w' := by
  have HR : Hid (ByteRow w w.heap.size a len bs) := hrow
  clear hrow
  by_cases hl : len ≤ 4096
  · go_enter Try.func6, Try.ntmps6
    go_wp2_with fail
    refine (big_no _ _ _ _ hl).mono ?_
    rintro e w0 ⟨rfl, rfl⟩
    go_wp2_with fail
    refine (drawParse_s a len cap bs w HR.out hl).mono ?_
    rintro e w1 ⟨s, ⟨rfl, hb1⟩⟩
    have B1 : Hid (Below w.heap.size w w1) := hb1
    have HR1 : Hid (ByteRow w1 w.heap.size a len bs) := HR.out.of hb1
    have hb := hb1
    obtain ⟨hc, hf⟩ := bcell hb; have HL := keepL (by (repeat (first | (with_reducible assumption) | (with_reducible apply AllLt.alloc) | (with_reducible apply AllLt.setCell) | (with_reducible apply AllLt.drew) | (with_reducible exact AllLt.nil _)))) hb; have hq := HL; simp only [AllLt, and_true, World.size_alloc, World.size_setCell, World.size_drew] at hq; have hbs := hb.size; try simp only [World.size_alloc, World.size_setCell, World.size_drew] at hbs
    rcases parse_any s with P | ⟨p, q, r, P, F, I⟩
    · go_wp2_with (go_at_call 26; (with_reducible refine (P.call _).mono ?_); rintro e w2 ⟨rfl, hb2⟩; have hb := hb2; obtain ⟨hc, hf⟩ := bcell hb; have HL := keepL (by (repeat (first | (with_reducible assumption) | (with_reducible apply AllLt.alloc) | (with_reducible apply AllLt.setCell) | (with_reducible apply AllLt.drew) | (with_reducible exact AllLt.nil _)))) hb; have hq := HL; simp only [AllLt, and_true, World.size_alloc, World.size_setCell, World.size_drew] at hq; have hbs := hb.size; try simp only [World.size_alloc, World.size_setCell, World.size_drew] at hbs)
      have hbel2 : Below w.heap.size w (w2.alloc (.cells #[.float .f32 0, .float .f32 0, .float .f32 0] 26)) := by have := B1.out; (repeat' (first | (with_reducible exact Below.refl _ _) | (with_reducible assumption) | (with_reducible refine Below.alloc ?_ ?_ _) | (with_reducible refine Below.drew ?_) | (with_reducible refine Below.setCell ?_ ?_ _) | (with_reducible refine Below.trans ?_ (Below.mono (by assumption) ?_)) | (with_reducible exact Nat.le_refl _) | omega | (simp only [World.size_alloc, World.size_setCell, World.size_drew]; omega) | (simp; omega) | (simp; done)))
      refine (drawColours_s a len cap bs _ ((HR1.out.of (Below.alloc (Below.mono hb2 (by omega)) (by omega) _)).mono hbel2.size) hl).mono ?_
      rintro e w5 ⟨r1, g1, b1, x1, y1, z1, k1, ⟨rfl, lr, lg, lb, _, _, _, _, hb5⟩⟩
      have F2 : ForY r1 g1 b1 (dig3 (stepN r1) (stepN g1) (stepN b1)) := ⟨fun w => format_i_yes r1 g1 b1 (part_of_le lr) (part_of_le lg) (part_of_le lb) w⟩
      have P2 := parse_dig3 (stepN_le r1) (stepN_le g1) (stepN_le b1)
      have F3 := format_dig3 (stepN_le r1) (stepN_le g1) (stepN_le b1)
      generalize dig3 (stepN r1) (stepN g1) (stepN b1) = t at F2 P2 F3
      generalize partB (stepN r1) = p1 at P2 F3
      generalize partB (stepN g1) = q1 at P2 F3
      generalize partB (stepN b1) = s1 at P2 F3
      clear lr lg lb
      have hbel5 : Below w.heap.size w w5 := Below.trans hbel2 (Below.mono hb5 hbel2.size)
      have hb := hb5
      obtain ⟨hc, hf⟩ := bcell hb; have HL := keepL (by (repeat (first | (with_reducible assumption) | (with_reducible apply AllLt.alloc) | (with_reducible apply AllLt.setCell) | (with_reducible apply AllLt.drew) | (with_reducible exact AllLt.nil _)))) hb; have hq := HL; simp only [AllLt, and_true, World.size_alloc, World.size_setCell, World.size_drew] at hq; have hbs := hb.size; try simp only [World.size_alloc, World.size_setCell, World.size_drew] at hbs
      go_wp2_with (first | (go_at_call 27; (first | (with_reducible refine (F2.call _).mono ?_) | (with_reducible refine (F3.call _).mono ?_)); rintro e w6 ⟨rfl, hb6⟩; have hb := hb6; obtain ⟨hc, hf⟩ := bcell hb; have HL := keepL (by (repeat (first | (with_reducible assumption) | (with_reducible apply AllLt.alloc) | (with_reducible apply AllLt.setCell) | (with_reducible apply AllLt.drew) | (with_reducible exact AllLt.nil _)))) hb; have hq := HL; simp only [AllLt, and_true, World.size_alloc, World.size_setCell, World.size_drew] at hq; have hbs := hb.size; try simp only [World.size_alloc, World.size_setCell, World.size_drew] at hbs) | (go_at_call 26; (with_reducible refine (P2.call _).mono ?_); rintro e w7 ⟨rfl, hb7⟩; have hb := hb7; obtain ⟨hc, hf⟩ := bcell hb; have HL := keepL (by (repeat (first | (with_reducible assumption) | (with_reducible apply AllLt.alloc) | (with_reducible apply AllLt.setCell) | (with_reducible apply AllLt.drew) | (with_reducible exact AllLt.nil _)))) hb; have hq := HL; simp only [AllLt, and_true, World.size_alloc, World.size_setCell, World.size_drew] at hq; have hbs := hb.size; try simp only [World.size_alloc, World.size_setCell, World.size_drew] at hbs))
      go_returns; exact ⟨rfl, by (repeat' (first | (with_reducible exact Below.refl _ _) | (with_reducible assumption) | (with_reducible refine Below.alloc ?_ ?_ _) | (with_reducible refine Below.drew ?_) | (with_reducible refine Below.setCell ?_ ?_ _) | (with_reducible refine Below.trans ?_ (Below.mono (by assumption) ?_)) | (with_reducible exact Nat.le_refl _) | omega | (simp only [World.size_alloc, World.size_setCell, World.size_drew]; omega) | (simp; omega) | (simp; done)))⟩
    · go_wp2_with (first | (go_at_call 26; (with_reducible refine (P.call _).mono ?_); rintro e w2 ⟨rfl, hb2⟩; have hb := hb2; obtain ⟨hc, hf⟩ := bcell hb; have HL := keepL (by (repeat (first | (with_reducible assumption) | (with_reducible apply AllLt.alloc) | (with_reducible apply AllLt.setCell) | (with_reducible apply AllLt.drew) | (with_reducible exact AllLt.nil _)))) hb; have hq := HL; simp only [AllLt, and_true, World.size_alloc, World.size_setCell, World.size_drew] at hq; have hbs := hb.size; try simp only [World.size_alloc, World.size_setCell, World.size_drew] at hbs) | (go_at_call 27; (with_reducible refine (F.call _).mono ?_); rintro e w3 ⟨rfl, hb3⟩; have hb := hb3; obtain ⟨hc, hf⟩ := bcell hb; have HL := keepL (by (repeat (first | (with_reducible assumption) | (with_reducible apply AllLt.alloc) | (with_reducible apply AllLt.setCell) | (with_reducible apply AllLt.drew) | (with_reducible exact AllLt.nil _)))) hb; have hq := HL; simp only [AllLt, and_true, World.size_alloc, World.size_setCell, World.size_drew] at hq; have hbs := hb.size; try simp only [World.size_alloc, World.size_setCell, World.size_drew] at hbs) | (go_at_call 20; (with_reducible refine (I.call _).mono ?_); rintro e w4 ⟨rfl, hb4⟩; have hb := hb4; obtain ⟨hc, hf⟩ := bcell hb; have HL := keepL (by (repeat (first | (with_reducible assumption) | (with_reducible apply AllLt.alloc) | (with_reducible apply AllLt.setCell) | (with_reducible apply AllLt.drew) | (with_reducible exact AllLt.nil _)))) hb; have hq := HL; simp only [AllLt, and_true, World.size_alloc, World.size_setCell, World.size_drew] at hq; have hbs := hb.size; try simp only [World.size_alloc, World.size_setCell, World.size_drew] at hbs))
      have hbel2 : Below w.heap.size w w4 := by have := B1.out; (repeat' (first | (with_reducible exact Below.refl _ _) | (with_reducible assumption) | (with_reducible refine Below.alloc ?_ ?_ _) | (with_reducible refine Below.drew ?_) | (with_reducible refine Below.setCell ?_ ?_ _) | (with_reducible refine Below.trans ?_ (Below.mono (by assumption) ?_)) | (with_reducible exact Nat.le_refl _) | omega | (simp only [World.size_alloc, World.size_setCell, World.size_drew]; omega) | (simp; omega) | (simp; done)))
      refine (drawColours_s a len cap bs _ ((HR.out.of hbel2).mono hbel2.size) hl).mono ?_
      rintro e w5 ⟨r1, g1, b1, x1, y1, z1, k1, ⟨rfl, lr, lg, lb, _, _, _, _, hb5⟩⟩
      have F2 : ForY r1 g1 b1 (dig3 (stepN r1) (stepN g1) (stepN b1)) := ⟨fun w => format_i_yes r1 g1 b1 (part_of_le lr) (part_of_le lg) (part_of_le lb) w⟩
      have P2 := parse_dig3 (stepN_le r1) (stepN_le g1) (stepN_le b1)
      have F3 := format_dig3 (stepN_le r1) (stepN_le g1) (stepN_le b1)
      generalize dig3 (stepN r1) (stepN g1) (stepN b1) = t at F2 P2 F3
      generalize partB (stepN r1) = p1 at P2 F3
      generalize partB (stepN g1) = q1 at P2 F3
      generalize partB (stepN b1) = s1 at P2 F3
      clear lr lg lb
      have hbel5 : Below w.heap.size w w5 := Below.trans hbel2 (Below.mono hb5 hbel2.size)
      have hb := hb5
      obtain ⟨hc, hf⟩ := bcell hb; have HL := keepL (by (repeat (first | (with_reducible assumption) | (with_reducible apply AllLt.alloc) | (with_reducible apply AllLt.setCell) | (with_reducible apply AllLt.drew) | (with_reducible exact AllLt.nil _)))) hb; have hq := HL; simp only [AllLt, and_true, World.size_alloc, World.size_setCell, World.size_drew] at hq; have hbs := hb.size; try simp only [World.size_alloc, World.size_setCell, World.size_drew] at hbs
      go_wp2_with (first | (go_at_call 27; (first | (with_reducible refine (F2.call _).mono ?_) | (with_reducible refine (F3.call _).mono ?_)); rintro e w6 ⟨rfl, hb6⟩; have hb := hb6; obtain ⟨hc, hf⟩ := bcell hb; have HL := keepL (by (repeat (first | (with_reducible assumption) | (with_reducible apply AllLt.alloc) | (with_reducible apply AllLt.setCell) | (with_reducible apply AllLt.drew) | (with_reducible exact AllLt.nil _)))) hb; have hq := HL; simp only [AllLt, and_true, World.size_alloc, World.size_setCell, World.size_drew] at hq; have hbs := hb.size; try simp only [World.size_alloc, World.size_setCell, World.size_drew] at hbs) | (go_at_call 26; (with_reducible refine (P2.call _).mono ?_); rintro e w7 ⟨rfl, hb7⟩; have hb := hb7; obtain ⟨hc, hf⟩ := bcell hb; have HL := keepL (by (repeat (first | (with_reducible assumption) | (with_reducible apply AllLt.alloc) | (with_reducible apply AllLt.setCell) | (with_reducible apply AllLt.drew) | (with_reducible exact AllLt.nil _)))) hb; have hq := HL; simp only [AllLt, and_true, World.size_alloc, World.size_setCell, World.size_drew] at hq; have hbs := hb.size; try simp only [World.size_alloc, World.size_setCell, World.size_drew] at hbs))
      go_returns; exact ⟨rfl, by (repeat' (first | (with_reducible exact Below.refl _ _) | (with_reducible assumption) | (with_reducible refine Below.alloc ?_ ?_ _) | (with_reducible refine Below.drew ?_) | (with_reducible refine Below.setCell ?_ ?_ _) | (with_reducible refine Below.trans ?_ (Below.mono (by assumption) ?_)) | (with_reducible exact Nat.le_refl _) | omega | (simp only [World.size_alloc, World.size_setCell, World.size_drew]; omega) | (simp; omega) | (simp; done)))⟩
  · go_enter Try.func6, Try.ntmps6
    go_wp2_with fail
    refine (big_yes _ _ _ _ hl).mono ?_
    rintro e w0 ⟨rfl, rfl⟩
    go_wp2
    all_goals (go_returns; exact ⟨rfl, by (repeat' (first | (with_reducible exact Below.refl _ _) | (with_reducible assumption) | (with_reducible refine Below.alloc ?_ ?_ _) | (with_reducible refine Below.drew ?_) | (with_reducible refine Below.setCell ?_ ?_ _) | (with_reducible refine Below.trans ?_ (Below.mono (by assumption) ?_)) | (with_reducible exact Nat.le_refl _) | omega | (simp only [World.size_alloc, World.size_setCell, World.size_drew]; omega) | (simp; omega) | (simp; done)))⟩)
end Go.Proofs.Ytljilmekmfnkbaa.wFnColourText
