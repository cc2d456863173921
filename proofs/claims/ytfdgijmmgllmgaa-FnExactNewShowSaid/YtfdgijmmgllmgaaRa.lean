/-
  IsShow of a show without shards, beads and log, whatever its words are: the program and the model.
-/
import Derived.Test.YtfdgijmmgllmgaaCd
import Derived.Test.YtfdgijmmgllmgaaHb
import Derived.Test.YtfdgijmmgllmgaaKk
import Derived.Test.YtfdgijmmgllmgaaAp
import Derived.Lib.Hide
namespace Go.Proofs.Ytfdgijmmgllmgaa
open Go.ChangeShapes Go.WideShapes Go.ChangeAt Go.RowKit Go.Joins
set_option linter.unusedSimpArgs false
set_option linter.unusedVariables false
set_option maxRecDepth 100000
attribute [local go_sem] store_f
open Ieee Go.Lib

def lieB (x lo hi : Int) : Bool := decide (lo ≤ x) && decide (x ≤ hi)
theorem lieB_yes {x lo hi : Int} (h : lo ≤ x) (h' : x ≤ hi) : lieB x lo hi = true := by simp [lieB, h, h']
theorem lieB_no {x lo hi : Int} (h : ¬ (lo ≤ x ∧ x ≤ hi)) : lieB x lo hi = false := by
  simp [lieB]
  omega

theorem l1In_s (x lo hi : Int) (w : World) :
    Calls Try.prog 75 #[.int .i64 x, .int .i64 lo, .int .i64 hi] w fun e w' => e = .returned (.bool (lieB x lo hi)) ∧ Below w.heap.size w w' := by
  by_cases h : lo ≤ x
  · by_cases h' : x ≤ hi
    · rw [lieB_yes h h']
      go_enter Try.func75, Try.ntmps75
      go_wp2
      go_returns; exact ⟨rfl, by (repeat' (first | (with_reducible exact Below.refl _ _) | (with_reducible assumption) | (with_reducible refine Below.alloc ?_ ?_ _) | (with_reducible refine Below.drew ?_) | (with_reducible refine Below.setCell ?_ ?_ _) | (with_reducible refine Below.trans ?_ (Below.mono (by assumption) ?_)) | (with_reducible exact Nat.le_refl _) | omega | (simp only [World.size_alloc, World.size_setCell, World.size_drew]; omega) | (simp; omega) | (simp; done)))⟩
    · rw [lieB_no (fun q => h' q.2)]
      go_enter Try.func75, Try.ntmps75
      go_wp2
      go_returns; exact ⟨rfl, by (repeat' (first | (with_reducible exact Below.refl _ _) | (with_reducible assumption) | (with_reducible refine Below.alloc ?_ ?_ _) | (with_reducible refine Below.drew ?_) | (with_reducible refine Below.setCell ?_ ?_ _) | (with_reducible refine Below.trans ?_ (Below.mono (by assumption) ?_)) | (with_reducible exact Nat.le_refl _) | omega | (simp only [World.size_alloc, World.size_setCell, World.size_drew]; omega) | (simp; omega) | (simp; done)))⟩
  · rw [lieB_no (fun q => h q.1)]
    go_enter Try.func75, Try.ntmps75
    go_wp2
    go_returns; exact ⟨rfl, by (repeat' (first | (with_reducible exact Below.refl _ _) | (with_reducible assumption) | (with_reducible refine Below.alloc ?_ ?_ _) | (with_reducible refine Below.drew ?_) | (with_reducible refine Below.setCell ?_ ?_ _) | (with_reducible refine Below.trans ?_ (Below.mono (by assumption) ?_)) | (with_reducible exact Nat.le_refl _) | omega | (simp only [World.size_alloc, World.size_setCell, World.size_drew]; omega) | (simp; omega) | (simp; done)))⟩


def stepQ (t : Nat) : Bool := (FloatKind.f32.format.order t 0 == some .gt) && (FloatKind.f32.format.order t 1132462080 == some .lt || FloatKind.f32.format.order t 1132462080 == some .eq)
def bareQ (k n : Int) (t r g b : Nat) : Bool := sizeB n && stepQ t && colB r g b && kindB k

/-! The program. -/
theorem isStep_q (t : Nat) (w : World) : Calls Try.prog 83 #[.float .f32 t] w fun e w' => e = .returned (.bool (stepQ t)) ∧ w' = w := by
  go_enter Try.func83, Try.ntmps83
  go_wp2
  all_goals (go_ret; exact ⟨by simp_all [stepQ], rfl⟩)
theorem areNil_i (w : World) : Calls Try.prog 84 #[.slice Option.none 0 0] w fun e w' => e = .returned (.bool true) ∧ Below w.heap.size w w' := by
  go_enter Try.func84, Try.ntmps84
  go_wp2_with fail
  go_loopw [10] (fun i wr => i = .int .i64 0 ∧ Below w.heap.size w wr) (fun _ _ => 0)
  case atStart => exact ⟨rfl, by (repeat' (first | (with_reducible exact Below.refl _ _) | (with_reducible assumption) | (with_reducible refine Below.alloc ?_ ?_ _) | (with_reducible refine Below.drew ?_) | (with_reducible refine Below.setCell ?_ ?_ _) | (with_reducible refine Below.trans ?_ (Below.mono (by assumption) ?_)) | (with_reducible exact Nat.le_refl _) | omega | (simp only [World.size_alloc, World.size_setCell, World.size_drew]; omega) | (simp; omega) | (simp; done)))⟩
  case round =>
    obtain ⟨rfl, hb⟩ := hrel
    go_wp2
    go_ret
    exact ⟨rfl, hb⟩
theorem logNil_i (w : World) : Calls Try.prog 86 #[.slice Option.none 0 0] w fun e w' => e = .returned (.bool true) ∧ Below w.heap.size w w' := by
  go_enter Try.func86, Try.ntmps86
  go_wp2_with fail
  go_loopw [10] (fun i wr => i = .int .i64 0 ∧ Below w.heap.size w wr) (fun _ _ => 0)
  case atStart => exact ⟨rfl, by (repeat' (first | (with_reducible exact Below.refl _ _) | (with_reducible assumption) | (with_reducible refine Below.alloc ?_ ?_ _) | (with_reducible refine Below.drew ?_) | (with_reducible refine Below.setCell ?_ ?_ _) | (with_reducible refine Below.trans ?_ (Below.mono (by assumption) ?_)) | (with_reducible exact Nat.le_refl _) | omega | (simp only [World.size_alloc, World.size_setCell, World.size_drew]; omega) | (simp; omega) | (simp; done)))⟩
  case round =>
    obtain ⟨rfl, hb⟩ := hrel
    go_wp2
    go_ret
    exact ⟨rfl, hb⟩
theorem share0 : shareB 0 = true := by decide +kernel
theorem inB0 : inB 0 = true := by decide +kernel
theorem tumNil_i (k : Int) (w : World) : Calls Try.prog 85 #[.agg #[.int .i64 k, .complex .f32 0 0, .float .f32 0, .slice Option.none 0 0]] w fun e w' => e = .returned (.bool (kindB k)) ∧ Below w.heap.size w w' := by
  have YK := fun w => isKind_i k w
  have YS := fun w => isShare_i 0 w
  rw [share0] at YS
  have YP := fun w => isPoint_yes 0 0 w inB0 inB0
  generalize kindB k = q at *
  cases q
  · go_enter Try.func85, Try.ntmps85
    go_wp2_with (first | (go_at_call 28; (with_reducible refine (YK _).mono ?_); rintro e w3 ⟨rfl, rfl⟩))
    go_ret
    exact ⟨rfl, by (repeat' (first | (with_reducible exact Below.refl _ _) | (with_reducible assumption) | (with_reducible refine Below.alloc ?_ ?_ _) | (with_reducible refine Below.drew ?_) | (with_reducible refine Below.setCell ?_ ?_ _) | (with_reducible refine Below.trans ?_ (Below.mono (by assumption) ?_)) | (with_reducible exact Nat.le_refl _) | omega | (simp only [World.size_alloc, World.size_setCell, World.size_drew]; omega) | (simp; omega) | (simp; done)))⟩
  · go_enter Try.func85, Try.ntmps85
    go_wp2_with (first | (go_at_call 28; (with_reducible refine (YK _).mono ?_); rintro e w3 ⟨rfl, rfl⟩) | (go_at_call 120; (with_reducible refine (YP _).mono ?_); rintro e w4 ⟨rfl, rfl⟩) | (go_at_call 98; (with_reducible refine (YS _).mono ?_); rintro e w4 ⟨rfl, rfl⟩))
    go_loopw [30] (fun i wr => i = .int .i64 0 ∧ Below w.heap.size w wr) (fun _ _ => 0)
    case atStart => exact ⟨rfl, by (repeat' (first | (with_reducible exact Below.refl _ _) | (with_reducible assumption) | (with_reducible refine Below.alloc ?_ ?_ _) | (with_reducible refine Below.drew ?_) | (with_reducible refine Below.setCell ?_ ?_ _) | (with_reducible refine Below.trans ?_ (Below.mono (by assumption) ?_)) | (with_reducible exact Nat.le_refl _) | omega | (simp only [World.size_alloc, World.size_setCell, World.size_drew]; omega) | (simp; omega) | (simp; done)))⟩
    case round =>
      obtain ⟨rfl, hb⟩ := hrel
      go_wp2
      go_ret
      exact ⟨rfl, hb⟩

/-- IsShow of a bare show. -/
structure BareIs (F : FuncId) (k n : Int) (t r g b : Nat) (p : Bool) : Prop where
  call : ∀ w : World, Calls Try.prog F #[.agg #[.int .i64 n, .float .f32 t, .float .f32 r, .float .f32 g, .float .f32 b, .slice Option.none 0 0, .int .i64 k, .complex .f32 0 0, .float .f32 0, .slice Option.none 0 0, .int .i64 0, .slice Option.none 0 0]] w fun e w' => e = .returned (.bool p) ∧ Below w.heap.size w w'
set_option maxHeartbeats 16000000 in
theorem bareIs_i (k n : Int) (t r g b : Nat) : BareIs 45 k n t r g b (bareQ k n t r g b) := ⟨fun w => by
  have Y1 := fun w => isSize_i n w
  have Y2 := fun w => isStep_q t w
  have Y3 : Hid (∀ w : World, Calls Try.prog 63 #[.agg #[.float .f32 r, .float .f32 g, .float .f32 b]] w fun e w' => e = .returned (.bool (colB r g b)) ∧ Below w.heap.size w w') := fun w => isColour_i r g b w
  have Y5 := fun w => tumNil_i k w
  unfold bareQ
  generalize sizeB n = q1 at *
  generalize stepQ t = q2 at *
  generalize colB r g b = q3 at *
  generalize kindB k = q4 at *
  have H1 := Lib.hid Y1
  have H2 := Lib.hid Y2
  have H5 := Lib.hid Y5
  clear Y1 Y2 Y5
  cases q1
  · go_enter Try.func45, Try.ntmps45
    go_wp2_with (go_at_call 62; (with_reducible refine (H1.out _).mono ?_); rintro e w1 ⟨rfl, rfl⟩)
    go_ret
    exact ⟨rfl, by (repeat' (first | (with_reducible exact Below.refl _ _) | (with_reducible assumption) | (with_reducible refine Below.alloc ?_ ?_ _) | (with_reducible refine Below.drew ?_) | (with_reducible refine Below.setCell ?_ ?_ _) | (with_reducible refine Below.trans ?_ (Below.mono (by assumption) ?_)) | (with_reducible exact Nat.le_refl _) | omega | (simp only [World.size_alloc, World.size_setCell, World.size_drew]; omega) | (simp; omega) | (simp; done)))⟩
  · cases q2
    · go_enter Try.func45, Try.ntmps45
      go_wp2_with (first | (go_at_call 62; (with_reducible refine (H1.out _).mono ?_); rintro e w1 ⟨rfl, rfl⟩) | (go_at_call 83; (with_reducible refine (H2.out _).mono ?_); rintro e w2 ⟨rfl, rfl⟩))
      go_ret
      exact ⟨rfl, by (repeat' (first | (with_reducible exact Below.refl _ _) | (with_reducible assumption) | (with_reducible refine Below.alloc ?_ ?_ _) | (with_reducible refine Below.drew ?_) | (with_reducible refine Below.setCell ?_ ?_ _) | (with_reducible refine Below.trans ?_ (Below.mono (by assumption) ?_)) | (with_reducible exact Nat.le_refl _) | omega | (simp only [World.size_alloc, World.size_setCell, World.size_drew]; omega) | (simp; omega) | (simp; done)))⟩
    · go_enter Try.func45, Try.ntmps45
      go_wp2_with (first | (go_at_call 62; (with_reducible refine (H1.out _).mono ?_); rintro e w1 ⟨rfl, rfl⟩) | (go_at_call 83; (with_reducible refine (H2.out _).mono ?_); rintro e w2 ⟨rfl, rfl⟩))
      generalize hX : w.alloc (.cells #[.int .i64 n, .float .f32 t, .float .f32 r, .float .f32 g, .float .f32 b, .slice Option.none 0 0, .int .i64 k, .complex .f32 0 0, .float .f32 0, .slice Option.none 0 0, .int .i64 0, .slice Option.none 0 0] 55) = X
      have M0 : Hid (Blk X w.heap.size #[.int .i64 n, .float .f32 t, .float .f32 r, .float .f32 g, .float .f32 b, .slice Option.none 0 0, .int .i64 k, .complex .f32 0 0, .float .f32 0, .slice Option.none 0 0, .int .i64 0, .slice Option.none 0 0] 55) := by rw [← hX]; exact Blk.new _ _ _
      have G0 : Hid (Below w.heap.size w X) := by rw [← hX]; show Below w.heap.size w _; (repeat' (first | (with_reducible exact Below.refl _ _) | (with_reducible assumption) | (with_reducible refine Below.alloc ?_ ?_ _) | (with_reducible refine Below.drew ?_) | (with_reducible refine Below.setCell ?_ ?_ _) | (with_reducible refine Below.trans ?_ (Below.mono (by assumption) ?_)) | (with_reducible exact Nat.le_refl _) | omega | (simp only [World.size_alloc, World.size_setCell, World.size_drew]; omega) | (simp; omega) | (simp; done)))
      clear hX
      refine (Y3.out _).mono ?_
      rintro e w3 ⟨rfl, hb⟩
      have M3 := Lib.hid (M0.out.below hb)
      have G3 : Hid (Below w.heap.size w w3) := G0.out.trans (hb.mono G0.out.size)
      clear hb M0 G0
      cases q3
      · go_wp2
        go_ret
        exact ⟨rfl, G3.out⟩
      · (have p0 := Blk.cellAt (i := 0) M3.out rfl; have p1 := Blk.cellAt (i := 1) M3.out rfl; have p2 := Blk.cellAt (i := 2) M3.out rfl; have p3 := Blk.cellAt (i := 3) M3.out rfl; have p4 := Blk.cellAt (i := 4) M3.out rfl; have p5 := Blk.cellAt (i := 5) M3.out rfl; have p6 := Blk.cellAt (i := 6) M3.out rfl; have p7 := Blk.cellAt (i := 7) M3.out rfl; have p8 := Blk.cellAt (i := 8) M3.out rfl; have p9 := Blk.cellAt (i := 9) M3.out rfl; have p10 := Blk.cellAt (i := 10) M3.out rfl; have p11 := Blk.cellAt (i := 11) M3.out rfl; simp only [List.getElem_toArray, List.getElem_cons_zero, List.getElem_cons_succ] at p0 p1 p2 p3 p4 p5 p6 p7 p8 p9 p10 p11)
        have l3 := M3.out.lt
        go_wp2_with fail
        refine (areNil_i _).mono ?_
        rintro e w4 ⟨rfl, hb⟩
        have M4 := Lib.hid (M3.out.below hb)
        have G4 : Hid (Below w.heap.size w w4) := G3.out.trans (hb.mono G3.out.size)
        clear hb M3 G3 p0 p1 p2 p3 p4 p5 p6 p7 p8 p9 p10 p11 l3
        (have p0 := Blk.cellAt (i := 0) M4.out rfl; have p1 := Blk.cellAt (i := 1) M4.out rfl; have p2 := Blk.cellAt (i := 2) M4.out rfl; have p3 := Blk.cellAt (i := 3) M4.out rfl; have p4 := Blk.cellAt (i := 4) M4.out rfl; have p5 := Blk.cellAt (i := 5) M4.out rfl; have p6 := Blk.cellAt (i := 6) M4.out rfl; have p7 := Blk.cellAt (i := 7) M4.out rfl; have p8 := Blk.cellAt (i := 8) M4.out rfl; have p9 := Blk.cellAt (i := 9) M4.out rfl; have p10 := Blk.cellAt (i := 10) M4.out rfl; have p11 := Blk.cellAt (i := 11) M4.out rfl; simp only [List.getElem_toArray, List.getElem_cons_zero, List.getElem_cons_succ] at p0 p1 p2 p3 p4 p5 p6 p7 p8 p9 p10 p11)
        have l4 := M4.out.lt
        go_wp2_with fail
        refine (H5.out _).mono ?_
        rintro e w5 ⟨rfl, hb⟩
        have M5 := Lib.hid (M4.out.below hb)
        have G5 : Hid (Below w.heap.size w w5) := G4.out.trans (hb.mono G4.out.size)
        clear hb M4 G4 p0 p1 p2 p3 p4 p5 p6 p7 p8 p9 p10 p11 l4
        cases q4
        · go_wp2
          go_ret
          exact ⟨rfl, G5.out⟩
        · (have p0 := Blk.cellAt (i := 0) M5.out rfl; have p1 := Blk.cellAt (i := 1) M5.out rfl; have p2 := Blk.cellAt (i := 2) M5.out rfl; have p3 := Blk.cellAt (i := 3) M5.out rfl; have p4 := Blk.cellAt (i := 4) M5.out rfl; have p5 := Blk.cellAt (i := 5) M5.out rfl; have p6 := Blk.cellAt (i := 6) M5.out rfl; have p7 := Blk.cellAt (i := 7) M5.out rfl; have p8 := Blk.cellAt (i := 8) M5.out rfl; have p9 := Blk.cellAt (i := 9) M5.out rfl; have p10 := Blk.cellAt (i := 10) M5.out rfl; have p11 := Blk.cellAt (i := 11) M5.out rfl; simp only [List.getElem_toArray, List.getElem_cons_zero, List.getElem_cons_succ] at p0 p1 p2 p3 p4 p5 p6 p7 p8 p9 p10 p11)
          have l5 := M5.out.lt
          go_wp2_with fail
          refine (logNil_i _).mono ?_
          rintro e w6 ⟨rfl, hb⟩
          have G6 : Hid (Below w.heap.size w w6) := G5.out.trans (hb.mono G5.out.size)
          clear hb M5 G5 p0 p1 p2 p3 p4 p5 p6 p7 p8 p9 p10 p11 l5
          go_wp2
          go_ret
          exact ⟨rfl, G6.out⟩⟩
end Go.Proofs.Ytfdgijmmgllmgaa
