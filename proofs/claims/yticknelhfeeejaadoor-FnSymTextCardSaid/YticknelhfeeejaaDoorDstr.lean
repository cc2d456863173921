/-
  The draw of a text of a list of nine.
-/
import Derived.Test.YticknelhfeeejaaDoorDgen
namespace Go.Proofs.YticknelhfeeejaaDoor
open Go.ChangeShapes Go.WideShapes Go.ChangeAt Go.RowKit Go.Joins 
set_option linter.unusedSimpArgs false
set_option linter.unusedVariables false
set_option maxRecDepth 100000

structure StrDrawn (B q : Nat) (w : World) (e : Ending) (w' : World) (s : ByteArray) : Prop where
  ret : e = .returned (.string s)
  cur : Cur B w' q
  grown : w.grownBy w' (some q)

set_option maxHeartbeats 1000000 in
theorem l1Str_s (B q g : Nat) (s0 s1 s2 s3 s4 s5 s6 s7 s8 : ByteArray) (t : TypeId) (w : World) (hcur : Cur B w q) (hne : g ≠ q)
    (hrow : Blk w g #[.string s0, .string s1, .string s2, .string s3, .string s4, .string s5, .string s6, .string s7, .string s8] t) :
    Calls Tryd.prog 20 #[.pointer (some ⟨q, 0, Option.none⟩), .slice (some ⟨g, 0, Option.none⟩) 9 9] w fun e w' => ∃ s, StrDrawn B q w e w' s := by
  have HC : Hid (Cur B w q) := hcur
  have HB : Hid (Blk w g #[.string s0, .string s1, .string s2, .string s3, .string s4, .string s5, .string s6, .string s7, .string s8] t) := hrow
  clear hcur hrow
  go_enter Tryd.func20, Tryd.ntmps20
  go_wp2_with fail
  refine (l1Below_s B q 9 _ HC.out (by omega) (by omega)).mono ?_
  rintro e w1 ⟨x, rfl, hx0, hx1, hc1, hg1⟩
  have HB1 := HB.out.grown hg1 hne
  have HC1 : Hid (Cur B w1 q) := hc1
  have HG1 : Hid (w.grownBy w1 (some q)) := hg1
  have l1 := HB1.lt
  have d0 := Blk.cellAt (i := 0) HB1 rfl
  have d1 := Blk.cellAt (i := 1) HB1 rfl
  have d2 := Blk.cellAt (i := 2) HB1 rfl
  have d3 := Blk.cellAt (i := 3) HB1 rfl
  have d4 := Blk.cellAt (i := 4) HB1 rfl
  have d5 := Blk.cellAt (i := 5) HB1 rfl
  have d6 := Blk.cellAt (i := 6) HB1 rfl
  have d7 := Blk.cellAt (i := 7) HB1 rfl
  have d8 := Blk.cellAt (i := 8) HB1 rfl
  simp at d0 d1 d2 d3 d4 d5 d6 d7 d8
  clear hc1 hg1 HB1
  rcases (by omega : x = 0 ∨ x = 1 ∨ x = 2 ∨ x = 3 ∨ x = 4 ∨ x = 5 ∨ x = 6 ∨ x = 7 ∨ x = 8) with rfl | rfl | rfl | rfl | rfl | rfl | rfl | rfl | rfl
  all_goals
    go_wp2
    go_ret
    exact ⟨_, rfl, HC1.out, HG1.out⟩

end Go.Proofs.YticknelhfeeejaaDoor
