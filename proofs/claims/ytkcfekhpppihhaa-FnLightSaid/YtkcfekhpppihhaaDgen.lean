/-
  Draws that every chapter makes: does it happen.
-/
import Derived.Test.YtkcfekhpppihhaaDcur
namespace Go.Proofs.Ytkcfekhpppihhaa
open Go.ChangeShapes Go.WideShapes Go.ChangeAt Go.RowKit Go.Joins 
set_option linter.unusedSimpArgs false
set_option linter.unusedVariables false
set_option maxRecDepth 100000

/-- What is drawn of a cursor, behind a name: so that no walk looks into it. -/
structure OnceDrawn (B q : Nat) (w : World) (e : Ending) (w' : World) (t : Bool) : Prop where
  ret : e = .returned (.bool t)
  cur : Cur B w' q
  grown : w.grownBy w' (some q)
theorem l1Once_s (B q : Nat) (n : Int) (w : World) (hcur : Cur B w q) (h1 : 1 ≤ n) (h2 : n ≤ 256) :
    Calls Try.prog 55 #[.pointer (some ⟨q, 0, Option.none⟩), .int .i64 n] w fun e w' => ∃ t : Bool, OnceDrawn B q w e w' t := by
  have HC : Hid (Cur B w q) := hcur
  clear hcur
  go_enter Try.func55, Try.ntmps55
  go_wp2_with fail
  refine (l1Below_s B q n _ HC.out h1 h2).mono ?_
  rintro e w1 ⟨x, rfl, hx0, hx1, hc1, hg1⟩
  have HC1 : Hid (Cur B w1 q) := hc1
  have HG1 : Hid (w.grownBy w1 (some q)) := hg1
  clear hc1 hg1
  go_wp2
  go_ret
  exact ⟨_, rfl, HC1.out, HG1.out⟩

end Go.Proofs.Ytkcfekhpppihhaa
