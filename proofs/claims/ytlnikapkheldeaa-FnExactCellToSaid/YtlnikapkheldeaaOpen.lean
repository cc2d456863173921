/-
  What an argument that reads as data looks like: a symmetry, an integer, a slice of integers or of bytes.
-/
import Derived.Test.YtlnikapkheldeaaLift
namespace Go.Proofs.Ytlnikapkheldeaa
open Go.ChangeShapes Go.WideShapes Go.ChangeAt Go.RowKit Go.Joins

section
variable {H : Type} {enc : TypeId × Value → H} {W : World} {base : Nat} {spare : Nat → Bool} {held : Bool} {v : Value} {d : DataW H} {p : List MemPlace}

theorem wf_i64 {n : Int} (h : (Lit.int .i64 n).wf = true) : -9223372036854775808 ≤ n ∧ n ≤ 9223372036854775807 := bounds_i64 h

set_option maxRecDepth 100000 in
theorem open_lsym (hok : Value.okWide Try.prog W .any base 76 v) (h : DataW.Trod enc Try.prog W 0 spare held 76 v d p) :
    ∃ (t : Int) (f : Bool), v = .agg #[.int .i64 t, .bool f] ∧ -9223372036854775808 ≤ t ∧ t ≤ 9223372036854775807 := by
  obtain ⟨c0, c1, y0, y1, m, rfl, rfl, rfl, hy0, hy1⟩ := open_agg2 Try.underlying76 (by kernel_rfl) (by kernel_rfl) hok h
  obtain ⟨a, e0, rfl, wa⟩ := DataW.trod_int Try.underlying3 hy0
  obtain ⟨b, e1, rfl⟩ := DataW.trod_bool Try.underlying4 hy1
  simp at e0 e1
  subst e0 e1
  exact ⟨a, b, rfl, wf_i64 wa⟩

set_option maxRecDepth 100000 in
theorem open_i (hok : Value.okWide Try.prog W .any base 3 v) (h : DataW.Trod enc Try.prog W 0 spare held 3 v d p) :
    ∃ n : Int, v = .int .i64 n ∧ -9223372036854775808 ≤ n ∧ n ≤ 9223372036854775807 := by
  obtain ⟨x, rfl, rfl, rfl, wx⟩ := open_int Try.underlying3 hok h
  exact ⟨x, rfl, wf_i64 wx⟩
end
end Go.Proofs.Ytlnikapkheldeaa
