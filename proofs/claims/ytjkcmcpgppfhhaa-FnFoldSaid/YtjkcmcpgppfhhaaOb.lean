/-
  Points in reach as the library's sort and its Compact take them.
-/
import Derived.Test.YtjkcmcpgppfhhaaOa
import Derived.Test.YtjkcmcpgppfhhaaShelf
import Derived.Shelf.SlSortCmp.Kit1
namespace Go.Proofs.Ytjkcmcpgppfhhaa
open Go.ChangeShapes Go.WideShapes Go.ChangeAt Go.RowKit Go.Joins
set_option linter.unusedSimpArgs false
set_option linter.unusedVariables false
set_option maxRecDepth 100000
attribute [local go_sem] store_f
open Ieee

/-- How two points compare. -/
def cfV (X Y U V : Int) : Int := if cmpV X U = 0 then cmpV Y V else cmpV X U

set_option maxHeartbeats 1000000 in
theorem comparePoints_of {x y u v : Nat} {n m : Int} (C1 : CmpM x u n) (C2 : CmpM y v m) (w : World) :
    Calls Try.prog 31 #[.complex .f32 x y, .complex .f32 u v] w fun e w' => e = .returned (.int .i64 (if n = 0 then m else n)) ∧ ∃ o, w' = w.alloc o := by
  have O := fun g w => or_i g n m w
  have HO : Hid (∀ (g : Nat) (w : World), w.cell? ⟨g, 0, Option.none⟩ = some (.int .i64 n) → w.cell? ⟨g, 1, Option.none⟩ = some (.int .i64 m) → Calls Try.prog 39 #[.slice (some ⟨g, 0, Option.none⟩) 2 2] w fun e w' => e = .returned (.int .i64 (if n = 0 then m else n)) ∧ w = w') := O
  clear O
  generalize (if n = 0 then m else n) = r at HO ⊢
  go_enter Try.func31, Try.ntmps31
  go_wp2_with fail
  refine (C1.call _).mono ?_
  rintro e w1 ⟨rfl, rfl⟩
  go_wp2_with fail
  refine (C2.call _).mono ?_
  rintro e w2 ⟨rfl, rfl⟩
  go_wp2_with fail
  refine (HO.out _ _ (by ((repeat (first | (with_reducible assumption) | (with_reducible exact cNewAt (by first | rfl | (simp only [World.size_alloc, World.size_setCell, World.size_drew]; done) | omega) rfl) | (with_reducible exact sNewAt (by first | rfl | (simp only [World.size_alloc, World.size_setCell, World.size_drew]; done) | omega) rfl) | (simp; done) | (with_reducible apply cAlloc) | (with_reducible apply cDrew) | (with_reducible refine cSet (by dsimp only; omega) ?_) | (with_reducible refine cSetOff (by dsimp only; omega) ?_) | (with_reducible apply cSame) | (with_reducible refine cBelow (by assumption) ?_) | (with_reducible apply sAlloc) | (with_reducible apply sDrew) | (with_reducible refine sBelow (by assumption) ?_) | (with_reducible refine sSet (by dsimp only; omega) ?_))); first | done | (simp [*]; done))) (by ((repeat (first | (with_reducible assumption) | (with_reducible exact cNewAt (by first | rfl | (simp only [World.size_alloc, World.size_setCell, World.size_drew]; done) | omega) rfl) | (with_reducible exact sNewAt (by first | rfl | (simp only [World.size_alloc, World.size_setCell, World.size_drew]; done) | omega) rfl) | (simp; done) | (with_reducible apply cAlloc) | (with_reducible apply cDrew) | (with_reducible refine cSet (by dsimp only; omega) ?_) | (with_reducible refine cSetOff (by dsimp only; omega) ?_) | (with_reducible apply cSame) | (with_reducible refine cBelow (by assumption) ?_) | (with_reducible apply sAlloc) | (with_reducible apply sDrew) | (with_reducible refine sBelow (by assumption) ?_) | (with_reducible refine sSet (by dsimp only; omega) ?_))); first | done | (simp [*]; done)))).mono ?_
  rintro e w3 ⟨rfl, rfl⟩
  go_wp2
  go_ret
  exact ⟨rfl, _, rfl⟩

/-- A point whose parts are finite words of 32 bits in reach, 0 being +0. -/
abbrev PtW := { p : Nat × Nat // Pt p.1 ∧ Pt p.2 }
instance : Inhabited PtW := ⟨⟨(0, 0), ⟨⟨cl_zero, ok_zero⟩, ⟨cl_zero, ok_zero⟩⟩⟩⟩
/-- The point as the value that it is in memory. -/
def encP (p : PtW) : Value := .complex .f32 p.1.1 p.1.2
/-- The values of the parts. -/
def vX (p : PtW) : Int := valOf F32 p.1.1
def vY (p : PtW) : Int := valOf F32 p.1.2
def cfP (p q : PtW) : Int := cfV (vX p) (vY p) (vX q) (vY q)

theorem cl_inj {x y : Nat} (hx : Cl x) (hy : Cl y) (h : valOf F32 x = valOf F32 y) : x = y := by
  by_cases h0 : rungOf F32 x = 0
  · have h1 := val_eq_zero.2 h0
    rw [h1] at h
    rw [hx.zero h0, hy.zero (val_eq_zero.1 h.symm)]
  · have e1 : magOf F32 (rungOf F32 x) = magOf F32 (rungOf F32 y) := by
      unfold valOf at h
      split at h <;> split at h <;> omega
    have e2 : rungOf F32 x = rungOf F32 y := magOf_inj F32 e1
    have hp : 0 < magOf F32 (rungOf F32 x) := magOf_pos (by omega)
    have e3 : negOf F32 x = negOf F32 y := by
      unfold valOf at h
      cases hnx : negOf F32 x <;> cases hny : negOf F32 y <;> simp [hnx, hny] at h ⊢ <;> omega
    rw [← word_of F32 (w := x) (by rw [F32_w]; exact hx.lt), ← word_of F32 (w := y) (by rw [F32_w]; exact hy.lt), e2, e3]
theorem ptW_inj {p q : PtW} (h1 : vX p = vX q) (h2 : vY p = vY q) : p = q := by
  apply Subtype.ext
  apply Prod.ext
  · exact cl_inj p.2.1.cl q.2.1.cl h1
  · exact cl_inj p.2.2.cl q.2.2.cl h2

theorem oneP : OneCell encP := fun _ => rfl
theorem lt_iff (p q : PtW) : ltOf cfP p q = true ↔ (vX p < vX q ∨ (vX p = vX q ∧ vY p < vY q)) := by
  unfold ltOf cfP cfV cmpV
  rw [decide_eq_true_iff]
  generalize vX p = X
  generalize vX q = U
  generalize vY p = Y
  generalize vY q = V
  by_cases h1 : X < U
  · simp [h1]
  · by_cases h2 : U < X
    · have h3 : ¬ X = U := by omega
      simp [h1, h2, h3]
    · have h3 : X = U := by omega
      by_cases h4 : Y < V
      · simp [h3, h4]
      · by_cases h5 : V < Y
        · simp [h3, h4, h5]
        · simp [h3, h4, h5]
theorem lt_no (p q : PtW) : ltOf cfP p q = false ↔ ¬ (vX p < vX q ∨ (vX p = vX q ∧ vY p < vY q)) := by
  rw [← lt_iff]; simp
theorem swoP : Sort.SWO (ltOf cfP) := by
  refine ⟨fun x => ?_, fun x y z h1 h2 => ?_, fun x y z h1 h2 => ?_⟩
  · rw [lt_no]; omega
  · rw [lt_iff] at *; omega
  · rw [lt_no] at *; omega

theorem cmpLaysP (blk off size : Nat) (w : World) : CmpLays1 Try.prog 31 #[] encP cfP blk off size w := fun m os dk hs p q => by
  refine (comparePoints_of (x := p.1.1) (y := p.1.2) (u := q.1.1) (v := q.1.2) ⟨fun w => compare_v p.2.1.cl.fin q.2.1.cl.fin w⟩ ⟨fun w => compare_v p.2.2.cl.fin q.2.2.cl.fin w⟩ _).mono ?_
  rintro e w' ⟨rfl, o, rfl⟩
  exact ⟨rfl, 0, #[o], by rw [Sort.alloc_eq_grow]; rfl⟩

theorem eq_words {x y : Nat} (hx : Cl x) (hy : Cl y) : (FloatKind.f32.format.order x y == some .eq) = decide (x = y) := by
  show (F32.order x y == some .eq) = _
  rw [order_fin F32 hx.fin hy.fin, cmp_eq]
  by_cases h : x = y
  · subst h; simp
  · have : ¬ valOf F32 x = valOf F32 y := fun e => h (cl_inj hx hy e)
    simp [h, this]
theorem eq_points (p q : PtW) : ((FloatKind.f32.format.order p.1.1 q.1.1 == some .eq) && (FloatKind.f32.format.order p.1.2 q.1.2 == some .eq)) = decide (p = q) := by
  rw [eq_words p.2.1.cl q.2.1.cl, eq_words p.2.2.cl q.2.2.cl]
  by_cases h : p = q
  · subst h; simp
  · have : ¬ (p.1.1 = q.1.1 ∧ p.1.2 = q.1.2) := fun e => h (Subtype.ext (Prod.ext e.1 e.2))
    simp only [h, decide_false]
    simp only [Bool.and_eq_false_iff, decide_eq_false_iff_not]
    omega
theorem guardP (P : Program) (T : TypeId) : GuardAt P T encP := fun op a b x y w => by
  unfold encP
  rw [eqGuard_at_complex]; rfl
theorem eqlP (P : Program) (T : TypeId) : EqlAt P T encP (fun x y => decide (x = y)) := ⟨fun x y w => by unfold encP; rw [run_eql_complex, eq_points], guardP P T⟩
theorem neqP (P : Program) (T : TypeId) : NeqAt P T encP (fun x y => decide (x = y)) := ⟨fun x y w => by unfold encP; rw [run_neq_complex, eq_points], guardP P T⟩
end Go.Proofs.Ytjkcmcpgppfhhaa
