/-
  Texts of this proof, joined: Gp, Oa.
-/
import Derived.Test.YtlnikapkheldeaaK33
import Derived.Maps.AppendAt
import Derived.Test.YtlnikapkheldeaaK09
import Derived.Test.YtlnikapkheldeaaK27
import Derived.Sort.Grow
/-
  The draw of a list of shards.
-/
namespace Go.Proofs.Ytlnikapkheldeaa
open Go.ChangeShapes Go.WideShapes Go.ChangeAt Go.RowKit Go.Joins
set_option linter.unusedSimpArgs false
set_option linter.unusedVariables false
set_option maxRecDepth 100000
attribute [local go_sem] store_f
open Ieee

theorem infoSh : (Try.prog.info? 57).map (fun i => (i.zero, i.size, i.bytes)) = some (some (.agg #[.complex .f32 0 0, .complex .f32 0 0, .complex .f32 0 0, .float .f32 0, .float .f32 0, .float .f32 0, .float .f32 0]), 7, 40) := by kernel_rfl
theorem ownsGrown {W w1 : World} {base : Nat} {e : TypeId} {size : Nat} {v : Value} {n : Nat} {xs : List Value} {q : Nat} (hg : W.grownBy w1 (some q)) (hq : q < base) (h : W.ownsRow base e size v n xs) : w1.ownsRow base e size v n xs := by
  obtain ⟨h1, h2⟩ := h
  refine ⟨h1, ?_⟩
  rcases h2 with h2 | ⟨g, cap, cur, e1, e2, e3, e4⟩
  · exact .inl h2
  · refine .inr ⟨g, cap, cur, e1, e2, ?_, e4⟩
    rw [hg.block g (Array.getElem?_eq_some_iff.1 e3).1 (fun e => by cases e; omega)]
    exact e3
theorem Cur.belowAt {W w1 : World} {B q N : Nat} (h : Cur B W q) (hb : Below N W w1) (hq : q < N) : Cur B w1 q := by
  obtain ⟨a, len, cap, bs, i, hh, h1, h2, h3, h4, h5⟩ := h
  exact ⟨a, len, cap, bs, i, hh, (hb.block q hq).trans h1, h2, h3, h4.of (hb.mono (by omega)), h5⟩
theorem grown_step {w w1 w2 : World} {q : Nat} {r : Option Nat} (h : w.grownBy w1 (some q)) (k : w1.grownBy w2 r) (hr : ∀ x, r = some x → w.heap.size ≤ x) : w.grownBy w2 (some q) :=
  ⟨k.os.trans h.os, k.tape.trans h.tape, k.output.trans h.output, Nat.le_trans h.size k.size, fun i hi hne => (k.block i (Nat.lt_of_lt_of_le hi h.size) (fun e => by have := hr i e.symm; omega)).trans (h.block i hi hne)⟩

structure ListDrawn (B q : Nat) (w : World) (e : Ending) (w' : World) (l : List Shd) : Prop where
  ret : ∃ g cap, e = .returned (.slice (some ⟨g, 0, Option.none⟩) l.length cap) ∧ w.heap.size ≤ g ∧ g < w'.heap.size ∧ ShRow w' g 0 l ∧ l.length ≤ cap
  len : l.length ≤ 6
  ok : ∀ s ∈ l, s.Drawn
  cur : Cur B w' q
  grown : w.grownBy w' (some q)

set_option maxHeartbeats 4000000 in
theorem l3List_s (B q : Nat) (w : World) (hcur : Cur B w q) :
    Calls Try.prog 89 #[.pointer (some ⟨q, 0, Option.none⟩), .int .i64 6] w fun e w' => ∃ l, ListDrawn B q w e w' l := by
  obtain ⟨i0, hi, hz0, hz1, hz2⟩ := info_parts infoSh
  have HC : Hid (Cur B w q) := hcur
  have hq := hcur.lt
  clear hcur
  go_enter Try.func89, Try.ntmps89
  go_wp2_with fail
  have C0 : Hid (Cur B (w.alloc (.cells #[] 57)) q) := HC.out.alloc
  have G0 : Hid (w.grownBy (w.alloc (.cells #[] 57)) (some q)) := grown_alloc (grownBy_refl _ _) _
  have O0 : Hid ((w.alloc (.cells #[] 57)).ownsRow w.heap.size 57 7 (.slice (some ⟨w.heap.size, 0, Option.none⟩) 0 0) 0 []) := World.ownsRow_lit _ #[] 0 (by simp) (by unfold maxLen; omega) rfl
  refine (l1Below_s B q 7 _ C0.out (by omega) (by omega)).mono ?_
  rintro e w1 ⟨x, rfl, hx0, hx1, hc1, hg1⟩
  obtain ⟨n, rfl⟩ : ∃ n : Nat, x = n := ⟨x.toNat, by omega⟩
  have C1 : Hid (Cur B w1 q) := hc1
  have G1 : Hid (w.grownBy w1 (some q)) := grownBy_trans G0.out hg1
  have O1 : Hid (w1.ownsRow w.heap.size 57 7 (.slice (some ⟨w.heap.size, 0, Option.none⟩) 0 0) 0 []) := ownsGrown hg1 hq O0.out
  clear hc1 hg1 HC C0 G0 O0
  go_wp2_with fail
  go_loopw [5, 6] (fun v i wr => ∃ (l : List Shd) (k : Nat), i = .int .i64 k ∧ l.length + k ≤ 6 ∧ (∀ s ∈ l, s.Drawn) ∧ wr.ownsRow w.heap.size 57 7 v l.length (shCells l) ∧ v ≠ .slice Option.none 0 0 ∧ Cur B wr q ∧ w.grownBy wr (some q))
    (fun _ i _ => (intOf i).toNat)
  case atStart => exact ⟨[], n, rfl, by simp; omega, by simp, O1.out, by simp, C1.out, G1.out⟩
  case round =>
    obtain ⟨l, k, rfl, hlk, hok, hown, hnn, hcur, hgr⟩ := hrel
    have HN : Hid (u5 ≠ .slice Option.none 0 0) := hnn
    have HO : Hid (∀ s ∈ l, s.Drawn) := hok
    have HW : Hid (wr.ownsRow w.heap.size 57 7 u5 l.length (shCells l)) := hown
    have HC : Hid (Cur B wr q) := hcur
    have HG : Hid (w.grownBy wr (some q)) := hgr
    clear hok hown hnn hcur hgr
    by_cases hk : 0 < k
    · go_wp2_with fail
      refine (l3Draw_s B q _ HC.out).mono ?_
      rintro e w2 ⟨s, ⟨rfl, hs, hc2, hg2⟩⟩
      have hown2 : w2.ownsRow w.heap.size 57 7 u5 l.length (shCells l) := ownsGrown hg2 hq HW.out
      have HC2 : Hid (Cur B w2 q) := hc2
      have HG2 : Hid (w.grownBy w2 (some q)) := grownBy_trans HG.out hg2
      have HS : Hid s.Drawn := hs
      have sz2 := HG2.out.size
      clear hc2 hg2 hs
      go_wp2_with (at_builtin; go_loud (refine wpList_append_own _ rfl _ _ 46 rfl w.heap.size 57 i0 (.agg #[.complex .f32 0 0, .complex .f32 0 0, .complex .f32 0 0, .float .f32 0, .float .f32 0, .float .f32 0, .float .f32 0]) 7 40 Try.underlying46 hi hz0 hz1 hz2 rfl (by decide) _ l.length (shCells l) rfl ?hown ⟨w2.heap.size, 0, Option.none⟩ 1 1 s.cells rfl rfl ?c1 ?c2 ?c3 ?c4 ?c5 ?_))
      case hown => (change World.ownsRow _ _ _ _ u5 _ _; (repeat (first | (with_reducible assumption) | (with_reducible refine World.ownsRow.alloc ?_ _) | (with_reducible refine World.ownsRow.drew ?_) | (with_reducible refine ownsBelow (by assumption) ?_))))
      case c1 =>
        intro j u hj
        rcases j with _ | _ | _ | _ | _ | _ | _ | j <;> simp [Shd.cells] at hj <;> subst hj <;> simp [Addr.add]
      case c2 =>
        intro u hu
        simp [Shd.cells] at hu
        rcases hu with rfl | rfl | rfl | rfl | rfl | rfl | rfl <;> rfl
      case c3 => (unfold maxLen; omega)
      case c4 => omega
      case c5 => first | omega | (simp only [World.size_alloc, World.size_setCell, World.size_drew]; omega)
      intro v' w3 hown' hgrow hvn
      have HV : Hid (v' ≠ .slice Option.none 0 0) := hvn
      have hlt := fun x hx => (hown2.lt x hx).1
      have HG3 : Hid (w.grownBy w3 (some q)) := grown_step (grown_alloc HG2.out _) hgrow hlt
      have hb3 : Below w.heap.size (w2.alloc (.cells #[.complex .f32 s.a1 s.a2, .complex .f32 s.b1 s.b2, .complex .f32 s.c1 s.c2, .float .f32 s.r, .float .f32 s.g, .float .f32 s.b, .float .f32 s.k] 57)) w3 := Below.grown (Below.refl _ _) hgrow (by first | omega | (simp only [World.size_alloc, World.size_setCell, World.size_drew]; omega)) hlt
      have HC3 : Hid (Cur B w3 q) := Cur.belowAt (Cur.alloc HC2.out) hb3 hq
      have HOW : Hid (w3.ownsRow w.heap.size 57 7 v' (l.length + 1) (shCells l ++ s.cells)) := hown'
      clear hgrow hvn hown' hown2 hb3 hlt
      go_wp2
      go_roundw
      case rel => exact ⟨l ++ [s], k - 1, by go_num, by simp; omega, fun t ht => (by
        rcases List.mem_append.1 ht with h | h
        · exact HO.out t h
        · simp at h; subst h; exact HS.out), by rw [shCells_snoc]; simpa using HOW.out, HV.out, HC3.out, HG3.out⟩
      case measure => simp [intOf]; omega
    · obtain rfl : k = 0 := by omega
      rcases ownsRow_forms HW.out with ⟨e, _⟩ | ⟨g, cap, rfl⟩
      · exact absurd e HN.out
      have hlt := HW.out.lt _ rfl
      have hcap : l.length ≤ cap := by
        obtain ⟨_, ⟨e, _⟩ | ⟨g', cap', cur, e1, _, _, e4, _⟩⟩ := HW.out
        · cases e
        · cases e1; exact e4
      have HR : Hid (ShRow wr g 0 l) := shRow_of HW.out rfl
      go_wp2
      go_ret
      exact ⟨l, ⟨g, cap, rfl, hlt.1, hlt.2, HR.out, hcap⟩, by omega, HO.out, HC.out, HG.out⟩
end Go.Proofs.Ytlnikapkheldeaa

/-
  How two points are compared: by the value of the real part, and then of the other one.
-/
namespace Go.Proofs.Ytlnikapkheldeaa
open Go.ChangeShapes Go.WideShapes Go.ChangeAt Go.RowKit Go.Joins
set_option linter.unusedSimpArgs false
set_option linter.unusedVariables false
set_option maxRecDepth 100000
attribute [local go_sem] store_f
open Ieee

/-- How two numbers compare: -1, 0 or 1. -/
def cmpV (a b : Int) : Int := if a < b then -1 else if b < a then 1 else 0

theorem compare_v {x y : Nat} (hx : Fin32 x) (hy : Fin32 y) (w : World) :
    Calls Try.prog 150 #[.float .f32 x, .float .f32 y] w fun e w' => e = .returned (.int .i64 (cmpV (valOf F32 x) (valOf F32 y))) ∧ w' = w := by
  have same : ∀ {z : Nat}, Fin32 z → FloatKind.f32.format.order z z = some .eq := fun {z} h => by
    show F32.order z z = _
    rw [order_fin F32 h h]; simp
  have h1 : (FloatKind.f32.format.order x y == some .lt) = decide (valOf F32 x < valOf F32 y) := by
    show (F32.order x y == some .lt) = _
    rw [order_fin F32 hx hy, cmp_lt]
  have h2 : (FloatKind.f32.format.order x y == some .gt) = decide (valOf F32 y < valOf F32 x) := by
    show (F32.order x y == some .gt) = _
    rw [order_fin F32 hx hy, cmp_gt]
  have := compare_of ⟨fun w => isNaN_no (same hx) w⟩ ⟨fun w => isNaN_no (same hy) w⟩ _ _ h1 h2 w
  unfold cmpV
  simpa using this

structure CmpM (x y : Nat) (n : Int) : Prop where
  call : ∀ w : World, Calls Try.prog 150 #[.float .f32 x, .float .f32 y] w fun e w' => e = .returned (.int .i64 n) ∧ w' = w

/-- The first one of two numbers that is not 0. -/
theorem or_i (g : Nat) (a b : Int) (w : World) (c0 : w.cell? ⟨g, 0, Option.none⟩ = some (.int .i64 a)) (c1 : w.cell? ⟨g, 1, Option.none⟩ = some (.int .i64 b)) :
    Calls Try.prog 149 #[.slice (some ⟨g, 0, Option.none⟩) 2 2] w fun e w' => e = .returned (.int .i64 (if a = 0 then b else a)) ∧ w = w' := by
  by_cases ha : a = 0
  · subst ha
    by_cases hb : b = 0
    · subst hb
      go_enter Try.func149, Try.ntmps149
      go_wp2
      refine wp_loop_rounds 3 ?_
      rw [rounds_succ]
      go_wp2
      rw [rounds_succ]
      go_wp2
      rw [rounds_succ]
      go_wp2
      go_ret
      exact ⟨rfl, rfl⟩
    · have h2 : (b != 0) = true := by simpa using hb
      go_enter Try.func149, Try.ntmps149
      go_wp2
      refine wp_loop_rounds 2 ?_
      rw [rounds_succ]
      go_wp2
      rw [rounds_succ]
      go_wp2
      go_ret
      exact ⟨rfl, rfl⟩
  · rw [if_neg ha]
    have h2 : (a != 0) = true := by simpa using ha
    go_enter Try.func149, Try.ntmps149
    go_wp2
    refine wp_loop_rounds 1 ?_
    rw [rounds_succ]
    go_wp2
    go_ret
    exact ⟨rfl, rfl⟩
end Go.Proofs.Ytlnikapkheldeaa
