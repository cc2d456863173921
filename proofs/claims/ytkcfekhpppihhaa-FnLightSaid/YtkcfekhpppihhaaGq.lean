/-
  The draw of a point near shards; the draw of shards, a point and light.
-/
import Derived.Test.YtkcfekhpppihhaaGp
namespace Go.Proofs.Ytkcfekhpppihhaa
open Go.ChangeShapes Go.WideShapes Go.ChangeAt Go.RowKit Go.Joins
set_option linter.unusedSimpArgs false
set_option linter.unusedVariables false
set_option maxRecDepth 100000
attribute [local go_sem] store_f
open Ieee
attribute [local go_sem] store_c

/-- Where a point between corners lies. -/
structure Mid2 (x y r q : Nat) : Prop where
  add : F32.add x y = some r
  div : F32.div r 1073741824 = some q
  lt : q < 4294967296
structure Mid4 (x y z r s t q : Nat) : Prop where
  add : F32.add x y = some r
  mul : F32.mul 1073741824 z = some s
  sum : F32.add r s = some t
  div : F32.div t 1082130432 = some q
  lt : q < 4294967296

set_option maxHeartbeats 8000000 in
theorem l3Near_s (B q g cap : Nat) (l : List Shd) (w : World) (hcur : Cur B w q) (hrow : ShRow w g 0 l) (hne : g ≠ q) (hlen : l.length ≤ 6) (hok : ∀ s ∈ l, s.Drawn) :
    Calls Try.prog 24 #[.pointer (some ⟨q, 0, Option.none⟩), .slice (some ⟨g, 0, Option.none⟩) l.length cap] w fun e w' => ∃ x y, AnyDrawn B q w e w' x y := by
  have HC : Hid (Cur B w q) := hcur
  have HR : Hid (ShRow w g 0 l) := hrow
  have HO : Hid (∀ s ∈ l, s.Drawn) := hok
  have hq := hcur.lt
  clear hcur hrow hok
  by_cases h0 : l.length = 0
  · have hz : ((l.length : Int) == 0) = true := beq_iff_eq.2 (by omega)
    go_enter Try.func24, Try.ntmps24
    go_wp2_with fail
    refine (l1Any_s B q _ HC.out).mono ?_
    rintro e w1 ⟨x, y, ⟨rfl, hx, hy, hc1, hg1⟩⟩
    have HC1 : Hid (Cur B w1 q) := hc1
    have HG1 : Hid (w.grownBy w1 (some q)) := hg1
    have LX : Hid (x < 4294967296) := hx
    have LY : Hid (y < 4294967296) := hy
    clear hc1 hg1 hx hy
    go_wp2
    go_ret
    exact ⟨x, y, rfl, LX.out, LY.out, HC1.out, HG1.out⟩
  · have hz : ((l.length : Int) == 0) = false := beq_false_of_ne (by omega)
    go_enter Try.func24, Try.ntmps24
    go_wp2_with fail
    refine (l1Once_s B q 4 _ HC.out (by omega) (by omega)).mono ?_
    rintro e w1 ⟨t, ⟨rfl, hc1, hg1⟩⟩
    have HC1 : Hid (Cur B w1 q) := hc1
    have HG1 : Hid (w.grownBy w1 (some q)) := hg1
    have HR1 : Hid (ShRow w1 g 0 l) := HR.out.grown hg1 (fun e => hne (by cases e; rfl))
    clear hc1 hg1
    cases t
    · go_wp2_with fail
      refine (l1Below_s B q l.length _ HC1.out (by omega) (by omega)).mono ?_
      rintro e w2 ⟨x, rfl, hx0, hx1, hc2, hg2⟩
      obtain ⟨k, rfl⟩ : ∃ k : Nat, x = k := ⟨x.toNat, by omega⟩
      have hk : k < l.length := by omega
      have HC2 : Hid (Cur B w2 q) := hc2
      have HG2 : Hid (w.grownBy w2 (some q)) := grownBy_trans HG1.out hg2
      have hrow := HR1.out.grown hg2 (fun e => hne (by cases e; rfl)) k hk
      simp only [Nat.zero_add] at hrow
      have hmem : l.getD k default ∈ l := by simp [List.getD, hk]
      have DS : Hid (l.getD k default).Drawn := HO.out _ hmem
      generalize l.getD k default = s at hrow DS
      obtain ⟨d0, d1, d2, d3, d4, d5, d6⟩ := hrow
      clear hc2 hg2 hmem HR HR1 HO
      have hq2 := HC2.out.lt
      go_wp2_with fail
      have C3 : Hid (Cur B (w2.alloc (.cells #[.complex .f32 s.a1 s.a2, .complex .f32 s.b1 s.b2, .complex .f32 s.c1 s.c2, .float .f32 s.r, .float .f32 s.g, .float .f32 s.b, .float .f32 s.k] 37)) q) := HC2.out.alloc
      have G3 : Hid (w.grownBy (w2.alloc (.cells #[.complex .f32 s.a1 s.a2, .complex .f32 s.b1 s.b2, .complex .f32 s.c1 s.c2, .float .f32 s.r, .float .f32 s.g, .float .f32 s.b, .float .f32 s.k] 37)) (some q)) := grown_alloc HG2.out _
      have S3 : Hid (Blk (w2.alloc (.cells #[.complex .f32 s.a1 s.a2, .complex .f32 s.b1 s.b2, .complex .f32 s.c1 s.c2, .float .f32 s.r, .float .f32 s.g, .float .f32 s.b, .float .f32 s.k] 37)) w2.heap.size #[.complex .f32 s.a1 s.a2, .complex .f32 s.b1 s.b2, .complex .f32 s.c1 s.c2, .float .f32 s.r, .float .f32 s.g, .float .f32 s.b, .float .f32 s.k] 37) := Blk.new _ _ _
      clear d0 d1 d2 d3 d4 d5 d6
      generalize w2.alloc (.cells #[.complex .f32 s.a1 s.a2, .complex .f32 s.b1 s.b2, .complex .f32 s.c1 s.c2, .float .f32 s.r, .float .f32 s.g, .float .f32 s.b, .float .f32 s.k] 37) = W3 at C3 G3 S3 ⊢
      refine (l1Below_s B q 4 _ C3.out (by omega) (by omega)).mono ?_
      rintro e w4 ⟨j, rfl, hj0, hj1, hc4, hg4⟩
      have C4 : Hid (Cur B w4 q) := hc4
      have G4 : Hid (w.grownBy w4 (some q)) := grownBy_trans G3.out hg4
      have S4 := S3.out.grown hg4 (by omega)
      have l4 := S4.lt
      have d0 := Blk.cellAt (i := 0) S4 rfl
      have d1 := Blk.cellAt (i := 1) S4 rfl
      have d2 := Blk.cellAt (i := 2) S4 rfl
      simp only [List.getElem_toArray, List.getElem_cons_zero, List.getElem_cons_succ] at d0 d1 d2
      clear hc4 hg4 S4 S3
      have LX : Hid (s.a1 < 4294967296) := ok_lt DS.out.a1
      have LY : Hid (s.a2 < 4294967296) := ok_lt DS.out.a2
      rcases (by omega : j = 0 ∨ j = 1 ∨ (2 ≤ j ∧ j ≠ 0 ∧ j ≠ 1)) with rfl | rfl | ⟨h2, n0, n1⟩
      · go_wp2
        go_ret
        exact ⟨_, _, rfl, LX.out, LY.out, C4.out, G4.out⟩
      · obtain ⟨r1, q1, e1, e2, e3⟩ := mid2 DS.out.a1 DS.out.b1
        obtain ⟨r2, q2, e4, e5, e6⟩ := mid2 DS.out.a2 DS.out.b2
        have o1 := fun t w => run_float_arith (P := Try.prog) w .add t .f32 _ _ _ e1
        have o2 := fun t w => run_float_arith (P := Try.prog) w .quo t .f32 _ _ _ e2
        have o3 := fun t w => run_float_arith (P := Try.prog) w .add t .f32 _ _ _ e4
        have o4 := fun t w => run_float_arith (P := Try.prog) w .quo t .f32 _ _ _ e5
        have L1 : Hid (q1 < 4294967296) := e3
        have L2 : Hid (q2 < 4294967296) := e6
        clear e1 e2 e3 e4 e5 e6
        go_wp2_with (first | simp only [o1] | simp only [o2] | simp only [o3] | simp only [o4])
        go_ret
        exact ⟨_, _, rfl, L1.out, L2.out, C4.out, G4.out⟩
      · obtain ⟨r1, s1, t1, q1, e1, e2, e3, e4, e5⟩ := mid4 DS.out.a1 DS.out.b1 DS.out.c1
        obtain ⟨r2, s2, t2, q2, f1, f2, f3, f4, f5⟩ := mid4 DS.out.a2 DS.out.b2 DS.out.c2
        have o1 := fun t w => run_float_arith (P := Try.prog) w .add t .f32 _ _ _ e1
        have o2 := fun t w => run_float_arith (P := Try.prog) w .mul t .f32 _ _ _ e2
        have o3 := fun t w => run_float_arith (P := Try.prog) w .add t .f32 _ _ _ e3
        have o4 := fun t w => run_float_arith (P := Try.prog) w .quo t .f32 _ _ _ e4
        have p1 := fun t w => run_float_arith (P := Try.prog) w .add t .f32 _ _ _ f1
        have p2 := fun t w => run_float_arith (P := Try.prog) w .mul t .f32 _ _ _ f2
        have p3 := fun t w => run_float_arith (P := Try.prog) w .add t .f32 _ _ _ f3
        have p4 := fun t w => run_float_arith (P := Try.prog) w .quo t .f32 _ _ _ f4
        have L1 : Hid (q1 < 4294967296) := e5
        have L2 : Hid (q2 < 4294967296) := f5
        clear e1 e2 e3 e4 e5 f1 f2 f3 f4 f5
        go_wp2_with (first | simp only [o1] | simp only [o2] | simp only [o3] | simp only [o4] | simp only [p1] | simp only [p2] | simp only [p3] | simp only [p4])
        go_ret
        exact ⟨_, _, rfl, L1.out, L2.out, C4.out, G4.out⟩
    · go_wp2_with fail
      refine (l1Any_s B q _ HC1.out).mono ?_
      rintro e w2 ⟨x, y, ⟨rfl, hx, hy, hc2, hg2⟩⟩
      have HC2 : Hid (Cur B w2 q) := hc2
      have HG2 : Hid (w.grownBy w2 (some q)) := grownBy_trans HG1.out hg2
      have LX : Hid (x < 4294967296) := hx
      have LY : Hid (y < 4294967296) := hy
      clear hc2 hg2 hx hy
      go_wp2
      go_ret
      exact ⟨x, y, rfl, LX.out, LY.out, HC2.out, HG2.out⟩

structure GlassDrawn (w : World) (e : Ending) (w' : World) (g cap : Nat) (l : List Shd) (x y r b k : Nat) : Prop where
  ret : e = .returned (.tuple #[.slice (some ⟨g, 0, Option.none⟩) l.length cap, .complex .f32 x y, .agg #[.float .f32 r, .float .f32 b, .float .f32 k]])
  len : l.length ≤ 6
  cap : l.length ≤ cap
  lt : g < w'.heap.size
  lo : w.heap.size ≤ g
  row : ShRow w' g 0 l
  ok : ∀ s ∈ l, s.Drawn
  px : Rch x
  py : Rch y
  lr : r ≤ 1065353216
  lg : b ≤ 1065353216
  lb : k ≤ 1065353216
  below : Below w.heap.size w w'

set_option maxHeartbeats 8000000 in
theorem drawGlass_s (a : Option Addr) (len cap : Nat) (bs : List Int) (w : World) (hrow : ByteRow w w.heap.size a len bs) (hlen : len ≤ 4096) :
    Calls Try.prog 8 #[.slice a len cap] w fun e w' => ∃ g cap l x y r b k, GlassDrawn w e w' g cap l x y r b k := by
  have HR : Hid (ByteRow w w.heap.size a len bs) := hrow
  clear hrow
  go_enter Try.func8, Try.ntmps8
  go_wp2_with fail
  have hb0 : Below w.heap.size w (w.alloc (.cells #[.float .f32 0, .float .f32 0, .float .f32 0] 28)) := by (repeat' (first | (with_reducible exact Below.refl _ _) | (with_reducible assumption) | (with_reducible refine Below.alloc ?_ ?_ _) | (with_reducible refine Below.drew ?_) | (with_reducible refine Below.setCell ?_ ?_ _) | (with_reducible refine Below.trans ?_ (Below.mono (by assumption) ?_)) | (with_reducible exact Nat.le_refl _) | omega | (simp only [World.size_alloc, World.size_setCell, World.size_drew]; omega) | (simp; omega) | (simp; done)))
  have R0 : Hid (Blk (w.alloc (.cells #[.float .f32 0, .float .f32 0, .float .f32 0] 28)) w.heap.size #[.float .f32 0, .float .f32 0, .float .f32 0] 28) := Blk.new _ _ _
  have HB0 : Hid (Below w.heap.size w (w.alloc (.cells #[.float .f32 0, .float .f32 0, .float .f32 0] 28))) := hb0
  have s0 : (w.alloc (.cells #[.float .f32 0, .float .f32 0, .float .f32 0] 28)).heap.size = w.heap.size + 1 := by simp
  have hr0 : Hid (ByteRow (w.alloc (.cells #[.float .f32 0, .float .f32 0, .float .f32 0] 28)) (w.alloc (.cells #[.float .f32 0, .float .f32 0, .float .f32 0] 28)).heap.size a len bs) := (HR.out.of hb0).mono (by omega)
  clear hb0
  generalize w.alloc (.cells #[.float .f32 0, .float .f32 0, .float .f32 0] 28) = W0 at R0 HB0 s0 hr0 ⊢
  refine (l1New_s a len cap bs _ hr0.out hlen).mono ?_
  rintro e w1 ⟨q, rfl, hql, hcur, hb1⟩
  have hqB := hcur.ge
  have C1 : Hid (Cur W0.heap.size w1 q) := hcur
  have B1 : Hid (Below w.heap.size w w1) := HB0.out.trans (hb1.mono (by omega))
  have R1 : Hid (Blk w1 w.heap.size #[.float .f32 0, .float .f32 0, .float .f32 0] 28) := R0.out.below hb1
  have s1 := hb1.size
  clear hcur hb1 R0 HB0 hr0 HR
  go_wp2_with fail
  refine (l3List_s W0.heap.size q _ C1.out).mono ?_
  rintro e w2 ⟨l, ⟨⟨g, lc, rfl, hgl, hgs, hrow, hcap⟩, hll, hok, hc2, hg2⟩⟩
  have C2 : Hid (Cur W0.heap.size w2 q) := hc2
  have B2 : Hid (Below w.heap.size w w2) := B1.out.trans (below_of_grown hg2 (by omega) (by omega))
  have R2 : Hid (Blk w2 w.heap.size #[.float .f32 0, .float .f32 0, .float .f32 0] 28) := R1.out.grown hg2 (by omega)
  have L2 : Hid (ShRow w2 g 0 l) := hrow
  have OK : Hid (∀ s ∈ l, s.Drawn) := hok
  have s2 := hg2.size
  clear hc2 hg2 hrow hok B1 R1 C1
  have hgq : g ≠ q := by omega
  go_wp2_with fail
  refine (l3Near_s W0.heap.size q g lc l _ C2.out L2.out hgq hll OK.out).mono ?_
  rintro e w3 ⟨x, y, ⟨rfl, hx, hy, hc3, hg3⟩⟩
  have C3 : Hid (Cur W0.heap.size w3 q) := hc3
  have B3 : Hid (Below w.heap.size w w3) := B2.out.trans (below_of_grown hg3 (by omega) (by omega))
  have R3 : Hid (Blk w3 w.heap.size #[.float .f32 0, .float .f32 0, .float .f32 0] 28) := R2.out.grown hg3 (by omega)
  have L3 : Hid (ShRow w3 g 0 l) := L2.out.grown hg3 (fun e => hgq (by cases e; rfl))
  have LX : Hid (x < 4294967296) := hx
  have LY : Hid (y < 4294967296) := hy
  have s3 := hg3.size
  clear hc3 hg3 hx hy B2 R2 C2 L2
  go_wp2_with fail
  refine (testPoint_s x y _).mono ?_
  rintro e w4 ⟨t, ⟨rfl, hyes, hb4⟩⟩
  have C4 : Hid (Cur W0.heap.size w4 q) := C3.out.below hb4
  have B4 : Hid (Below w.heap.size w w4) := B3.out.trans (hb4.mono (by omega))
  have R4 : Hid (Blk w4 w.heap.size #[.float .f32 0, .float .f32 0, .float .f32 0] 28) := R3.out.below hb4
  have L4 : Hid (ShRow w4 g 0 l) := L3.out.below hb4
  have YES : Hid (t = true → inB x = true ∧ inB y = true) := hyes
  have s4 := hb4.size
  clear hb4 hyes C3 B3 R3 L3
  obtain ⟨z1, z2, hz, P1, P2⟩ : ∃ z1 z2 : Nat, (z1, z2) = (if t then (x, y) else (0, 0)) ∧ Hid (Rch z1) ∧ Hid (Rch z2) := by
    cases t
    · exact ⟨0, 0, rfl, ok_rch ok_zero, ok_rch ok_zero⟩
    · exact ⟨x, y, rfl, ⟨LX.out, (YES.out rfl).1⟩, ⟨LY.out, (YES.out rfl).2⟩⟩
  cases t
  all_goals
    simp only [Bool.false_eq_true, if_false, if_true, Prod.mk.injEq] at hz
    obtain ⟨rfl, rfl⟩ := hz
    clear YES LX LY
    go_wp2_with fail
    refine (l2Draw_s W0.heap.size q _ C4.out).mono ?_
    rintro e w5 ⟨r, b, k, ⟨rfl, lr, lg, lb, hc5, hg5⟩⟩
    have B5 : Hid (Below w.heap.size w w5) := B4.out.trans (below_of_grown hg5 (by omega) (by omega))
    have R5 : Blk w5 w.heap.size #[.float .f32 0, .float .f32 0, .float .f32 0] 28 := R4.out.grown hg5 (by omega)
    have RH : Hid (Blk w5 w.heap.size #[.float .f32 0, .float .f32 0, .float .f32 0] 28) := R5
    have L5 : Hid (ShRow w5 g 0 l) := L4.out.grown hg5 (fun e => hgq (by cases e; rfl))
    have LR : Hid (r ≤ 1065353216) := lr
    have LG : Hid (b ≤ 1065353216) := lg
    have LB : Hid (k ≤ 1065353216) := lb
    have s5 := hg5.size
    clear hc5 hg5 lr lg lb B4 R4 L4 C4
    have l5 := R5.lt
    have d0 := Blk.cellAt (i := 0) R5 rfl
    have d1 := Blk.cellAt (i := 1) R5 rfl
    have d2 := Blk.cellAt (i := 2) R5 rfl
    have f0 := R5.free 0
    have f1 := R5.free 1
    have f2 := R5.free 2
    simp only [List.getElem_toArray, List.getElem_cons_zero, List.getElem_cons_succ] at d0 d1 d2
    clear R5
    go_wp2
    have e0 := (RH.out.set (i := 0) (v := .float .f32 r)).cell 0
    have e1 := ((RH.out.set (i := 0) (v := .float .f32 r)).set (i := 1) (v := .float .f32 b)).cell 1
    have e2 := (((RH.out.set (i := 0) (v := .float .f32 r)).set (i := 1) (v := .float .f32 b)).set (i := 2) (v := .float .f32 k)).cell 2
    simp only [List.setIfInBounds_toArray, List.set_cons_zero, List.set_cons_succ, List.getElem?_toArray, List.getElem?_cons_zero, List.getElem?_cons_succ] at e0 e1 e2
    have LF : ShRow (((w5.setCell ⟨w.heap.size, 0, Option.none⟩ (.float .f32 r)).setCell ⟨w.heap.size, 1, Option.none⟩ (.float .f32 b)).setCell ⟨w.heap.size, 2, Option.none⟩ (.float .f32 k)) g 0 l := ((L5.out.set (by dsimp only; omega)).set (by dsimp only; omega)).set (by dsimp only; omega)
    have hbel5 := B5.out
    exact bodyPost_ret (v := .tuple #[.slice (some ⟨g, 0, Option.none⟩) l.length lc, .complex .f32 _ _, .agg #[.float .f32 r, .float .f32 b, .float .f32 k]]) (by simp [results, Try.results8, go_sem, e0, e1, e2]) rfl ⟨g, lc, l, _, _, r, b, k, rfl, hll, hcap, by simp; omega, by omega, LF, OK.out, P1.out, P2.out, LR.out, LG.out, LB.out, by (repeat' (first | (with_reducible exact Below.refl _ _) | (with_reducible assumption) | (with_reducible refine Below.alloc ?_ ?_ _) | (with_reducible refine Below.drew ?_) | (with_reducible refine Below.setCell ?_ ?_ _) | (with_reducible refine Below.trans ?_ (Below.mono (by assumption) ?_)) | (with_reducible exact Nat.le_refl _) | omega | (simp only [World.size_alloc, World.size_setCell, World.size_drew]; omega) | (simp; omega) | (simp; done)))⟩
end Go.Proofs.Ytkcfekhpppihhaa
