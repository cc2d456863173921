/-
  Texts of this proof, joined: Ek, El, Em.
-/
import Derived.Test.YtlnikapkheldeaaK15
import Derived.Test.YtlnikapkheldeaaK29
import Derived.Test.YtlnikapkheldeaaK19
import Derived.Deep.RegionHeld3
import Derived.Deep.QuietTactic
import Derived.BigQuiet
import Derived.Test.YtlnikapkheldeaaK25
import Derived.Test.YtlnikapkheldeaaK43
import Derived.Test.YtlnikapkheldeaaK07
import Derived.Deep.RegionWith
import Derived.Deep.AppendLies
/-
  DifferOf of the program.
-/
namespace Go.Proofs.Ytlnikapkheldeaa
open Go.ChangeShapes Go.WideShapes Go.ChangeAt Go.RowKit Go.Joins
set_option linter.unusedSimpArgs false
set_option linter.unusedVariables false
set_option maxRecDepth 100000
attribute [local go_sem] store_f
open Ieee

/-- How far two colours are. -/
def farC (c d : Lit) : Nat := max (max (farB c.r d.r) (farB c.g d.g)) (farB c.b d.b)
/-- In how many of the first j cells they differ, and how far at most. -/
def difN (l k : List Lit) : Nat → Nat
  | 0 => 0
  | j + 1 => difN l k j + if colEq (l.getD j default) (k.getD j default) then 0 else 1
def difF (l k : List Lit) : Nat → Nat
  | 0 => 0
  | j + 1 => if colEq (l.getD j default) (k.getD j default) then difF l k j else max (difF l k j) (farC (l.getD j default) (k.getD j default))
/-- Colours of parts. -/
structure Lit.P (c : Lit) : Prop where
  r : Part c.r
  g : Part c.g
  b : Part c.b
theorem farC_le {c d : Lit} (hc : c.P) (hd : d.P) : farC c d ≤ 1065353216 := by
  have h1 := farB_le hc.r hd.r
  have h2 := farB_le hc.g hd.g
  have h3 := farB_le hc.b hd.b
  unfold farC
  omega
theorem difN_le (l k : List Lit) (j : Nat) : difN l k j ≤ j := by
  induction j with
  | zero => exact Nat.le_refl _
  | succ j ih => unfold difN; split <;> omega
theorem difF_le {l k : List Lit} {N : Nat} (h : ∀ j, j < N → (l.getD j default).P ∧ (k.getD j default).P) : ∀ j, j ≤ N → difF l k j ≤ 1065353216 := by
  intro j
  induction j with
  | zero => intro _; exact Nat.zero_le _
  | succ j ih =>
    intro hj
    have h1 := ih (by omega)
    obtain ⟨hc, hd⟩ := h j (by omega)
    have h2 := farC_le hc hd
    unfold difF
    split <;> omega
theorem isB_p {c : Lit} (hw : c.W) (h : c.isB = true) : c.P := by
  unfold Lit.isB colB at h
  simp only [Bool.and_eq_true] at h
  exact ⟨share_part hw.r h.1.1, share_part hw.g h.1.2, share_part hw.b h.2⟩
structure FarCM (c d : Lit) (x : Nat) : Prop where
  call : ∀ w : World, Calls Try.prog 108 #[.agg #[.float .f32 c.r, .float .f32 c.g, .float .f32 c.b], .agg #[.float .f32 d.r, .float .f32 d.g, .float .f32 d.b]] w fun e w' => e = .returned (.float .f32 x) ∧ Below w.heap.size w w'
theorem farCM {c d : Lit} (hc : c.P) (hd : d.P) : FarCM c d (farC c d) := ⟨fun w => far_i_yes c.r c.g c.b d.r d.g d.b hc.r hc.g hc.b hd.r hd.g hd.b w⟩
theorem max_run {x y : Nat} (hx : x ≤ 1065353216) (hy : y ≤ 1065353216) (ts : Array TypeId) (t : TypeId) (w : World) : (Builtin.max_ ts t #[.float .f32 x, .float .f32 y]).run Try.prog w = .ok (.float .f32 (max x y)) w := by
  obtain ⟨o, e, h⟩ := maxF_max (x := x) (y := y) (by omega) (by omega)
  rw [← h]
  exact run_max_f _ _ _ _ _ _ _ e

structure DifP (n : Int) (a : Option Addr) (ca : Nat) (l : List Lit) (m : Int) (b : Option Addr) (cb : Nat) (k : List Lit) (c : Int) (x : Nat) : Prop where
  call : ∀ w : World, LitsAt w a l → LitsAt w b k → Calls Try.prog 41 #[.agg #[.int .i64 n, .slice a l.length ca], .agg #[.int .i64 m, .slice b k.length cb]] w fun e w' => e = .returned (.tuple #[.int .i64 c, .float .f32 x]) ∧ Below w.heap.size w w'
/-- One cell of the round: what the colours say of each other. -/
structure DifStep (l k : List Lit) (j : Nat) (q : Bool) (n1 n2 f1 f2 : Nat) : Prop where
  far : q = false → ∃ x, FarCM (l.getD j default) (k.getD j default) x ∧ ∀ ts t w, (Builtin.max_ ts t #[.float .f32 f1, .float .f32 x]).run Try.prog w = .ok (.float .f32 f2) w
  cnt : n2 = n1 + if q then 0 else 1
  same : q = true → f2 = f1
theorem difStep {l k : List Lit} {N j : Nat} (h : ∀ j, j < N → (l.getD j default).P ∧ (k.getD j default).P) (hj : j < N) : DifStep l k j (colEq (l.getD j default) (k.getD j default)) (difN l k j) (difN l k (j + 1)) (difF l k j) (difF l k (j + 1)) where
  far := fun e => by
    obtain ⟨hc, hd⟩ := h j hj
    refine ⟨_, farCM hc hd, fun ts t w => ?_⟩
    have h1 := difF_le h j (by omega)
    have h2 : difF l k (j + 1) = max (difF l k j) (farC (l.getD j default) (k.getD j default)) := by
      show (if colEq (l.getD j default) (k.getD j default) then _ else _) = _
      rw [e]; rfl
    rw [h2]
    exact max_run h1 (farC_le hc hd) ts t w
  cnt := rfl
  same := fun e => by
    show (if colEq (l.getD j default) (k.getD j default) then _ else _) = _
    rw [e]; rfl

set_option maxHeartbeats 16000000 in
theorem difP_yes {n : Int} {a : Option Addr} {ca : Nat} {l : List Lit} {b : Option Addr} {cb : Nat} {k : List Lit} (h1 : picB n l = true) (h2 : picB n k = true) (hw1 : ∀ c ∈ l, c.W) (hw2 : ∀ c ∈ k, c.W) : DifP n a ca l n b cb k (difN l k l.length : Nat) (difF l k l.length) := ⟨fun w hr1 hr2 => by
  have I1 := picIs n a ca l
  have I2 := picIs n b cb k
  rw [h1] at I1
  rw [h2] at I2
  obtain ⟨u, hu, g1, g8, hl, hp1⟩ := pic_cases h1
  obtain ⟨v, hv, _, _, hk, hp2⟩ := pic_cases h2
  obtain rfl : u = v := by omega
  have hN64 : l.length ≤ 64 := by rw [hl]; exact Nat.le_trans (Nat.mul_le_mul g8 g8) (by omega)
  have hlk : k.length = l.length := by omega
  have hP : ∀ j, j < l.length → (l.getD j default).P ∧ (k.getD j default).P := fun j hj =>
    ⟨isB_p (hw1 _ (by simp [List.getD, hj])) (hp1 _ (by simp [List.getD, hj])), isB_p (hw2 _ (by simp [List.getD, show j < k.length by omega])) (hp2 _ (by simp [List.getD, show j < k.length by omega]))⟩
  have HD : Hid (∀ j, j < l.length → DifStep l k j (colEq (l.getD j default) (k.getD j default)) (difN l k j) (difN l k (j + 1)) (difF l k j) (difF l k (j + 1))) := fun j hj => difStep hP hj
  have HL : Hid (∀ j, difN l k j ≤ j) := difN_le l k
  have HZ : Hid (difN l k 0 = 0 ∧ difF l k 0 = 0) := ⟨rfl, rfl⟩
  generalize difN l k = dn at HD HL HZ ⊢
  generalize difF l k = df at HD HZ ⊢
  obtain ⟨N, hN⟩ : ∃ N : Nat, N = l.length := ⟨_, rfl⟩
  have HN1 : Hid (N = l.length) := hN
  have HN2 : Hid (N = k.length) := hN.trans hlk.symm
  rw [← hN] at hN64
  have R1 : Hid (LitsAt w a l) := hr1
  have R2 : Hid (LitsAt w b k) := hr2
  clear hr1 hr2 h1 h2 hu hv hl hk hp1 hp2 hw1 hw2 hP hN hlk
  go_enter Try.func41, Try.ntmps41
  go_wp2_with fail
  generalize hW : (w.alloc (.cells #[.int .i64 n, .slice a l.length ca] 37)).alloc (.cells #[.int .i64 n, .slice b k.length cb] 37) = X
  have P0 : Hid (Blk X w.heap.size #[.int .i64 n, .slice a l.length ca] 37) := by rw [← hW]; exact (Blk.new _ _ _).alloc
  have Q0 : Hid (Blk X (w.heap.size + 1) #[.int .i64 n, .slice b k.length cb] 37) := by rw [← hW]; exact Blk.newAt (by simp)
  have B0 : Hid (Below w.heap.size w X) := by rw [← hW]; show Below w.heap.size w _; (repeat' (first | (with_reducible exact Below.refl _ _) | (with_reducible assumption) | (with_reducible refine Below.alloc ?_ ?_ _) | (with_reducible refine Below.drew ?_) | (with_reducible refine Below.setCell ?_ ?_ _) | (with_reducible refine Below.trans ?_ (Below.mono (by assumption) ?_)) | (with_reducible exact Nat.le_refl _) | omega | (simp only [World.size_alloc, World.size_setCell, World.size_drew]; omega) | (simp; omega) | (simp; done)))
  clear hW
  refine (I1.call _ (LitsAt.below R1.out B0.out)).mono ?_
  rintro e w1 ⟨rfl, hb⟩
  have P1 : Hid (Blk w1 w.heap.size #[.int .i64 n, .slice a l.length ca] 37) := P0.out.below hb
  have Q1 : Hid (Blk w1 (w.heap.size + 1) #[.int .i64 n, .slice b k.length cb] 37) := Q0.out.below hb
  have B1 : Hid (Below w.heap.size w w1) := B0.out.trans (hb.mono B0.out.size)
  clear hb P0 Q0 B0
  (have p0 := Blk.cellAt (i := 0) P1.out rfl; have p1 := Blk.cellAt (i := 1) P1.out rfl; simp only [List.getElem_toArray, List.getElem_cons_zero, List.getElem_cons_succ] at p0 p1)
  (have q0 := Blk.cellAt (i := 0) Q1.out rfl; have q1 := Blk.cellAt (i := 1) Q1.out rfl; simp only [List.getElem_toArray, List.getElem_cons_zero, List.getElem_cons_succ] at q0 q1)
  go_wp2_with fail
  refine (I2.call _ (LitsAt.below R2.out B1.out)).mono ?_
  rintro e w2 ⟨rfl, hb⟩
  have P2 : Hid (Blk w2 w.heap.size #[.int .i64 n, .slice a l.length ca] 37) := P1.out.below hb
  have Q2 : Hid (Blk w2 (w.heap.size + 1) #[.int .i64 n, .slice b k.length cb] 37) := Q1.out.below hb
  have B2 : Hid (Below w.heap.size w w2) := B1.out.trans (hb.mono B1.out.size)
  clear hb P1 Q1 B1 p0 p1 q0 q1 I1 I2
  (have p0 := Blk.cellAt (i := 0) P2.out rfl; have p1 := Blk.cellAt (i := 1) P2.out rfl; simp only [List.getElem_toArray, List.getElem_cons_zero, List.getElem_cons_succ] at p0 p1)
  (have q0 := Blk.cellAt (i := 0) Q2.out rfl; have q1 := Blk.cellAt (i := 1) Q2.out rfl; simp only [List.getElem_toArray, List.getElem_cons_zero, List.getElem_cons_succ] at q0 q1)
  rw [← HN1.out] at p1 ⊢
  go_wp2_with fail
  clear p0 p1 q0 q1
  go_loopw [6, 7, 28] (fun u x i wr => ∃ j : Nat, j ≤ N ∧ i = .int .i64 j ∧ u = .int .i64 (dn j : Nat) ∧ x = .float .f32 (df j) ∧ Below w2.heap.size w2 wr) (fun _ _ i _ => N - (intOf i).toNat)
  case atStart => exact ⟨0, by omega, rfl, by rw [HZ.out.1]; rfl, by rw [HZ.out.2], Below.refl _ _⟩
  case round =>
    obtain ⟨j, hj, rfl, rfl, rfl, hbel⟩ := hrel
    have HB : Hid (Below w2.heap.size w2 wr) := hbel
    have HBW : Hid (Below w.heap.size w wr) := B2.out.trans (hbel.mono B2.out.size)
    have hbs := hbel.size
    by_cases hlt : j < N
    · rcases R1.out with hnil | ⟨b1, o1, rfl, hR1⟩
      · exfalso
        have := HN1.out
        rw [hnil] at this
        simp at this
        omega
      rcases R2.out with hnil | ⟨b2, o2, rfl, hR2⟩
      · exfalso
        have := HN2.out
        rw [hnil] at this
        simp at this
        omega
      obtain ⟨d0, d1, d2⟩ := (LitRow.below hR1 HBW.out) j (by have := HN1.out; omega)
      obtain ⟨e0, e1, e2⟩ := (LitRow.below hR2 HBW.out) j (by have := HN2.out; omega)
      have K := HD.out j (by have := HN1.out; omega)
      have hle := HL.out j
      have op := fun w => run_eq_lit (l.getD j default) (k.getD j default) w
      have HF := K.far
      have HC := K.cnt
      have HS := K.same
      generalize colEq (l.getD j default) (k.getD j default) = q at op HF HC HS
      clear K
      generalize l.getD j default = c at *
      generalize k.getD j default = d at *
      have P3 : Hid (Blk wr w.heap.size #[.int .i64 n, .slice (some ⟨b1, o1, Option.none⟩) l.length ca] 37) := P2.out.below hbel
      have Q3 : Hid (Blk wr (w.heap.size + 1) #[.int .i64 n, .slice (some ⟨b2, o2, Option.none⟩) k.length cb] 37) := Q2.out.below hbel
      have hj0 : (0 : Int) ≤ (j : Int) := by omega
      have hj1 : (j : Int) < (N : Int) := by omega
      have hj2 : (j : Int) < (k.length : Int) := by have := HN2.out; omega
      (have q0 := Blk.cellAt (i := 0) Q3.out rfl; have q1 := Blk.cellAt (i := 1) Q3.out rfl; simp only [List.getElem_toArray, List.getElem_cons_zero, List.getElem_cons_succ] at q0 q1)
      have lq := Q3.out.lt
      have lb2 : b2 < wr.heap.size := cell_lt e0
      clear hR1 hR2 hbel
      cases q
      · obtain ⟨x, FC, hm⟩ := HF rfl
        simp at HC
        have HC' : Hid (dn (j + 1) = dn j + 1) := HC
        clear HF HS HC
        go_wp2_with fail
        go_quiet (fail)
        generalize hV : World.drewN (wr.alloc (.cells #[.float .f32 c.r, .float .f32 c.g, .float .f32 c.b] 49)) _ = V
        have NV : Blk V wr.heap.size #[.float .f32 c.r, .float .f32 c.g, .float .f32 c.b] 49 := by rw [← hV]; exact Blk.new _ _ _
        have QV : Hid (Blk V (w.heap.size + 1) #[.int .i64 n, .slice (some ⟨b2, o2, Option.none⟩) k.length cb] 37) := by rw [← hV]; exact Q3.out.alloc
        have BV : Hid (Below w2.heap.size w2 V) := by rw [← hV]; exact (HB.out.alloc hbs _).trans (below_draws _ _ _)
        have eV0 : V.cell? ⟨b2, o2 + j * 3, Option.none⟩ = some (.float .f32 d.r) := by rw [← hV]; exact cAlloc e0
        have eV1 : V.cell? ⟨b2, o2 + j * 3 + 1, Option.none⟩ = some (.float .f32 d.g) := by rw [← hV]; exact cAlloc e1
        have eV2 : V.cell? ⟨b2, o2 + j * 3 + 2, Option.none⟩ = some (.float .f32 d.b) := by rw [← hV]; exact cAlloc e2
        have sV : V.heap.size = wr.heap.size + 1 := by rw [← hV]; simp
        have n0 := Blk.cellAt (i := 0) NV rfl
        have n1 := Blk.cellAt (i := 1) NV rfl
        have n2 := Blk.cellAt (i := 2) NV rfl
        simp only [List.getElem_toArray, List.getElem_cons_zero, List.getElem_cons_succ] at n0 n1 n2
        clear hV NV q0 q1 e0 e1 e2 d0 d1 d2 P3 HB HBW
        (have q0 := Blk.cellAt (i := 0) QV.out rfl; have q1 := Blk.cellAt (i := 1) QV.out rfl; simp only [List.getElem_toArray, List.getElem_cons_zero, List.getElem_cons_succ] at q0 q1)
        have hBV : Below V.heap.size V V := Below.refl _ _
        have hzV := Nat.le_refl V.heap.size
        have hqV : w.heap.size + 1 < V.heap.size := by omega
        have hbV : b2 < V.heap.size := by omega
        have hnV : wr.heap.size < V.heap.size := by omega
        generalize wr.heap.size = ng at *
        go_wp2_with fail
        go_region_held3 (fun wx => Below V.heap.size V wx ∧ V.heap.size ≤ wx.heap.size ∧ ng < wx.heap.size ∧ w.heap.size + 1 < wx.heap.size ∧ b2 < wx.heap.size ∧ wx.cell? ⟨w.heap.size + 1, 0, Option.none⟩ = some (.int .i64 n) ∧ wx.cell? ⟨w.heap.size + 1, 1, Option.none⟩ = some (.slice (some ⟨b2, o2, Option.none⟩) k.length cb) ∧ wx.cell? ⟨ng, 0, Option.none⟩ = some (.float .f32 (c.r)) ∧ wx.cell? ⟨ng, 1, Option.none⟩ = some (.float .f32 (c.g)) ∧ wx.cell? ⟨ng, 2, Option.none⟩ = some (.float .f32 (c.b)) ∧ wx.cell? ⟨b2, (o2 + j * 3), Option.none⟩ = some (.float .f32 d.r) ∧ wx.cell? ⟨b2, (o2 + j * 3) + 1, Option.none⟩ = some (.float .f32 d.g) ∧ wx.cell? ⟨b2, (o2 + j * 3) + 2, Option.none⟩ = some (.float .f32 d.b))
          (((repeat' apply And.intro) <;> first | (with_reducible assumption) | (((repeat (first | (with_reducible assumption) | (with_reducible exact cNewAt (by first | rfl | (simp only [World.size_alloc, World.size_setCell, World.size_drew]; done) | omega) rfl) | (with_reducible exact sNewAt (by first | rfl | (simp only [World.size_alloc, World.size_setCell, World.size_drew]; done) | omega) rfl) | (simp; done) | (with_reducible apply cAlloc) | (with_reducible apply cDrew) | (with_reducible refine cSet (by dsimp only; omega) ?_) | (with_reducible refine cSetOff (by dsimp only; omega) ?_) | (with_reducible apply cSame) | (with_reducible refine cBelow (by assumption) ?_) | (with_reducible apply sAlloc) | (with_reducible apply sDrew) | (with_reducible refine sBelow (by assumption) ?_) | (with_reducible refine sSet (by dsimp only; omega) ?_))); first | done | (simp [*]; done)); done) | (simp only [World.size_alloc, World.size_setCell, World.size_drew]; omega) | omega | (go_keep; done) | ((repeat' (first | (with_reducible exact Below.refl _ _) | (with_reducible assumption) | (with_reducible refine Below.alloc ?_ ?_ _) | (with_reducible refine Below.drew ?_) | (with_reducible refine Below.setCell ?_ ?_ _) | (with_reducible refine Below.trans ?_ (Below.mono (by assumption) ?_)) | (with_reducible exact Nat.le_refl _) | omega | (simp only [World.size_alloc, World.size_setCell, World.size_drew]; omega) | (simp; omega) | (simp; done))); done)))
          (first | (go_at_call 108; (with_reducible refine (FC.call _).mono ?_); rintro e w4 ⟨rfl, hb⟩; have hbs4 := hb.size; (try simp only [World.size_alloc, World.size_setCell, World.size_drew] at hbs4)))
        all_goals
          rename_i hHeld
          have HB4 : Hid (Below w2.heap.size w2 w4) := BV.out.trans (hHeld.1.mono BV.out.size)
          clear hHeld hBV q0 q1 n0 n1 n2 eV0 eV1 eV2
          go_wp2
          go_roundw
          case rel => exact ⟨j + 1, by omega, by go_num, by rw [HC'.out]; simp, rfl, HB4.out⟩
          case measure => simp [intOf]; omega
      · have HC2 : dn (j + 1) = dn j := by simpa using HC
        have HC' : Hid (dn (j + 1) = dn j) := HC2
        have HS' : Hid (df (j + 1) = df j) := HS rfl
        clear HF HS HC HC2
        go_wp2_with fail
        go_quiet (fail)
        go_wp2
        go_roundw
        case rel => exact ⟨j + 1, by omega, by go_num, by rw [HC'.out], by rw [HS'.out], (HB.out.alloc hbs _).trans (below_draws _ _ _)⟩
        case measure => simp [intOf]; omega
    · have hjm : j = N := by omega
      subst hjm
      clear hbel
      go_wp2
      go_returns
      exact ⟨by rw [← HN1.out]; rfl, HBW.out⟩⟩
end Go.Proofs.Ytlnikapkheldeaa

/-
  DifferOf of the model, and of both where there is no answer.
-/
namespace Go.Proofs.Ytlnikapkheldeaa
open Go.ChangeShapes Go.WideShapes Go.ChangeAt Go.RowKit Go.Joins
set_option linter.unusedSimpArgs false
set_option linter.unusedVariables false
set_option maxRecDepth 100000
attribute [local go_sem] store_f
open Ieee

structure FarCZ (c d : Lit) (x : Nat) : Prop where
  call : ∀ w : World, Calls Try.prog 125 #[.agg #[.float .f32 c.r, .float .f32 c.g, .float .f32 c.b], .agg #[.float .f32 d.r, .float .f32 d.g, .float .f32 d.b]] w fun e w' => e = .returned (.float .f32 x) ∧ Below w.heap.size w w'
theorem farCZ {c d : Lit} (hc : c.P) (hd : d.P) : FarCZ c d (farC c d) := ⟨fun w => far_s_yes c.r c.g c.b d.r d.g d.b hc.r hc.g hc.b hd.r hd.g hd.b w⟩
structure DifZ (n : Int) (a : Option Addr) (ca : Nat) (l : List Lit) (m : Int) (b : Option Addr) (cb : Nat) (k : List Lit) (c : Int) (x : Nat) : Prop where
  call : ∀ w : World, LitsAt w a l → LitsAt w b k → Calls Try.prog 65 #[.agg #[.int .i64 n, .slice a l.length ca], .agg #[.int .i64 m, .slice b k.length cb]] w fun e w' => e = .returned (.tuple #[.int .i64 c, .float .f32 x]) ∧ Below w.heap.size w w'
structure DifStepZ (l k : List Lit) (j : Nat) (q : Bool) (n1 n2 f1 f2 : Nat) : Prop where
  far : q = false → ∃ x, FarCZ (l.getD j default) (k.getD j default) x ∧ ∀ ts t w, (Builtin.max_ ts t #[.float .f32 f1, .float .f32 x]).run Try.prog w = .ok (.float .f32 f2) w
  cnt : n2 = n1 + if q then 0 else 1
  same : q = true → f2 = f1
theorem difStepZ {l k : List Lit} {N j : Nat} (h : ∀ j, j < N → (l.getD j default).P ∧ (k.getD j default).P) (hj : j < N) : DifStepZ l k j (colEq (l.getD j default) (k.getD j default)) (difN l k j) (difN l k (j + 1)) (difF l k j) (difF l k (j + 1)) where
  far := fun e => by
    obtain ⟨hc, hd⟩ := h j hj
    refine ⟨_, farCZ hc hd, fun ts t w => ?_⟩
    have h1 := difF_le h j (by omega)
    have h2 : difF l k (j + 1) = max (difF l k j) (farC (l.getD j default) (k.getD j default)) := by
      show (if colEq (l.getD j default) (k.getD j default) then _ else _) = _
      rw [e]; rfl
    rw [h2]
    exact max_run h1 (farC_le hc hd) ts t w
  cnt := rfl
  same := fun e => by
    show (if colEq (l.getD j default) (k.getD j default) then _ else _) = _
    rw [e]; rfl

set_option maxHeartbeats 16000000 in
theorem difZ_yes {n : Int} {a : Option Addr} {ca : Nat} {l : List Lit} {b : Option Addr} {cb : Nat} {k : List Lit} (h1 : picB n l = true) (h2 : picB n k = true) (hw1 : ∀ c ∈ l, c.W) (hw2 : ∀ c ∈ k, c.W) : DifZ n a ca l n b cb k (difN l k l.length : Nat) (difF l k l.length) := ⟨fun w hr1 hr2 => by
  have I1 := picS n a ca hw1
  have I2 := picS n b cb hw2
  rw [h1] at I1
  rw [h2] at I2
  obtain ⟨u, hu, g1, g8, hl, hp1⟩ := pic_cases h1
  obtain ⟨v, hv, _, _, hk, hp2⟩ := pic_cases h2
  obtain rfl : u = v := by omega
  have hN64 : l.length ≤ 64 := by rw [hl]; exact Nat.le_trans (Nat.mul_le_mul g8 g8) (by omega)
  have hlk : k.length = l.length := by omega
  have hP : ∀ j, j < l.length → (l.getD j default).P ∧ (k.getD j default).P := fun j hj =>
    ⟨isB_p (hw1 _ (by simp [List.getD, hj])) (hp1 _ (by simp [List.getD, hj])), isB_p (hw2 _ (by simp [List.getD, show j < k.length by omega])) (hp2 _ (by simp [List.getD, show j < k.length by omega]))⟩
  have HD : Hid (∀ j, j < l.length → DifStepZ l k j (colEq (l.getD j default) (k.getD j default)) (difN l k j) (difN l k (j + 1)) (difF l k j) (difF l k (j + 1))) := fun j hj => difStepZ hP hj
  have HL : Hid (∀ j, difN l k j ≤ j) := difN_le l k
  have HZ : Hid (difN l k 0 = 0 ∧ difF l k 0 = 0) := ⟨rfl, rfl⟩
  generalize difN l k = dn at HD HL HZ ⊢
  generalize difF l k = df at HD HZ ⊢
  obtain ⟨N, hN⟩ : ∃ N : Nat, N = l.length := ⟨_, rfl⟩
  have HN1 : Hid (N = l.length) := hN
  have HN2 : Hid (N = k.length) := hN.trans hlk.symm
  rw [← hN] at hN64
  have R1 : Hid (LitsAt w a l) := hr1
  have R2 : Hid (LitsAt w b k) := hr2
  clear hr1 hr2 h1 h2 hu hv hl hk hp1 hp2 hw1 hw2 hP hN hlk
  go_enter Try.func65, Try.ntmps65
  go_wp2_with fail
  generalize hW : (w.alloc (.cells #[.int .i64 n, .slice a l.length ca] 37)).alloc (.cells #[.int .i64 n, .slice b k.length cb] 37) = X
  have P0 : Hid (Blk X w.heap.size #[.int .i64 n, .slice a l.length ca] 37) := by rw [← hW]; exact (Blk.new _ _ _).alloc
  have Q0 : Hid (Blk X (w.heap.size + 1) #[.int .i64 n, .slice b k.length cb] 37) := by rw [← hW]; exact Blk.newAt (by simp)
  have B0 : Hid (Below w.heap.size w X) := by rw [← hW]; show Below w.heap.size w _; (repeat' (first | (with_reducible exact Below.refl _ _) | (with_reducible assumption) | (with_reducible refine Below.alloc ?_ ?_ _) | (with_reducible refine Below.drew ?_) | (with_reducible refine Below.setCell ?_ ?_ _) | (with_reducible refine Below.trans ?_ (Below.mono (by assumption) ?_)) | (with_reducible exact Nat.le_refl _) | omega | (simp only [World.size_alloc, World.size_setCell, World.size_drew]; omega) | (simp; omega) | (simp; done)))
  clear hW
  refine (I1.call _ (LitsAt.below R1.out B0.out)).mono ?_
  rintro e w1 ⟨rfl, hb⟩
  have P1 : Hid (Blk w1 w.heap.size #[.int .i64 n, .slice a l.length ca] 37) := P0.out.below hb
  have Q1 : Hid (Blk w1 (w.heap.size + 1) #[.int .i64 n, .slice b k.length cb] 37) := Q0.out.below hb
  have B1 : Hid (Below w.heap.size w w1) := B0.out.trans (hb.mono B0.out.size)
  clear hb P0 Q0 B0
  (have p0 := Blk.cellAt (i := 0) P1.out rfl; have p1 := Blk.cellAt (i := 1) P1.out rfl; simp only [List.getElem_toArray, List.getElem_cons_zero, List.getElem_cons_succ] at p0 p1)
  (have q0 := Blk.cellAt (i := 0) Q1.out rfl; have q1 := Blk.cellAt (i := 1) Q1.out rfl; simp only [List.getElem_toArray, List.getElem_cons_zero, List.getElem_cons_succ] at q0 q1)
  go_wp2_with fail
  refine (I2.call _ (LitsAt.below R2.out B1.out)).mono ?_
  rintro e w2 ⟨rfl, hb⟩
  have P2 : Hid (Blk w2 w.heap.size #[.int .i64 n, .slice a l.length ca] 37) := P1.out.below hb
  have Q2 : Hid (Blk w2 (w.heap.size + 1) #[.int .i64 n, .slice b k.length cb] 37) := Q1.out.below hb
  have B2 : Hid (Below w.heap.size w w2) := B1.out.trans (hb.mono B1.out.size)
  clear hb P1 Q1 B1 p0 p1 q0 q1 I1 I2
  (have p0 := Blk.cellAt (i := 0) P2.out rfl; have p1 := Blk.cellAt (i := 1) P2.out rfl; simp only [List.getElem_toArray, List.getElem_cons_zero, List.getElem_cons_succ] at p0 p1)
  (have q0 := Blk.cellAt (i := 0) Q2.out rfl; have q1 := Blk.cellAt (i := 1) Q2.out rfl; simp only [List.getElem_toArray, List.getElem_cons_zero, List.getElem_cons_succ] at q0 q1)
  rw [← HN1.out] at p1 ⊢
  go_wp2_with fail
  clear p0 p1 q0 q1
  go_loopw [6, 7, 27] (fun u x i wr => ∃ j : Nat, j ≤ N ∧ i = .int .i64 j ∧ u = .int .i64 (dn j : Nat) ∧ x = .float .f32 (df j) ∧ Below w2.heap.size w2 wr) (fun _ _ i _ => N - (intOf i).toNat)
  case atStart => exact ⟨0, by omega, rfl, by rw [HZ.out.1]; rfl, by rw [HZ.out.2], Below.refl _ _⟩
  case round =>
    obtain ⟨j, hj, rfl, rfl, rfl, hbel⟩ := hrel
    have HB : Hid (Below w2.heap.size w2 wr) := hbel
    have HBW : Hid (Below w.heap.size w wr) := B2.out.trans (hbel.mono B2.out.size)
    have hbs := hbel.size
    by_cases hlt : j < N
    · rcases R1.out with hnil | ⟨b1, o1, rfl, hR1⟩
      · exfalso
        have := HN1.out
        rw [hnil] at this
        simp at this
        omega
      rcases R2.out with hnil | ⟨b2, o2, rfl, hR2⟩
      · exfalso
        have := HN2.out
        rw [hnil] at this
        simp at this
        omega
      obtain ⟨d0, d1, d2⟩ := (LitRow.below hR1 HBW.out) j (by have := HN1.out; omega)
      obtain ⟨e0, e1, e2⟩ := (LitRow.below hR2 HBW.out) j (by have := HN2.out; omega)
      have K := HD.out j (by have := HN1.out; omega)
      have hle := HL.out j
      have op := fun w => run_eq_lit (l.getD j default) (k.getD j default) w
      have HF := K.far
      have HC := K.cnt
      have HS := K.same
      generalize colEq (l.getD j default) (k.getD j default) = q at op HF HC HS
      clear K
      generalize l.getD j default = c at *
      generalize k.getD j default = d at *
      have P3 : Hid (Blk wr w.heap.size #[.int .i64 n, .slice (some ⟨b1, o1, Option.none⟩) l.length ca] 37) := P2.out.below hbel
      have Q3 : Hid (Blk wr (w.heap.size + 1) #[.int .i64 n, .slice (some ⟨b2, o2, Option.none⟩) k.length cb] 37) := Q2.out.below hbel
      have hj0 : (0 : Int) ≤ (j : Int) := by omega
      have hj1 : (j : Int) < (N : Int) := by omega
      have hj2 : (j : Int) < (k.length : Int) := by have := HN2.out; omega
      have hj3 : (j : Int) < (l.length : Int) := by have := HN1.out; omega
      (have p0 := Blk.cellAt (i := 0) P3.out rfl; have p1 := Blk.cellAt (i := 1) P3.out rfl; simp only [List.getElem_toArray, List.getElem_cons_zero, List.getElem_cons_succ] at p0 p1)
      (have q0 := Blk.cellAt (i := 0) Q3.out rfl; have q1 := Blk.cellAt (i := 1) Q3.out rfl; simp only [List.getElem_toArray, List.getElem_cons_zero, List.getElem_cons_succ] at q0 q1)
      have lq := Q3.out.lt
      have lp := P3.out.lt
      have lb1 : b1 < wr.heap.size := cell_lt d0
      have lb2 : b2 < wr.heap.size := cell_lt e0
      clear hR1 hR2 hbel
      cases q
      · obtain ⟨x, FC, hm⟩ := HF rfl
        simp at HC
        have HC' : Hid (dn (j + 1) = dn j + 1) := HC
        clear HF HS HC
        go_wp2_with fail
        go_quiet (fail)
        generalize hV : World.drewN wr _ = V
        have PV : Hid (Blk V w.heap.size #[.int .i64 n, .slice (some ⟨b1, o1, Option.none⟩) l.length ca] 37) := by rw [← hV]; exact P3.out
        have QV : Hid (Blk V (w.heap.size + 1) #[.int .i64 n, .slice (some ⟨b2, o2, Option.none⟩) k.length cb] 37) := by rw [← hV]; exact Q3.out
        have BV : Hid (Below w2.heap.size w2 V) := by rw [← hV]; exact HB.out.trans (below_draws _ _ _)
        have dV0 : V.cell? ⟨b1, o1 + j * 3, Option.none⟩ = some (.float .f32 c.r) := by rw [← hV]; exact d0
        have dV1 : V.cell? ⟨b1, o1 + j * 3 + 1, Option.none⟩ = some (.float .f32 c.g) := by rw [← hV]; exact d1
        have dV2 : V.cell? ⟨b1, o1 + j * 3 + 2, Option.none⟩ = some (.float .f32 c.b) := by rw [← hV]; exact d2
        have eV0 : V.cell? ⟨b2, o2 + j * 3, Option.none⟩ = some (.float .f32 d.r) := by rw [← hV]; exact e0
        have eV1 : V.cell? ⟨b2, o2 + j * 3 + 1, Option.none⟩ = some (.float .f32 d.g) := by rw [← hV]; exact e1
        have eV2 : V.cell? ⟨b2, o2 + j * 3 + 2, Option.none⟩ = some (.float .f32 d.b) := by rw [← hV]; exact e2
        have sV : V.heap.size = wr.heap.size := by rw [← hV]; rfl
        clear hV p0 p1 q0 q1 e0 e1 e2 d0 d1 d2 P3 Q3 HB HBW
        (have p0 := Blk.cellAt (i := 0) PV.out rfl; have p1 := Blk.cellAt (i := 1) PV.out rfl; simp only [List.getElem_toArray, List.getElem_cons_zero, List.getElem_cons_succ] at p0 p1)
        (have q0 := Blk.cellAt (i := 0) QV.out rfl; have q1 := Blk.cellAt (i := 1) QV.out rfl; simp only [List.getElem_toArray, List.getElem_cons_zero, List.getElem_cons_succ] at q0 q1)
        have hBV : Below V.heap.size V V := Below.refl _ _
        have hzV := Nat.le_refl V.heap.size
        have hqV : w.heap.size + 1 < V.heap.size := by omega
        have hpV : w.heap.size < V.heap.size := by omega
        have hbV1 : b1 < V.heap.size := by omega
        have hbV : b2 < V.heap.size := by omega
        go_wp2_with fail
        go_region_held3 (fun wx => Below V.heap.size V wx ∧ V.heap.size ≤ wx.heap.size ∧ w.heap.size < wx.heap.size ∧ w.heap.size + 1 < wx.heap.size ∧ b1 < wx.heap.size ∧ b2 < wx.heap.size ∧ wx.cell? ⟨w.heap.size, 0, Option.none⟩ = some (.int .i64 n) ∧ wx.cell? ⟨w.heap.size, 1, Option.none⟩ = some (.slice (some ⟨b1, o1, Option.none⟩) l.length ca) ∧ wx.cell? ⟨w.heap.size + 1, 0, Option.none⟩ = some (.int .i64 n) ∧ wx.cell? ⟨w.heap.size + 1, 1, Option.none⟩ = some (.slice (some ⟨b2, o2, Option.none⟩) k.length cb) ∧ wx.cell? ⟨b1, (o1 + j * 3), Option.none⟩ = some (.float .f32 c.r) ∧ wx.cell? ⟨b1, (o1 + j * 3) + 1, Option.none⟩ = some (.float .f32 c.g) ∧ wx.cell? ⟨b1, (o1 + j * 3) + 2, Option.none⟩ = some (.float .f32 c.b) ∧ wx.cell? ⟨b2, (o2 + j * 3), Option.none⟩ = some (.float .f32 d.r) ∧ wx.cell? ⟨b2, (o2 + j * 3) + 1, Option.none⟩ = some (.float .f32 d.g) ∧ wx.cell? ⟨b2, (o2 + j * 3) + 2, Option.none⟩ = some (.float .f32 d.b))
          (((repeat' apply And.intro) <;> first | (with_reducible assumption) | (((repeat (first | (with_reducible assumption) | (with_reducible exact cNewAt (by first | rfl | (simp only [World.size_alloc, World.size_setCell, World.size_drew]; done) | omega) rfl) | (with_reducible exact sNewAt (by first | rfl | (simp only [World.size_alloc, World.size_setCell, World.size_drew]; done) | omega) rfl) | (simp; done) | (with_reducible apply cAlloc) | (with_reducible apply cDrew) | (with_reducible refine cSet (by dsimp only; omega) ?_) | (with_reducible refine cSetOff (by dsimp only; omega) ?_) | (with_reducible apply cSame) | (with_reducible refine cBelow (by assumption) ?_) | (with_reducible apply sAlloc) | (with_reducible apply sDrew) | (with_reducible refine sBelow (by assumption) ?_) | (with_reducible refine sSet (by dsimp only; omega) ?_))); first | done | (simp [*]; done)); done) | (simp only [World.size_alloc, World.size_setCell, World.size_drew]; omega) | omega | (go_keep; done) | ((repeat' (first | (with_reducible exact Below.refl _ _) | (with_reducible assumption) | (with_reducible refine Below.alloc ?_ ?_ _) | (with_reducible refine Below.drew ?_) | (with_reducible refine Below.setCell ?_ ?_ _) | (with_reducible refine Below.trans ?_ (Below.mono (by assumption) ?_)) | (with_reducible exact Nat.le_refl _) | omega | (simp only [World.size_alloc, World.size_setCell, World.size_drew]; omega) | (simp; omega) | (simp; done))); done)))
          (first | (go_at_call 125; (with_reducible refine (FC.call _).mono ?_); rintro e w4 ⟨rfl, hb⟩; have hbs4 := hb.size; (try simp only [World.size_alloc, World.size_setCell, World.size_drew] at hbs4)))
        all_goals
          rename_i hHeld
          have HB4 : Hid (Below w2.heap.size w2 w4) := BV.out.trans (hHeld.1.mono BV.out.size)
          clear hHeld hBV p0 p1 q0 q1 dV0 dV1 dV2 eV0 eV1 eV2
          go_wp2
          go_roundw
          case rel => exact ⟨j + 1, by omega, by go_num, by rw [HC'.out]; simp, rfl, HB4.out⟩
          case measure => simp [intOf]; omega
      · have HC2 : dn (j + 1) = dn j := by simpa using HC
        have HC' : Hid (dn (j + 1) = dn j) := HC2
        have HS' : Hid (df (j + 1) = df j) := HS rfl
        clear HF HS HC HC2
        go_wp2_with fail
        go_quiet (fail)
        go_wp2
        go_roundw
        case rel => exact ⟨j + 1, by omega, by go_num, by rw [HC'.out], by rw [HS'.out], HB.out.trans (below_draws _ _ _)⟩
        case measure => simp [intOf]; omega
    · have hjm : j = N := by omega
      subst hjm
      clear hbel
      go_wp2
      go_returns
      exact ⟨by rw [← HN1.out]; rfl, HBW.out⟩⟩

/-! Where there is no answer. -/
set_option maxHeartbeats 8000000 in
theorem difP_no {n : Int} {a : Option Addr} {ca : Nat} {l : List Lit} {m : Int} {b : Option Addr} {cb : Nat} {k : List Lit} (h : (picB n l && picB m k && (n == m)) = false) : DifP n a ca l m b cb k (-1) 0 := ⟨fun w hr1 hr2 => by
  have I1 := picIs n a ca l
  have I2 := picIs m b cb k
  have R1 : Hid (LitsAt w a l) := hr1
  have R2 : Hid (LitsAt w b k) := hr2
  clear hr1 hr2
  generalize picB n l = p at h I1
  generalize picB m k = q at h I2
  go_enter Try.func41, Try.ntmps41
  go_wp2_with fail
  generalize hW : (w.alloc (.cells #[.int .i64 n, .slice a l.length ca] 37)).alloc (.cells #[.int .i64 m, .slice b k.length cb] 37) = X
  have P0 : Hid (Blk X w.heap.size #[.int .i64 n, .slice a l.length ca] 37) := by rw [← hW]; exact (Blk.new _ _ _).alloc
  have Q0 : Hid (Blk X (w.heap.size + 1) #[.int .i64 m, .slice b k.length cb] 37) := by rw [← hW]; exact Blk.newAt (by simp)
  have B0 : Hid (Below w.heap.size w X) := by rw [← hW]; show Below w.heap.size w _; (repeat' (first | (with_reducible exact Below.refl _ _) | (with_reducible assumption) | (with_reducible refine Below.alloc ?_ ?_ _) | (with_reducible refine Below.drew ?_) | (with_reducible refine Below.setCell ?_ ?_ _) | (with_reducible refine Below.trans ?_ (Below.mono (by assumption) ?_)) | (with_reducible exact Nat.le_refl _) | omega | (simp only [World.size_alloc, World.size_setCell, World.size_drew]; omega) | (simp; omega) | (simp; done)))
  clear hW
  refine (I1.call _ (LitsAt.below R1.out B0.out)).mono ?_
  rintro e w1 ⟨rfl, hb⟩
  have P1 : Hid (Blk w1 w.heap.size #[.int .i64 n, .slice a l.length ca] 37) := P0.out.below hb
  have Q1 : Hid (Blk w1 (w.heap.size + 1) #[.int .i64 m, .slice b k.length cb] 37) := Q0.out.below hb
  have B1 : Hid (Below w.heap.size w w1) := B0.out.trans (hb.mono B0.out.size)
  clear hb P0 Q0 B0
  (have p0 := Blk.cellAt (i := 0) P1.out rfl; have p1 := Blk.cellAt (i := 1) P1.out rfl; simp only [List.getElem_toArray, List.getElem_cons_zero, List.getElem_cons_succ] at p0 p1)
  (have q0 := Blk.cellAt (i := 0) Q1.out rfl; have q1 := Blk.cellAt (i := 1) Q1.out rfl; simp only [List.getElem_toArray, List.getElem_cons_zero, List.getElem_cons_succ] at q0 q1)
  cases p
  · go_wp2
    go_returns
    exact ⟨rfl, B1.out⟩
  · go_wp2_with fail
    refine (I2.call _ (LitsAt.below R2.out B1.out)).mono ?_
    rintro e w2 ⟨rfl, hb⟩
    have P2 := P1.out.below hb
    have Q2 := Q1.out.below hb
    have B2 : Hid (Below w.heap.size w w2) := B1.out.trans (hb.mono B1.out.size)
    clear hb P1 Q1 B1 p0 p1 q0 q1 I1 I2
    (have p0 := Blk.cellAt (i := 0) P2 rfl; have p1 := Blk.cellAt (i := 1) P2 rfl; simp only [List.getElem_toArray, List.getElem_cons_zero, List.getElem_cons_succ] at p0 p1)
    (have q0 := Blk.cellAt (i := 0) Q2 rfl; have q1 := Blk.cellAt (i := 1) Q2 rfl; simp only [List.getElem_toArray, List.getElem_cons_zero, List.getElem_cons_succ] at q0 q1)
    clear P2 Q2
    cases q
    · go_wp2
      go_returns
      exact ⟨rfl, B2.out⟩
    · have hne : (n == m) = false := by simpa using h
      go_wp2
      go_returns
      exact ⟨rfl, B2.out⟩⟩
set_option maxHeartbeats 8000000 in
theorem difZ_no {n : Int} {a : Option Addr} {ca : Nat} {l : List Lit} {m : Int} {b : Option Addr} {cb : Nat} {k : List Lit} (hw1 : ∀ c ∈ l, c.W) (hw2 : ∀ c ∈ k, c.W) (h : (picB n l && picB m k && (n == m)) = false) : DifZ n a ca l m b cb k (-1) 0 := ⟨fun w hr1 hr2 => by
  have I1 := picS n a ca hw1
  have I2 := picS m b cb hw2
  have R1 : Hid (LitsAt w a l) := hr1
  have R2 : Hid (LitsAt w b k) := hr2
  clear hr1 hr2 hw1 hw2
  generalize picB n l = p at h I1
  generalize picB m k = q at h I2
  go_enter Try.func65, Try.ntmps65
  go_wp2_with fail
  generalize hW : (w.alloc (.cells #[.int .i64 n, .slice a l.length ca] 37)).alloc (.cells #[.int .i64 m, .slice b k.length cb] 37) = X
  have P0 : Hid (Blk X w.heap.size #[.int .i64 n, .slice a l.length ca] 37) := by rw [← hW]; exact (Blk.new _ _ _).alloc
  have Q0 : Hid (Blk X (w.heap.size + 1) #[.int .i64 m, .slice b k.length cb] 37) := by rw [← hW]; exact Blk.newAt (by simp)
  have B0 : Hid (Below w.heap.size w X) := by rw [← hW]; show Below w.heap.size w _; (repeat' (first | (with_reducible exact Below.refl _ _) | (with_reducible assumption) | (with_reducible refine Below.alloc ?_ ?_ _) | (with_reducible refine Below.drew ?_) | (with_reducible refine Below.setCell ?_ ?_ _) | (with_reducible refine Below.trans ?_ (Below.mono (by assumption) ?_)) | (with_reducible exact Nat.le_refl _) | omega | (simp only [World.size_alloc, World.size_setCell, World.size_drew]; omega) | (simp; omega) | (simp; done)))
  clear hW
  refine (I1.call _ (LitsAt.below R1.out B0.out)).mono ?_
  rintro e w1 ⟨rfl, hb⟩
  have P1 : Hid (Blk w1 w.heap.size #[.int .i64 n, .slice a l.length ca] 37) := P0.out.below hb
  have Q1 : Hid (Blk w1 (w.heap.size + 1) #[.int .i64 m, .slice b k.length cb] 37) := Q0.out.below hb
  have B1 : Hid (Below w.heap.size w w1) := B0.out.trans (hb.mono B0.out.size)
  clear hb P0 Q0 B0
  (have p0 := Blk.cellAt (i := 0) P1.out rfl; have p1 := Blk.cellAt (i := 1) P1.out rfl; simp only [List.getElem_toArray, List.getElem_cons_zero, List.getElem_cons_succ] at p0 p1)
  (have q0 := Blk.cellAt (i := 0) Q1.out rfl; have q1 := Blk.cellAt (i := 1) Q1.out rfl; simp only [List.getElem_toArray, List.getElem_cons_zero, List.getElem_cons_succ] at q0 q1)
  cases p
  · go_wp2
    go_returns
    exact ⟨rfl, B1.out⟩
  · go_wp2_with fail
    refine (I2.call _ (LitsAt.below R2.out B1.out)).mono ?_
    rintro e w2 ⟨rfl, hb⟩
    have P2 := P1.out.below hb
    have Q2 := Q1.out.below hb
    have B2 : Hid (Below w.heap.size w w2) := B1.out.trans (hb.mono B1.out.size)
    clear hb P1 Q1 B1 p0 p1 q0 q1 I1 I2
    (have p0 := Blk.cellAt (i := 0) P2 rfl; have p1 := Blk.cellAt (i := 1) P2 rfl; simp only [List.getElem_toArray, List.getElem_cons_zero, List.getElem_cons_succ] at p0 p1)
    (have q0 := Blk.cellAt (i := 0) Q2 rfl; have q1 := Blk.cellAt (i := 1) Q2 rfl; simp only [List.getElem_toArray, List.getElem_cons_zero, List.getElem_cons_succ] at q0 q1)
    clear P2 Q2
    cases q
    · go_wp2
      go_returns
      exact ⟨rfl, B2.out⟩
    · have hne : (n == m) = false := by simpa using h
      go_wp2
      go_returns
      exact ⟨rfl, B2.out⟩⟩
/-- A finite float is the same as itself in the laws. -/
theorem same_wide {x : Nat} (hf : x ≤ 1065353216) : SameF (wide x) (wide x) := ⟨fun w => sameFloat_wide (fin_of_lt (by omega)) (by omega) w⟩
theorem differ_both (n m : Int) {l k : List Lit} (hw1 : ∀ c ∈ l, c.W) (hw2 : ∀ c ∈ k, c.W) : ∃ (c : Int) (x : Nat), x ≤ 1065353216 ∧ (∀ a ca b cb, DifP n a ca l m b cb k c x) ∧ (∀ a ca b cb, DifZ n a ca l m b cb k c x) := by
  by_cases h : (picB n l && picB m k && (n == m)) = true
  · simp only [Bool.and_eq_true, beq_iff_eq] at h
    obtain ⟨⟨h1, h2⟩, rfl⟩ := h
    refine ⟨_, _, ?_, fun a ca b cb => difP_yes h1 h2 hw1 hw2, fun a ca b cb => difZ_yes h1 h2 hw1 hw2⟩
    obtain ⟨u, hu, g1, g8, hl, hp1⟩ := pic_cases h1
    obtain ⟨v, hv, _, _, hk, hp2⟩ := pic_cases h2
    obtain rfl : u = v := by omega
    have hlk : k.length = l.length := by omega
    exact difF_le (N := l.length) (fun j hj => ⟨isB_p (hw1 _ (by simp [List.getD, hj])) (hp1 _ (by simp [List.getD, hj])), isB_p (hw2 _ (by simp [List.getD, show j < k.length by omega])) (hp2 _ (by simp [List.getD, show j < k.length by omega]))⟩) _ (Nat.le_refl _)
  · have h' : (picB n l && picB m k && (n == m)) = false := by simpa using h
    exact ⟨-1, 0, by omega, fun a ca b cb => difP_no h', fun a ca b cb => difZ_no hw1 hw2 h'⟩
end Go.Proofs.Ytlnikapkheldeaa

/-
  SymsOfPicture of the model, and of both where there is no picture.
-/
namespace Go.Proofs.Ytlnikapkheldeaa
open Go.ChangeShapes Go.WideShapes Go.ChangeAt Go.RowKit Go.Joins
set_option linter.unusedSimpArgs false
set_option linter.unusedVariables false
set_option maxRecDepth 100000
attribute [local go_sem] store_f
open Ieee

theorem all_syms : allTo 8 = symsTo 3 8 := by decide +kernel
theorem all_len : (allTo 8).length = 8 := by decide +kernel
structure PicSymsZ (n : Int) (a : Option Addr) (cap : Nat) (l : List Lit) (m : List (Int × Bool)) : Prop where
  call : ∀ w : World, LitsAt w a l → Calls Try.prog 55 #[.agg #[.int .i64 n, .slice a l.length cap]] w fun e w' => (∃ g cp, SymsMade w.heap.size e w' m g cp) ∧ Below w.heap.size w w'
/-- One symmetry of the model's round. -/
structure KeepZ (n : Int) (a : Option Addr) (cap : Nat) (l : List Lit) (t : Int) (f : Bool) (m : List Lit) (q : Bool) : Prop where
  act : ActX t f n a cap l n m
  same : ∀ g cp, SameZ n g cp m n a cap l q
/-- What the region of a round answers: whether there is a picture that the symmetry keeps. -/
structure RoundZ (n : Int) (a : Option Addr) (cap : Nat) (l : List Lit) (t : Int) (f : Bool) (q : Bool) : Prop where
  yes : (PicS n a cap l false ∧ q = false) ∨ (PicS n a cap l true ∧ ∃ m, KeepZ n a cap l t f m q)
theorem roundZ {n : Int} {a : Option Addr} {cap : Nat} {l : List Lit} (hw : ∀ c ∈ l, c.W) (j : Nat) (hj : j < (symsTo 3 8).length) :
    RoundZ n a cap l ((symsTo 3 8).getD j (0, false)).1 ((symsTo 3 8).getD j (0, false)).2 (picB n l && keepsB n.toNat l ((symsTo 3 8).getD j (0, false))) := ⟨by
  have IP := picS n a cap hw
  by_cases hp : picB n l = true
  · right
    rw [hp] at IP
    obtain ⟨u, rfl, h1, h8, hl, _⟩ := pic_cases hp
    obtain ⟨t, ht, h4⟩ := symsTo_in 3 ((symsTo 3 8).getD j (0, false)) (by simp [List.getD, hj])
    have e : keepsB (u : Int).toNat l ((symsTo 3 8).getD j (0, false)) = colsEq (actCols u t ((symsTo 3 8).getD j (0, false)).2 l) l := by
      unfold keepsB; rw [ht]; rfl
    rw [hp, Bool.true_and, e, ht]
    refine ⟨IP, _, actX_yes _ h4 hp hw, fun g cp => ?_⟩
    have hbl : (actCols u t ((symsTo 3 8).getD j (0, false)).2 l).length ≤ 1000000000 := by
      have : u * u ≤ 8 * 8 := Nat.mul_le_mul h8 h8
      rw [act_len]
      omega
    have h := sameZ (n := (u : Int)) (a := g) (ca := cp) (m := (u : Int)) (b := a) (cb := cap) (k := l) hbl
    simpa using h
  · left
    have hp' : picB n l = false := by simpa using hp
    rw [hp'] at IP ⊢
    exact ⟨IP, rfl⟩⟩

set_option maxHeartbeats 16000000 in
theorem picSymsZ_of {n : Int} {a : Option Addr} {cap : Nat} {l : List Lit} {P : Int × Bool → Bool} (HKK : ∀ j, j < (symsTo 3 8).length → RoundZ n a cap l ((symsTo 3 8).getD j (0, false)).1 ((symsTo 3 8).getD j (0, false)).2 (P ((symsTo 3 8).getD j (0, false)))) : PicSymsZ n a cap l ((symsTo 3 8).filter P) := ⟨fun w hrow => by
  have HK : Hid (∀ j, j < (symsTo 3 8).length → RoundZ n a cap l ((symsTo 3 8).getD j (0, false)).1 ((symsTo 3 8).getD j (0, false)).2 (P ((symsTo 3 8).getD j (0, false)))) := HKK
  have HY : Hid (∀ j, j < (symsTo 3 8).length → ((symsTo 3 8).take (j + 1)).filter P = ((symsTo 3 8).take j).filter P ++ (if P ((symsTo 3 8).getD j (0, false)) then [(symsTo 3 8).getD j (0, false)] else [])) := fun j hj => filter_snoc _ _ hj
  have HZ : Hid (((symsTo 3 8).take (symsTo 3 8).length).filter P = (symsTo 3 8).filter P) := by rw [List.take_length]; rfl
  have hl8 : (symsTo 3 8).length = 8 := by decide +kernel
  have HLE : Hid (∀ j, (((symsTo 3 8).take j).filter P).length ≤ 8) := fun j => by
    have h1 := List.length_filter_le P ((symsTo 3 8).take j)
    have h2 := List.length_take_le' j (symsTo 3 8)
    omega
  have SY : ∀ w, Calls Try.prog 72 #[] w fun e w' => ∃ g cap, e = .returned (.slice (some ⟨g, 0, Option.none⟩) 8 cap) ∧ (SymRow w' g (symsTo 3 8) ∧ w.heap.size ≤ g ∧ g < w'.heap.size) ∧ Below w.heap.size w w' := fun w => by
    refine (l1All_s w).mono ?_
    rintro e w1 ⟨g, c, rfl, own, hb⟩
    have h := own.lt _ rfl
    have r := symRow_of own all_len
    rw [all_syms] at r
    exact ⟨g, c, rfl, ⟨r, h.1, h.2⟩, hb⟩
  have HR : Hid (LitsAt w a l) := hrow
  generalize hM : (fun j : Nat => ((symsTo 3 8).take j).filter P) = M
  have HY' : Hid (∀ j, j < (symsTo 3 8).length → M (j + 1) = M j ++ (if P ((symsTo 3 8).getD j (0, false)) then [(symsTo 3 8).getD j (0, false)] else [])) := by rw [← hM]; exact HY.out
  have HZ' : M (symsTo 3 8).length = (symsTo 3 8).filter P := by rw [← hM]; exact HZ.out
  have H0 : Hid (M 0 = []) := by rw [← hM]; rfl
  have HLE' : Hid (∀ j, (M j).length ≤ 8) := by rw [← hM]; exact HLE.out
  clear hM HY HZ HLE hrow HKK
  generalize (symsTo 3 8).filter P = z at HZ' ⊢
  generalize symsTo 3 8 = s at *
  subst HZ'
  obtain ⟨i0, hi, hz0, hz1, hz2⟩ := info_parts infoSym
  go_enter Try.func55, Try.ntmps55
  go_wp2_with fail
  generalize hW : (w.alloc (.cells #[.int .i64 n, .slice a l.length cap] 37)).alloc (.cells #[] 25) = X
  have P0 : Hid (PicBox X w.heap.size n a cap l) := by rw [← hW]; exact ⟨(Blk.new _ _ _).alloc, (HR.out.alloc).alloc⟩
  have O0 : Hid (X.ownsRow (w.heap.size + 1) 25 2 (.slice (some ⟨w.heap.size + 1, 0, Option.none⟩) 0 0) 0 []) := by
    rw [← hW]
    have h := World.ownsRow_lit (w.alloc (.cells #[.int .i64 n, .slice a l.length cap] 37)) (base := w.heap.size + 1) (e := 25) (size := 2) #[] 0 (by simp) (by unfold maxLen; omega) rfl
    simp only [World.size_alloc] at h
    exact h
  have hB : Below w.heap.size w X := by rw [← hW]; (repeat' (first | (with_reducible exact Below.refl _ _) | (with_reducible assumption) | (with_reducible refine Below.alloc ?_ ?_ _) | (with_reducible refine Below.drew ?_) | (with_reducible refine Below.setCell ?_ ?_ _) | (with_reducible refine Below.trans ?_ (Below.mono (by assumption) ?_)) | (with_reducible exact Nat.le_refl _) | omega | (simp only [World.size_alloc, World.size_setCell, World.size_drew]; omega) | (simp; omega) | (simp; done)))
  have HB : Hid (Below w.heap.size w X) := hB
  have hs : X.heap.size = w.heap.size + 2 := by rw [← hW]; simp
  clear hW hB
  refine (SY _).mono ?_
  rintro e w2 ⟨gs, cs, rfl, ⟨hsr, hg0', hg1⟩, hb⟩
  have HS : Hid (SymRow w2 gs s) := hsr
  have P2 : Hid (PicBox w2 w.heap.size n a cap l) := P0.out.below hb
  have O2 : Hid (w2.ownsRow (w.heap.size + 1) 25 2 (.slice (some ⟨w.heap.size + 1, 0, Option.none⟩) 0 0) 0 []) := ownsBelow hb O0.out
  have HB2 : Hid (Below w.heap.size w w2) := HB.out.trans (hb.mono (by omega))
  have hs2 : w.heap.size + 2 ≤ w2.heap.size := by have := hb.size; omega
  have hg0 : w.heap.size + 2 ≤ gs := by omega
  clear hb hsr P0 O0 HB hs SY hg0'
  go_wp2_with fail
  go_loopw [3, 9] (fun v i wr => ∃ j : Nat, j ≤ s.length ∧ i = .int .i64 j ∧ (wr.ownsRow (w.heap.size + 1) 25 2 v (M j).length (symCells (M j)) ∧ v ≠ .slice Option.none 0 0 ∧ v.ownBlock ≠ some gs) ∧ SymRow wr gs s ∧ PicBox wr w.heap.size n a cap l ∧ Below w.heap.size w wr ∧ w2.heap.size ≤ wr.heap.size)
    (fun _ i _ => s.length - (intOf i).toNat)
  case atStart => exact ⟨0, by omega, rfl, ⟨by rw [H0.out]; exact O2.out, by simp, by simp [Value.ownBlock]; omega⟩, HS.out, P2.out, HB2.out, Nat.le_refl _⟩
  case round =>
    obtain ⟨j, hj, rfl, ⟨hown, hnn, hng⟩, hS, hP, hbel, hsz⟩ := hrel
    have HNN : Hid (u3 ≠ .slice Option.none 0 0) := hnn
    have HNG : Hid (u3.ownBlock ≠ some gs) := hng
    have HO : Hid (wr.ownsRow (w.heap.size + 1) 25 2 u3 (M j).length (symCells (M j))) := hown
    have HSR : Hid (SymRow wr gs s) := hS
    have HPR : Hid (PicBox wr w.heap.size n a cap l) := hP
    have HBR : Hid (Below w.heap.size w wr) := hbel
    have hml := HLE'.out j
    clear hown hnn hng hS hP hbel P2 O2 HB2 HS
    by_cases hlt : j < s.length
    · have K := HK.out j hlt
      have HYJ := HY'.out j hlt
      obtain ⟨c0, c1⟩ := HSR.out j hlt
      generalize s.getD j (0, false) = p at K HYJ c0 c1
      generalize P p = q at K HYJ
      obtain ⟨t, f⟩ := p
      simp only [] at c0 c1 K
      have HYH : Hid (M (j + 1) = M j ++ (if q then [(t, f)] else [])) := HYJ
      have hj8 : (j : Int) < 8 := by omega
      have hj0 : (0 : Int) ≤ (j : Int) := by omega
      clear HYJ
      go_wp2_with fail
      generalize hV : wr.alloc (.cells #[.int .i64 t, .bool f] 25) = V
      have N0 : Blk V wr.heap.size #[.int .i64 t, .bool f] 25 := by rw [← hV]; exact Blk.new _ _ _
      have NH : Hid (Blk V wr.heap.size #[.int .i64 t, .bool f] 25) := N0
      have HOV : Hid (V.ownsRow (w.heap.size + 1) 25 2 u3 (M j).length (symCells (M j))) := by rw [← hV]; exact World.ownsRow.alloc HO.out _
      have HSV : Hid (SymRow V gs s) := by rw [← hV]; exact HSR.out.alloc
      have HPV : Hid (PicBox V w.heap.size n a cap l) := by rw [← hV]; exact ⟨HPR.out.blk.alloc, HPR.out.row.alloc⟩
      have HBV : Hid (Below w.heap.size w V) := by rw [← hV]; exact HBR.out.alloc (by omega) _
      have hVs : V.heap.size = wr.heap.size + 1 := by rw [← hV]; simp
      have hBV : Below V.heap.size V V := Below.refl _ _
      (have n0 := Blk.cellAt (i := 0) N0 rfl; have n1 := Blk.cellAt (i := 1) N0 rfl; simp only [List.getElem_toArray, List.getElem_cons_zero, List.getElem_cons_succ] at n0 n1)
      (have p0 := Blk.cellAt (i := 0) HPV.out.blk rfl; have p1 := Blk.cellAt (i := 1) HPV.out.blk rfl; simp only [List.getElem_toArray, List.getElem_cons_zero, List.getElem_cons_succ] at p0 p1)
      have hRV := HPV.out.row
      have lN := N0.lt
      have lP : w.heap.size < V.heap.size := by omega
      have lV := Nat.le_refl V.heap.size
      clear hV c0 c1 HO HSR HPR HBR N0
      generalize wr.heap.size = ng at *
      go_cut [21] (fun v wx => v = .bool q ∧ Below V.heap.size V wx)
      case first =>
        rcases K.yes with ⟨IP, rfl⟩ | ⟨IP, m, KM⟩
        · go_region_with (go_at_call 44; (with_reducible refine (IP.call _ ?_).mono ?_); (next => first | exact hRV | exact LitsAt.drew hRV); rintro e w4 ⟨rfl, hb⟩; have HB4 : Hid (Below V.heap.size V w4) := (Below.drew (Below.refl _ _)).trans hb; clear hb)
          all_goals
            go_wp2_with fail
            go_meet
            exact ⟨rfl, HB4.out⟩
        · go_region_held3 (fun wx => Below V.heap.size V wx ∧ V.heap.size ≤ wx.heap.size ∧ ng < wx.heap.size ∧ w.heap.size < wx.heap.size ∧ wx.cell? ⟨ng, 0, Option.none⟩ = some (.int .i64 (t)) ∧ wx.cell? ⟨ng, 1, Option.none⟩ = some (.bool (f)) ∧ wx.cell? ⟨w.heap.size, 0, Option.none⟩ = some (.int .i64 n) ∧ wx.cell? ⟨w.heap.size, 1, Option.none⟩ = some (.slice a l.length cap))
            (((repeat' apply And.intro) <;> first | (with_reducible assumption) | ((repeat (first | (with_reducible assumption) | (with_reducible exact And.left (by assumption)) | (with_reducible exact And.left (And.right (by assumption))) | (with_reducible exact And.left (And.right (And.right (by assumption)))) | (with_reducible refine LitsAt.drew ?_) | (with_reducible refine LitsAt.below ?_ hb) | (with_reducible refine LitsAt.alloc ?_))); done) | (((repeat (first | (with_reducible assumption) | (with_reducible exact cNewAt (by first | rfl | (simp only [World.size_alloc, World.size_setCell, World.size_drew]; done) | omega) rfl) | (with_reducible exact sNewAt (by first | rfl | (simp only [World.size_alloc, World.size_setCell, World.size_drew]; done) | omega) rfl) | (simp; done) | (with_reducible apply cAlloc) | (with_reducible apply cDrew) | (with_reducible refine cSet (by dsimp only; omega) ?_) | (with_reducible refine cSetOff (by dsimp only; omega) ?_) | (with_reducible apply cSame) | (with_reducible refine cBelow (by assumption) ?_) | (with_reducible apply sAlloc) | (with_reducible apply sDrew) | (with_reducible refine sBelow (by assumption) ?_) | (with_reducible refine sSet (by dsimp only; omega) ?_))); first | done | (simp [*]; done)); done) | (simp only [World.size_alloc, World.size_setCell, World.size_drew]; omega) | omega | (go_keep; done) | ((repeat' (first | (with_reducible exact Below.refl _ _) | (with_reducible assumption) | (with_reducible refine Below.alloc ?_ ?_ _) | (with_reducible refine Below.drew ?_) | (with_reducible refine Below.setCell ?_ ?_ _) | (with_reducible refine Below.trans ?_ (Below.mono (by assumption) ?_)) | (with_reducible exact Nat.le_refl _) | omega | (simp only [World.size_alloc, World.size_setCell, World.size_drew]; omega) | (simp; omega) | (simp; done))); done)))
            (first | (go_at_call 44; (with_reducible refine (IP.call _ ?_).mono ?_); (next => exact LitsAt.below hRV (And.left (by assumption))); rintro e w4 ⟨rfl, hb⟩; have hbs := hb.size; (try simp only [World.size_alloc, World.size_setCell, World.size_drew] at hbs)) | (go_at_call 51; (with_reducible refine (KM.act.call _ ?_).mono ?_); (next => exact LitsAt.below hRV (And.left (by assumption))); rintro e w5 ⟨b5, c5, ⟨rfl, ho, hb⟩⟩; have K5 : Hid (LitsAt w5 b5 m) := ho.lits; clear ho; have hbs := hb.size; (try simp only [World.size_alloc, World.size_setCell, World.size_drew] at hbs)) | (go_at_call 54; (with_reducible refine ((KM.same _ _).call _ K5.out ?_).mono ?_); (next => exact LitsAt.below hRV (And.left (by assumption))); rintro e w6 ⟨rfl, hb⟩; have hbs := hb.size; (try simp only [World.size_alloc, World.size_setCell, World.size_drew] at hbs)))
          all_goals
            rename_i hHeld
            have hb8 := hHeld.1
            clear hHeld
            go_wp2_with fail
            go_meet
            exact ⟨rfl, hb8⟩
      case rest =>
        obtain ⟨rfl, hbV⟩ := hcut
        have HO5 : Hid (wc.ownsRow (w.heap.size + 1) 25 2 u3 (M j).length (symCells (M j))) := ownsBelow hbV HOV.out
        have HS5 : Hid (SymRow wc gs s) := HSV.out.below hbV
        have HP5 : Hid (PicBox wc w.heap.size n a cap l) := HPV.out.below hbV
        have HB5 : Hid (Below w.heap.size w wc) := HBV.out.trans (hbV.mono (by omega))
        have hN5 := NH.out.below hbV
        (have q0 := Blk.cellAt (i := 0) hN5 rfl; have q1 := Blk.cellAt (i := 1) hN5 rfl; simp only [List.getElem_toArray, List.getElem_cons_zero, List.getElem_cons_succ] at q0 q1)
        have hs5 : w2.heap.size ≤ wc.heap.size := by have := hbV.size; omega
        clear hbV n0 n1 p0 p1 hRV hBV HOV HSV HPV HBV K NH hN5
        cases q
        · go_wp2
          go_roundw
          case rel => exact ⟨j + 1, by omega, by go_num, ⟨by rw [HYH.out]; simpa using HO5.out, HNN.out, HNG.out⟩, HS5.out, HP5.out, HB5.out, hs5⟩
          case measure => simp [intOf]; omega
        · go_wp2_with (at_builtin; go_loud (refine wpList_append_lies _ rfl _ _ 41 rfl (w.heap.size + 1) 25 i0 (.agg #[.int .i64 0, .bool false]) 2 16 Try.underlying41 hi hz0 hz1 hz2 rfl (by decide) u3 (M j).length (symCells (M j)) rfl (World.ownsRow.alloc HO5.out _) ⟨wc.heap.size, 0, Option.none⟩ 1 1 [.int .i64 t, .bool f] rfl rfl (World.news_of_block (cs := #[.int .i64 t, .bool f]) (t := 25) (fr := (0, 0)) (heap_alloc_new wc _)) (by simp [Value.oneCell']) (by omega) (by unfold maxLen; omega) (by omega) (by simp; omega) (wc.heap.size + 1) (by simp) ?_))
          intro gg cap' w6 hown6 hgrow hat hlt6
          have HNG6 : Hid (gg ≠ gs) := by
            show gg ≠ gs
            rcases hat with h | h
            · intro e
              subst e
              exact HNG.out h
            · omega
          have HS6 : Hid (SymRow w6 gs s) := SymRow.grownBy (HS5.out.alloc) hgrow HNG.out
          have hne : u3.ownBlock ≠ some w.heap.size := fun e => by
            have := (HO5.out.lt _ e).1
            omega
          have HB6 : Hid (Below w.heap.size w w6) := Below.grown (HB5.out.alloc (by omega) _) hgrow (by simp; omega) (fun q hq => by have := (HO5.out.lt q hq).1; omega)
          have HP6 : Hid (PicBox w6 w.heap.size n a cap l) := ⟨(hgrow.block w.heap.size (by simp; omega) (fun e => hne e.symm)).trans (Blk.alloc HP5.out.blk), HR.out.below HB6.out⟩
          have HO6 : Hid (w6.ownsRow (w.heap.size + 1) 25 2 (.slice (some ⟨gg, 0, Option.none⟩) ((M j).length + 1) cap') ((M j).length + 1) (symCells (M j) ++ [.int .i64 t, .bool f])) := hown6
          have hs6 : w2.heap.size ≤ w6.heap.size := by have := hgrow.size; simp at this; omega
          clear hown6 hgrow hat hne q0 q1
          go_wp2
          go_roundw
          case rel => exact ⟨j + 1, by omega, by go_num, ⟨by rw [HYH.out]; simpa [symCells_snoc] using HO6.out, by simp, by simpa [Value.ownBlock] using HNG6.out⟩, HS6.out, HP6.out, HB6.out, hs6⟩
          case measure => simp [intOf]; omega
    · have hjm : j = s.length := by omega
      subst hjm
      have hjl : ¬ (s.length : Int) < 8 := by omega
      rcases ownsRow_forms HO.out with ⟨e, _⟩ | ⟨g, cap', rfl⟩
      · exact absurd e HNN.out
      have HO8 : Hid (wr.ownsRow (w.heap.size + 1) 25 2 (.slice (some ⟨g, 0, Option.none⟩) (M 8).length cap') (M 8).length (symCells (M 8))) := by
        have h := HO.out
        rw [hl8] at h
        exact h
      go_wp2
      go_ret
      exact ⟨⟨g, cap', rfl, ownsLess HO8.out (show w.heap.size ≤ w.heap.size + 1 by omega)⟩, HBR.out⟩⟩
theorem picSymsZ {n : Int} {a : Option Addr} {cap : Nat} {l : List Lit} (hw : ∀ c ∈ l, c.W) : PicSymsZ n a cap l ((symsTo 3 8).filter fun p => picB n l && keepsB n.toNat l p) := picSymsZ_of (roundZ hw)

set_option maxHeartbeats 4000000 in
theorem picSymsM_no {n : Int} {a : Option Addr} {cap : Nat} {l : List Lit} (hp : picB n l = false) : PicSymsM n a cap l [] := ⟨fun w hrow => by
  have IP := picIs n a cap l
  rw [hp] at IP
  have HR : Hid (LitsAt w a l) := hrow
  clear hrow
  go_enter Try.func30, Try.ntmps30
  go_wp2_with fail
  generalize hW : (w.alloc (.cells #[.int .i64 n, .slice a l.length cap] 37)).alloc (.cells #[] 25) = X
  have L0 : Hid (LitsAt X a l) := by rw [← hW]; exact (HR.out.alloc).alloc
  have O0 : Hid (X.ownsRow (w.heap.size + 1) 25 2 (.slice (some ⟨w.heap.size + 1, 0, Option.none⟩) 0 0) 0 []) := by
    rw [← hW]
    have h := World.ownsRow_lit (w.alloc (.cells #[.int .i64 n, .slice a l.length cap] 37)) (base := w.heap.size + 1) (e := 25) (size := 2) #[] 0 (by simp) (by unfold maxLen; omega) rfl
    simp only [World.size_alloc] at h
    exact h
  have HB : Hid (Below w.heap.size w X) := by rw [← hW]; show Below w.heap.size w _; (repeat' (first | (with_reducible exact Below.refl _ _) | (with_reducible assumption) | (with_reducible refine Below.alloc ?_ ?_ _) | (with_reducible refine Below.drew ?_) | (with_reducible refine Below.setCell ?_ ?_ _) | (with_reducible refine Below.trans ?_ (Below.mono (by assumption) ?_)) | (with_reducible exact Nat.le_refl _) | omega | (simp only [World.size_alloc, World.size_setCell, World.size_drew]; omega) | (simp; omega) | (simp; done)))
  clear hW
  refine (IP.call _ L0.out).mono ?_
  rintro e w1 ⟨rfl, hb⟩
  have O1 : Hid (w1.ownsRow (w.heap.size + 1) 25 2 (.slice (some ⟨w.heap.size + 1, 0, Option.none⟩) 0 0) 0 []) := ownsBelow hb O0.out
  have B1 : Hid (Below w.heap.size w w1) := HB.out.trans (hb.mono HB.out.size)
  clear hb L0 O0 HB
  go_wp2
  go_ret
  exact ⟨⟨_, _, rfl, ownsLess O1.out (by omega)⟩, B1.out⟩⟩
/-- What SymsOfPicture gives, of both. -/
theorem syms_both (n : Int) {l : List Lit} (hw : ∀ c ∈ l, c.W) : ∃ s : List (Int × Bool), (∀ a cap, PicSymsM n a cap l s) ∧ (∀ a cap, PicSymsZ n a cap l s) ∧ s.length ≤ 8 := by
  refine ⟨(symsTo 3 8).filter fun p => picB n l && keepsB n.toNat l p, ?_, fun a cap => picSymsZ hw, ?_⟩
  · intro a cap
    by_cases hp : picB n l = true
    · obtain ⟨u, rfl, _⟩ := pic_cases hp
      have h := picSymsM (a := a) (cap := cap) hp
      rw [hp]
      simpa [picSyms] using h
    · have hp' : picB n l = false := by simpa using hp
      have e : (symsTo 3 8).filter (fun p => false && keepsB n.toNat l p) = [] := by
        rw [List.filter_eq_nil_iff]
        intro p _ h
        simp at h
      rw [hp', e]
      exact picSymsM_no hp'
  · have h1 := List.length_filter_le (fun p => picB n l && keepsB n.toNat l p) (symsTo 3 8)
    have h2 := symsTo_le 3 8
    omega
end Go.Proofs.Ytlnikapkheldeaa
