/-
  Texts of this proof, joined: Hh, Ceq, Hj, Hk.
-/
import Derived.Test.YtlnikapkheldeaaK12
import Derived.Test.YtlnikapkheldeaaK13
import Derived.Test.YtlnikapkheldeaaK14
import Derived.Test.YtlnikapkheldeaaK09
import Derived.Deep.QuietTactic
import Derived.BigQuiet
import Derived.Deep.RegionHeld3
import Derived.Deep.AppendLies
/-
  ActPicture and SpreadPicture of the program.
-/
namespace Go.Proofs.Ytlnikapkheldeaa
open Go.ChangeShapes Go.WideShapes Go.ChangeAt Go.RowKit Go.Joins
set_option linter.unusedSimpArgs false
set_option linter.unusedVariables false
set_option maxRecDepth 100000
attribute [local go_sem] store_f
open Ieee

/-- The cells that acting makes. -/
def actCols (n t : Nat) (f : Bool) (l : List Lit) : List Lit := colsTo (fun k => l.getD (cellN n (backT t f).toNat (backF t f) k) default) (n * n)
/-- The cells that spreading makes. -/
def spreadCols (kind : Int) (n : Nat) (l : List Lit) : List Lit := colsTo (fun k => l.getD (leastN kind n k) default) (n * n)
theorem pic_cases {n : Int} {l : List Lit} (h : picB n l = true) : ∃ m : Nat, n = m ∧ 1 ≤ m ∧ m ≤ 8 ∧ l.length = m * m ∧ ∀ c ∈ l, c.isB = true := by
  unfold picB at h
  simp only [Bool.and_eq_true, decide_eq_true_eq] at h
  obtain ⟨m, rfl, h1, h8⟩ := size_cases h.1.1
  have h2 := h.1.2
  have h3 : ((m * m : Nat) : Int) = (m : Int) * m := by simp
  exact ⟨m, rfl, h1, h8, by omega, fun c hc => List.all_eq_true.1 h.2 c hc⟩

structure ActPic (t : Int) (f : Bool) (n : Nat) (a : Option Addr) (cap : Nat) (l m : List Lit) : Prop where
  call : ∀ w : World, LitsAt w a l → Calls Try.prog 29 #[.agg #[.int .i64 t, .bool f], .agg #[.int .i64 n, .slice a l.length cap]] w fun e w' => (∃ g cp, PicMade w.heap.size e w' n m g cp) ∧ Below w.heap.size w w'
set_option maxHeartbeats 8000000 in
theorem actPic {n t : Nat} (f : Bool) {a : Option Addr} {cap : Nat} {l : List Lit} (ht : t < 4) (hp : picB n l = true) : ActPic t f n a cap l (actCols n t f l) := ⟨fun w hrow => by
  have IP := picIs n a cap l
  rw [hp] at IP
  obtain ⟨m, hm, h1, h8, hl, _⟩ := pic_cases hp
  obtain rfl : n = m := by omega
  have hJ := back_in ⟨t, ht⟩ f
  dsimp only at hJ
  have BK : BackM t f (backT t f) (backF t f) := ⟨fun w => backSym_i t f w⟩
  rw [hJ.1] at BK
  have HC : Hid (∀ (W : World) (bp bs : Nat), PicBox W bp n a cap l → Blk W bs #[.int .i64 (((backT t f).toNat : Nat) : Int), .bool (backF t f)] 25 → ∀ k, k < n * n → CloM 85 W #[.int .i64 k, .pointer (some ⟨bp, 0, Option.none⟩), .pointer (some ⟨bs, 0, Option.none⟩)] (l.getD (cellN n (backT t f).toNat (backF t f) k) default)) :=
    fun W bp bs P S k hk => act_clo h1 h8 hk hJ.2 hl P S
  have HP : Hid (∀ (w : World) (c1 c2 : Value), (∀ k, k < n * n → CloM 85 w #[.int .i64 k, c1, c2] (l.getD (cellN n (backT t f).toNat (backF t f) k) default)) → Calls Try.prog 84 #[.int .i64 n, .func (.func 85) #[] #[c1, c2]] w fun e w' => (∃ g cap, PicMade w.heap.size e w' n (actCols n t f l) g cap) ∧ Below w.heap.size w w') :=
    fun w c1 c2 C => pictureOf_a h1 h8 rfl w C
  have YS := fun w => isSym_yes (t : Int) f w (by omega) (by omega)
  generalize actCols n t f l = m at HP ⊢
  generalize ((backT t f).toNat : Int) = bt at *
  generalize (backT t f).toNat = bn at *
  generalize backF t f = bf at *
  generalize (t : Int) = t at *
  have HR : Hid (LitsAt w a l) := hrow
  clear hrow hp hl hJ h1 h8 hm
  go_enter Try.func29, Try.ntmps29
  go_wp2_with fail
  generalize hW : ((w.alloc (.cells #[.int .i64 t, .bool f] 25)).alloc (.cells #[.int .i64 n, .slice a l.length cap] 37)).alloc (.cells #[.int .i64 0, .slice Option.none 0 0] 37) = X
  have S0 : Hid (Blk X w.heap.size #[.int .i64 t, .bool f] 25) := by rw [← hW]; exact ((Blk.new _ _ _).alloc).alloc
  have P0 : Hid (PicBox X (w.heap.size + 1) n a cap l) := by rw [← hW]; exact ⟨(Blk.newAt (by simp)).alloc, ((HR.out.alloc).alloc).alloc⟩
  have R0 : Hid (Blk X (w.heap.size + 1 + 1) #[.int .i64 0, .slice Option.none 0 0] 37) := by rw [← hW]; exact Blk.newAt (by simp)
  have hB : Below w.heap.size w X := by rw [← hW]; (repeat' (first | (with_reducible exact Below.refl _ _) | (with_reducible assumption) | (with_reducible refine Below.alloc ?_ ?_ _) | (with_reducible refine Below.drew ?_) | (with_reducible refine Below.setCell ?_ ?_ _) | (with_reducible refine Below.trans ?_ (Below.mono (by assumption) ?_)) | (with_reducible exact Nat.le_refl _) | omega | (simp only [World.size_alloc, World.size_setCell, World.size_drew]; omega) | (simp; omega) | (simp; done)))
  have HB : Hid (Below w.heap.size w X) := hB
  have hs := hB.size
  clear hW hB HR
  refine (YS _).mono ?_
  rintro e w1 ⟨rfl, hb⟩
  have S1 : Hid (Blk w1 w.heap.size #[.int .i64 t, .bool f] 25) := S0.out.below hb
  have P1 : Hid (PicBox w1 (w.heap.size + 1) n a cap l) := P0.out.below hb
  have R1 : Hid (Blk w1 (w.heap.size + 1 + 1) #[.int .i64 0, .slice Option.none 0 0] 37) := R0.out.below hb
  have HB1 : Hid (Below w.heap.size w w1) := HB.out.trans (hb.mono hs)
  have hs1 := HB1.out.size
  have p0 := Blk.cellAt (i := 0) P1.out.blk rfl
  have p1 := Blk.cellAt (i := 1) P1.out.blk rfl
  simp only [List.getElem_toArray, List.getElem_cons_zero, List.getElem_cons_succ] at p0 p1
  clear hb S0 P0 R0 HB hs YS
  go_wp2_with fail
  refine (IP.call _ P1.out.row).mono ?_
  rintro e w2 ⟨rfl, hb⟩
  have S2 := S1.out.below hb
  have P2 : Hid (PicBox w2 (w.heap.size + 1) n a cap l) := P1.out.below hb
  have R2 : Hid (Blk w2 (w.heap.size + 1 + 1) #[.int .i64 0, .slice Option.none 0 0] 37) := R1.out.below hb
  have HB2 : Hid (Below w.heap.size w w2) := HB1.out.trans (hb.mono hs1)
  have hs2 := HB2.out.size
  have s0 := Blk.cellAt (i := 0) S2 rfl
  have s1 := Blk.cellAt (i := 1) S2 rfl
  simp only [List.getElem_toArray, List.getElem_cons_zero, List.getElem_cons_succ] at s0 s1
  clear hb S1 P1 R1 HB1 hs1 IP p0 p1 S2
  go_wp2_with fail
  refine (BK.call _).mono ?_
  rintro e w3 ⟨rfl, hb⟩
  have P3 : Hid (PicBox w3 (w.heap.size + 1) n a cap l) := P2.out.below hb
  have R3 : Hid (Blk w3 (w.heap.size + 1 + 1) #[.int .i64 0, .slice Option.none 0 0] 37) := R2.out.below hb
  have HB3 : Hid (Below w.heap.size w w3) := HB2.out.trans (hb.mono hs2)
  have hs3 := HB3.out.size
  have lp3 := P3.out.blk.lt
  have p0 := Blk.cellAt (i := 0) P3.out.blk rfl
  simp only [List.getElem_toArray, List.getElem_cons_zero, List.getElem_cons_succ] at p0
  clear hb P2 R2 HB2 hs2 BK s0 s1
  go_wp2_with fail
  generalize hV : w3.alloc (.cells #[.int .i64 bt, .bool bf] 25) = V
  have S4 : Blk V w3.heap.size #[.int .i64 bt, .bool bf] 25 := by rw [← hV]; exact Blk.new _ _ _
  have P4 : PicBox V (w.heap.size + 1) n a cap l := by rw [← hV]; exact ⟨P3.out.blk.alloc, P3.out.row.alloc⟩
  have R4 : Hid (Blk V (w.heap.size + 1 + 1) #[.int .i64 0, .slice Option.none 0 0] 37) := by rw [← hV]; exact R3.out.alloc
  have HB4 : Hid (Below w.heap.size w V) := by rw [← hV]; exact HB3.out.alloc (by omega) _
  have hs4 := HB4.out.size
  have C := HC.out V (w.heap.size + 1) w3.heap.size P4 S4
  clear hV P3 R3 HB3 hs3 lp3 p0 S4 P4
  refine (HP.out V _ _ C).mono ?_
  rintro e w5 ⟨⟨g, cp, ⟨rfl, hown⟩⟩, hb⟩
  have R5 : Hid (Blk w5 (w.heap.size + 1 + 1) #[.int .i64 0, .slice Option.none 0 0] 37) := R4.out.below hb
  have HB5 : Hid (Below w.heap.size w w5) := HB4.out.trans (hb.mono hs4)
  have r0 := Blk.cellAt (i := 0) R5.out rfl
  have r1 := Blk.cellAt (i := 1) R5.out rfl
  have f0 := R5.out.free 0
  have f1 := R5.out.free 1
  have lr := R5.out.lt
  have lr4 := R4.out.lt
  simp only [List.getElem_toArray, List.getElem_cons_zero, List.getElem_cons_succ] at r0 r1
  have RS := (R5.out.set (i := 0) (v := .int .i64 n)).set (i := 1) (v := .slice (some ⟨g, 0, Option.none⟩) m.length cp)
  have e0 := RS.cell 0
  have e1 := RS.cell 1
  simp only [List.setIfInBounds_toArray, List.set_cons_zero, List.set_cons_succ, List.getElem?_toArray, List.getElem?_cons_zero, List.getElem?_cons_succ] at e0 e1
  have HE0 : Hid (((w5.setCell ⟨w.heap.size + 1 + 1, 0, Option.none⟩ (.int .i64 n)).setCell ⟨w.heap.size + 1 + 1, 1, Option.none⟩ (.slice (some ⟨g, 0, Option.none⟩) m.length cp)).cell? ⟨w.heap.size + 1 + 1, 0, Option.none⟩ = some (.int .i64 n)) := e0
  have HE1 : Hid (((w5.setCell ⟨w.heap.size + 1 + 1, 0, Option.none⟩ (.int .i64 n)).setCell ⟨w.heap.size + 1 + 1, 1, Option.none⟩ (.slice (some ⟨g, 0, Option.none⟩) m.length cp)).cell? ⟨w.heap.size + 1 + 1, 1, Option.none⟩ = some (.slice (some ⟨g, 0, Option.none⟩) m.length cp)) := e1
  have HOE : Hid (((w5.setCell ⟨w.heap.size + 1 + 1, 0, Option.none⟩ (.int .i64 n)).setCell ⟨w.heap.size + 1 + 1, 1, Option.none⟩ (.slice (some ⟨g, 0, Option.none⟩) m.length cp)).ownsRow w.heap.size 49 3 (.slice (some ⟨g, 0, Option.none⟩) m.length cp) m.length (litCells m)) := ownsLess (ownsSet (ownsSet hown (by dsimp only; omega)) (by dsimp only; omega)) hs4
  have HBE : Hid (Below w.heap.size w ((w5.setCell ⟨w.heap.size + 1 + 1, 0, Option.none⟩ (.int .i64 n)).setCell ⟨w.heap.size + 1 + 1, 1, Option.none⟩ (.slice (some ⟨g, 0, Option.none⟩) m.length cp))) := (HB5.out.setCell (by dsimp only; omega) _).setCell (by dsimp only; omega) _
  clear hb hown RS e0 e1 C
  go_wp2
  have e0 := HE0.out
  have e1 := HE1.out
  exact bodyPost_ret (v := .agg #[.int .i64 n, .slice (some ⟨g, 0, Option.none⟩) m.length cp]) (by simp [results, Try.results29, go_sem, e0, e1]) rfl ⟨⟨g, cp, rfl, HOE.out⟩, HBE.out⟩⟩
end Go.Proofs.Ytlnikapkheldeaa

/-
  Two colours held against each other, field by field.
-/
namespace Go.Proofs.Ytlnikapkheldeaa
open Go.ChangeShapes Go.WideShapes Go.ChangeAt Go.RowKit Go.Joins
set_option linter.unusedSimpArgs false
set_option linter.unusedVariables false
set_option maxRecDepth 100000
attribute [local go_sem] store_f
open Ieee

theorem run_equalIn_g (P : Program) (w : World) (d : Nat) (t : TypeId) (a b : Nat) (h : P.underlying t = some (.float .f32)) : (Op.equalIn (d + 1) t (.float .f32 a) (.float .f32 b)).run P w = .ok (FloatKind.f32.format.order a b == some .eq) w := by
  simp [Op.equalIn, run_underlying h, Op.floatEq]
attribute [local go_sem] run_equalIn_g

theorem run_eq_colg (r g b x y z : Nat) (w : World) :
    (Op.equalIn 10000 49 (.agg #[.float .f32 r, .float .f32 g, .float .f32 b]) (.agg #[.float .f32 x, .float .f32 y, .float .f32 z])).run Try.prog w =
      .ok ((FloatKind.f32.format.order r x == some .eq) && ((FloatKind.f32.format.order g y == some .eq) && (FloatKind.f32.format.order b z == some .eq))) w := by
  have u := Try.underlying47
  have a24 := Try.isAgg47
  have z24 := Try.sizeOf47
  have hS : Try.prog.underlying 49 = some (.struct (Try.prog.fieldsOf 49)) := by kernel_rfl
  have hp : Try.prog.stoodInHeld 49 = false := by kernel_rfl
  rw [show (10000 : Nat) = 9999 + 1 from rfl, run_equalIn_agg w 9999 49 _ _ hS hp]
  simp only [Program.fieldsOf, Try.underlying49]
  generalize h1 : (FloatKind.f32.format.order r x == some .eq) = o1
  generalize h2 : (FloatKind.f32.format.order g y == some .eq) = o2
  generalize h3 : (FloatKind.f32.format.order b z == some .eq) = o3
  go_simp
  cases o1 <;> cases o2 <;> cases o3 <;> rfl
theorem run_eq_same {r g b : Nat} (hr : Fin32 r) (hg : Fin32 g) (hb : Fin32 b) (w : World) :
    (Op.equalIn 10000 49 (.agg #[.float .f32 r, .float .f32 g, .float .f32 b]) (.agg #[.float .f32 r, .float .f32 g, .float .f32 b])).run Try.prog w = .ok true w := by
  rw [run_eq_colg, order_self hr, order_self hg, order_self hb]; rfl
end Go.Proofs.Ytlnikapkheldeaa

/-
  SamePicture of the program.
-/
namespace Go.Proofs.Ytlnikapkheldeaa
open Go.ChangeShapes Go.WideShapes Go.ChangeAt Go.RowKit Go.Joins
set_option linter.unusedSimpArgs false
set_option linter.unusedVariables false
set_option maxRecDepth 100000
attribute [local go_sem] store_f
open Ieee

/-- Two colours held against each other. -/
def colEq (c d : Lit) : Bool := (FloatKind.f32.format.order c.r d.r == some .eq) && ((FloatKind.f32.format.order c.g d.g == some .eq) && (FloatKind.f32.format.order c.b d.b == some .eq))
def colsEq (l k : List Lit) : Bool := decide (l.length = k.length) && (List.range l.length).all fun i => colEq (l.getD i default) (k.getD i default)
theorem colsEq_len {l k : List Lit} (h : l.length ≠ k.length) : colsEq l k = false := by simp [colsEq, h]
theorem colsEq_iff {l k : List Lit} (h : l.length = k.length) : colsEq l k = true ↔ ∀ i, i < l.length → colEq (l.getD i default) (k.getD i default) = true := by
  unfold colsEq
  rw [h]
  simp [List.all_eq_true]
theorem run_eq_lit (c d : Lit) (w : World) : (Op.equalIn 10000 49 (.agg #[.float .f32 c.r, .float .f32 c.g, .float .f32 c.b]) (.agg #[.float .f32 d.r, .float .f32 d.g, .float .f32 d.b])).run Try.prog w = .ok (colEq c d) w := run_eq_colg c.r c.g c.b d.r d.g d.b w

structure EqCols (a : Option Addr) (ca : Nat) (l : List Lit) (b : Option Addr) (cb : Nat) (k : List Lit) (p : Bool) : Prop where
  call : ∀ w : World, LitsAt w a l → LitsAt w b k → Calls Try.prog 83 #[.slice a l.length ca, .slice b k.length cb] w fun e w' => e = .returned (.bool p) ∧ Below w.heap.size w w'
set_option maxHeartbeats 4000000 in
theorem eqCols_len {a : Option Addr} {ca : Nat} {l : List Lit} {b : Option Addr} {cb : Nat} {k : List Lit} (h : l.length ≠ k.length) : EqCols a ca l b cb k false := ⟨fun w _ _ => by
  have h1 : ((l.length : Int) == (k.length : Int)) = false := by simp; omega
  have h2 : decide (l.length = k.length) = false := by simp [h]
  go_enter Try.func83, Try.ntmps83
  go_wp2
  go_ret
  exact ⟨rfl, by (repeat' (first | (with_reducible exact Below.refl _ _) | (with_reducible assumption) | (with_reducible refine Below.alloc ?_ ?_ _) | (with_reducible refine Below.drew ?_) | (with_reducible refine Below.setCell ?_ ?_ _) | (with_reducible refine Below.trans ?_ (Below.mono (by assumption) ?_)) | (with_reducible exact Nat.le_refl _) | omega | (simp only [World.size_alloc, World.size_setCell, World.size_drew]; omega) | (simp; omega) | (simp; done)))⟩⟩
set_option maxHeartbeats 8000000 in
theorem eqCols_all {a : Option Addr} {ca : Nat} {l : List Lit} {b : Option Addr} {cb : Nat} {k : List Lit} (h : l.length = k.length) (hb : l.length ≤ 1000000000) : EqCols a ca l b cb k (colsEq l k) := ⟨fun w hr1 hr2 => by
  have R1 : Hid (LitsAt w a l) := hr1
  have R2 : Hid (LitsAt w b k) := hr2
  obtain ⟨N, hN⟩ : ∃ N : Nat, N = l.length := ⟨_, rfl⟩
  have HN1 : Hid (N = l.length) := hN
  have HN2 : Hid (N = k.length) := hN.trans h
  have HI : Hid (colsEq l k = true ↔ ∀ i, i < N → colEq (l.getD i default) (k.getD i default) = true) := by rw [hN]; exact colsEq_iff h
  have hNb : N ≤ 1000000000 := by omega
  rw [← hN, ← HN2.out]
  clear hr1 hr2 h hb hN
  generalize colsEq l k = p at HI ⊢
  go_enter Try.func83, Try.ntmps83
  go_wp2
  go_loopw [13] (fun i wr => ∃ j : Nat, j ≤ N ∧ i = .int .i64 j ∧ (∀ i, i < j → colEq (l.getD i default) (k.getD i default) = true) ∧ Below w.heap.size w wr) (fun i _ => N - (intOf i).toNat)
  case atStart => exact ⟨0, by omega, rfl, fun i hi => absurd hi (by omega), Below.refl _ _⟩
  case round =>
    obtain ⟨j, hj, rfl, hall, hbel⟩ := hrel
    have HB : Hid (Below w.heap.size w wr) := hbel
    have HL : Hid (∀ i, i < j → colEq (l.getD i default) (k.getD i default) = true) := hall
    have hbs := hbel.size
    clear hall
    by_cases hlt : j < N
    · rcases R1.out with hnil | ⟨b1, o1, rfl, hR1⟩
      · exfalso
        have := HN1.out
        rw [hnil] at this
        simp at this
        omega
      rcases R2.out with hnil | ⟨b2, o2, rfl, hR2⟩
      · exfalso
        have := HN2.out
        rw [hnil] at this
        simp at this
        omega
      obtain ⟨d0, d1, d2⟩ := (LitRow.below hR1 hbel) j (by have := HN1.out; omega)
      obtain ⟨e0, e1, e2⟩ := (LitRow.below hR2 hbel) j (by have := HN2.out; omega)
      have HS : Hid (colEq (l.getD j default) (k.getD j default) = true → ∀ i, i < j + 1 → colEq (l.getD i default) (k.getD i default) = true) := fun h i hi => by
        rcases (by omega : i < j ∨ i = j) with h1 | rfl
        · exact HL.out i h1
        · exact h
      have HX : Hid (colEq (l.getD j default) (k.getD j default) = false → p = false) := fun h => by
        cases hp : p
        · rfl
        · have := (HI.out.1 hp) j hlt
          rw [h] at this
          exact absurd this (by decide)
      have op := fun w => run_eq_lit (l.getD j default) (k.getD j default) w
      generalize colEq (l.getD j default) (k.getD j default) = q at op HS HX
      generalize l.getD j default = c at *
      generalize k.getD j default = d at *
      have hj0 : (0 : Int) ≤ (j : Int) := by omega
      have hj1 : (j : Int) < (N : Int) := by omega
      clear hR1 hR2
      cases q
      · have hp : p = false := HX.out rfl
        subst hp
        clear HX HS HI
        go_wp2_with fail
        go_quiet (fail)
        go_wp2
        go_ret
        exact ⟨rfl, hbel.trans (below_draws _ _ _)⟩
      · clear HX
        go_wp2_with fail
        go_quiet (fail)
        go_wp2
        have hds := hbel.size
        go_roundw
        case rel => exact ⟨j + 1, by omega, by go_num, HS.out (by simp), hbel.trans (below_draws _ _ _)⟩
        case measure => simp [intOf]; omega
    · have hjm : j = N := by omega
      subst hjm
      have hp : p = true := HI.out.2 HL.out
      subst hp
      go_wp2
      go_ret
      exact ⟨rfl, hbel⟩⟩
theorem eqCols {a : Option Addr} {ca : Nat} {l : List Lit} {b : Option Addr} {cb : Nat} {k : List Lit} (hb : l.length ≤ 1000000000) : EqCols a ca l b cb k (colsEq l k) := by
  by_cases h : l.length = k.length
  · exact eqCols_all h hb
  · rw [colsEq_len h]
    exact eqCols_len h

structure SameM (n : Int) (a : Option Addr) (ca : Nat) (l : List Lit) (m : Int) (b : Option Addr) (cb : Nat) (k : List Lit) (p : Bool) : Prop where
  call : ∀ w : World, LitsAt w a l → LitsAt w b k → Calls Try.prog 28 #[.agg #[.int .i64 n, .slice a l.length ca], .agg #[.int .i64 m, .slice b k.length cb]] w fun e w' => e = .returned (.bool p) ∧ Below w.heap.size w w'
set_option maxHeartbeats 4000000 in
theorem sameM {n : Int} {a : Option Addr} {ca : Nat} {l : List Lit} {m : Int} {b : Option Addr} {cb : Nat} {k : List Lit} (hb : l.length ≤ 1000000000) : SameM n a ca l m b cb k (n == m && colsEq l k) := ⟨fun w hr1 hr2 => by
  have E := eqCols (a := a) (ca := ca) (l := l) (b := b) (cb := cb) (k := k) hb
  generalize colsEq l k = p at E ⊢
  have R1 : Hid (LitsAt w a l) := hr1
  have R2 : Hid (LitsAt w b k) := hr2
  clear hr1 hr2 hb
  by_cases h : n = m
  · subst h
    have e : (n == n && p) = p := by simp
    rw [e]
    go_enter Try.func28, Try.ntmps28
    go_wp2_with fail
    refine (E.call _ ((R1.out.alloc).alloc) ((R2.out.alloc).alloc)).mono ?_
    rintro e w2 ⟨rfl, hb⟩
    go_wp2
    go_ret
    exact ⟨rfl, by (repeat' (first | (with_reducible exact Below.refl _ _) | (with_reducible assumption) | (with_reducible refine Below.alloc ?_ ?_ _) | (with_reducible refine Below.drew ?_) | (with_reducible refine Below.setCell ?_ ?_ _) | (with_reducible refine Below.trans ?_ (Below.mono (by assumption) ?_)) | (with_reducible exact Nat.le_refl _) | omega | (simp only [World.size_alloc, World.size_setCell, World.size_drew]; omega) | (simp; omega) | (simp; done)))⟩
  · have hne : (n == m) = false := by simpa using h
    have e : (n == m && p) = false := by simp [h]
    rw [e]
    go_enter Try.func28, Try.ntmps28
    go_wp2
    go_ret
    exact ⟨rfl, by (repeat' (first | (with_reducible exact Below.refl _ _) | (with_reducible assumption) | (with_reducible refine Below.alloc ?_ ?_ _) | (with_reducible refine Below.drew ?_) | (with_reducible refine Below.setCell ?_ ?_ _) | (with_reducible refine Below.trans ?_ (Below.mono (by assumption) ?_)) | (with_reducible exact Nat.le_refl _) | omega | (simp only [World.size_alloc, World.size_setCell, World.size_drew]; omega) | (simp; omega) | (simp; done)))⟩⟩
end Go.Proofs.Ytlnikapkheldeaa

/-
  SymsOfPicture of the program.
-/
namespace Go.Proofs.Ytlnikapkheldeaa
open Go.ChangeShapes Go.WideShapes Go.ChangeAt Go.RowKit Go.Joins
set_option linter.unusedSimpArgs false
set_option linter.unusedVariables false
set_option maxRecDepth 100000
attribute [local go_sem] store_f
open Ieee

/-- Does a symmetry change no cell? -/
def keepsB (n : Nat) (l : List Lit) (p : Int × Bool) : Bool := colsEq (actCols n p.1.toNat p.2 l) l
/-- The symmetries of a picture. -/
def picSyms (n : Nat) (l : List Lit) : List (Int × Bool) := (symsTo 3 8).filter (keepsB n l)
theorem filter_snoc {α : Type} (P : α → Bool) (z : α) {l : List α} {j : Nat} (h : j < l.length) : (l.take (j + 1)).filter P = (l.take j).filter P ++ (if P (l.getD j z) then [l.getD j z] else []) := by
  have e : l.getD j z = l[j] := by simp [List.getD, h]
  rw [List.take_succ_eq_append_getElem h, List.filter_append, e]
  cases hp : P l[j] <;> simp [hp]

theorem SymRow.grownBy {W w1 : World} {g : Nat} {r : Option Nat} {l : List (Int × Bool)} (h : SymRow W g l) (hg : W.grownBy w1 r) (hne : r ≠ some g) : SymRow w1 g l := fun k hk => by
  obtain ⟨h0, h1⟩ := h k hk
  have hl := cell_lt h0
  have e : ∀ i, w1.cell? ⟨g, i, Option.none⟩ = W.cell? ⟨g, i, Option.none⟩ := fun i => World.cell?_of_block (hg.block g hl (fun e => hne e.symm))
  rw [e, e]
  exact ⟨h0, h1⟩

/-- A list of symmetries that a call has made. -/
structure SymsMade (B : Nat) (e : Ending) (w' : World) (l : List (Int × Bool)) (g cap : Nat) : Prop where
  ret : e = .returned (.slice (some ⟨g, 0, Option.none⟩) l.length cap)
  own : w'.ownsRow B 25 2 (.slice (some ⟨g, 0, Option.none⟩) l.length cap) l.length (symCells l)
structure PicSymsM (n : Int) (a : Option Addr) (cap : Nat) (l : List Lit) (m : List (Int × Bool)) : Prop where
  call : ∀ w : World, LitsAt w a l → Calls Try.prog 30 #[.agg #[.int .i64 n, .slice a l.length cap]] w fun e w' => (∃ g cp, SymsMade w.heap.size e w' m g cp) ∧ Below w.heap.size w w'
/-- One symmetry of the round: what acting gives, and whether it is the same. -/
structure KeepM (n : Nat) (a : Option Addr) (cap : Nat) (l : List Lit) (t : Int) (f : Bool) (m : List Lit) (q : Bool) : Prop where
  act : ActPic t f n a cap l m
  same : ∀ g cp, SameM n (some ⟨g, 0, Option.none⟩) cp m n a cap l q

set_option maxHeartbeats 16000000 in
theorem picSymsM {n : Nat} {a : Option Addr} {cap : Nat} {l : List Lit} (hp : picB n l = true) : PicSymsM n a cap l (picSyms n l) := ⟨fun w hrow => by
  have IP := picIs n a cap l
  rw [hp] at IP
  have HK : Hid (∀ j, j < (symsTo 3 8).length → ∃ m, KeepM n a cap l ((symsTo 3 8).getD j (0, false)).1 ((symsTo 3 8).getD j (0, false)).2 m (keepsB n l ((symsTo 3 8).getD j (0, false)))) := fun j hj => by
    obtain ⟨t, ht, h4⟩ := symsTo_in 3 ((symsTo 3 8).getD j (0, false)) (by simp [List.getD, hj])
    have e : keepsB n l ((symsTo 3 8).getD j (0, false)) = colsEq (actCols n t ((symsTo 3 8).getD j (0, false)).2 l) l := by
      unfold keepsB; rw [ht]; rfl
    rw [e, ht]
    refine ⟨_, actPic _ h4 hp, fun g cp => ?_⟩
    obtain ⟨_, _, _, h8, _, _⟩ := pic_cases hp
    have hl : (actCols n t ((symsTo 3 8).getD j (0, false)).2 l).length ≤ 1000000000 := by
      obtain ⟨m, hm, h1, h8, _, _⟩ := pic_cases hp
      obtain rfl : n = m := by omega
      have : n * n ≤ 8 * 8 := Nat.mul_le_mul h8 h8
      unfold actCols
      rw [colsTo_len]
      omega
    have h := sameM (n := n) (a := some ⟨g, 0, Option.none⟩) (ca := cp) (m := n) (b := a) (cb := cap) (k := l) hl
    simpa using h
  have HY : Hid (∀ j, j < (symsTo 3 8).length → ((symsTo 3 8).take (j + 1)).filter (keepsB n l) = ((symsTo 3 8).take j).filter (keepsB n l) ++ (if keepsB n l ((symsTo 3 8).getD j (0, false)) then [(symsTo 3 8).getD j (0, false)] else [])) := fun j hj => filter_snoc _ _ hj
  have HZ : Hid (((symsTo 3 8).take (symsTo 3 8).length).filter (keepsB n l) = picSyms n l) := by rw [List.take_length]; rfl
  have hl8 := symsTo_le 3 8
  have HLE : Hid (∀ j, (((symsTo 3 8).take j).filter (keepsB n l)).length ≤ 8) := fun j => by
    have h1 := List.length_filter_le (keepsB n l) ((symsTo 3 8).take j)
    have h2 := List.length_take_le' j (symsTo 3 8)
    omega
  have SY := fun w => symsOf_i 3 w
  have HR : Hid (LitsAt w a l) := hrow
  generalize hM : (fun j : Nat => ((symsTo 3 8).take j).filter (keepsB n l)) = M
  have HY' : Hid (∀ j, j < (symsTo 3 8).length → M (j + 1) = M j ++ (if keepsB n l ((symsTo 3 8).getD j (0, false)) then [(symsTo 3 8).getD j (0, false)] else [])) := by rw [← hM]; exact HY.out
  have HZ' : M (symsTo 3 8).length = picSyms n l := by rw [← hM]; exact HZ.out
  have H0 : Hid (M 0 = []) := by rw [← hM]; rfl
  have HLE' : Hid (∀ j, (M j).length ≤ 8) := by rw [← hM]; exact HLE.out
  clear hM HY HZ HLE hrow hp
  generalize picSyms n l = z at HZ' ⊢
  generalize hPB : keepsB n l = PB at *
  generalize symsTo 3 8 = s at *
  subst HZ'
  clear hPB
  obtain ⟨i0, hi, hz0, hz1, hz2⟩ := info_parts infoSym
  go_enter Try.func30, Try.ntmps30
  go_wp2_with fail
  generalize hW : (w.alloc (.cells #[.int .i64 n, .slice a l.length cap] 37)).alloc (.cells #[] 25) = X
  have P0 : Hid (PicBox X w.heap.size n a cap l) := by rw [← hW]; exact ⟨(Blk.new _ _ _).alloc, (HR.out.alloc).alloc⟩
  have O0 : Hid (X.ownsRow (w.heap.size + 1) 25 2 (.slice (some ⟨w.heap.size + 1, 0, Option.none⟩) 0 0) 0 []) := by
    rw [← hW]
    have h := World.ownsRow_lit (w.alloc (.cells #[.int .i64 n, .slice a l.length cap] 37)) (base := w.heap.size + 1) (e := 25) (size := 2) #[] 0 (by simp) (by unfold maxLen; omega) rfl
    simp only [World.size_alloc] at h
    exact h
  have hB : Below w.heap.size w X := by rw [← hW]; (repeat' (first | (with_reducible exact Below.refl _ _) | (with_reducible assumption) | (with_reducible refine Below.alloc ?_ ?_ _) | (with_reducible refine Below.drew ?_) | (with_reducible refine Below.setCell ?_ ?_ _) | (with_reducible refine Below.trans ?_ (Below.mono (by assumption) ?_)) | (with_reducible exact Nat.le_refl _) | omega | (simp only [World.size_alloc, World.size_setCell, World.size_drew]; omega) | (simp; omega) | (simp; done)))
  have HB : Hid (Below w.heap.size w X) := hB
  have hs : X.heap.size = w.heap.size + 2 := by rw [← hW]; simp
  clear hW hB
  refine (IP.call _ P0.out.row).mono ?_
  rintro e w1 ⟨rfl, hb⟩
  have P1 : Hid (PicBox w1 w.heap.size n a cap l) := P0.out.below hb
  have O1 : Hid (w1.ownsRow (w.heap.size + 1) 25 2 (.slice (some ⟨w.heap.size + 1, 0, Option.none⟩) 0 0) 0 []) := ownsBelow hb O0.out
  have HB1 : Hid (Below w.heap.size w w1) := HB.out.trans (hb.mono (by omega))
  have hs1 : w.heap.size + 2 ≤ w1.heap.size := by have := hb.size; omega
  clear hb P0 O0 HB hs IP
  go_wp2_with fail
  refine (SY _).mono ?_
  rintro e w2 ⟨gs, cs, rfl, own, hb⟩
  have HS : Hid (SymRow w2 gs s) := symRow_of own rfl
  have P2 : Hid (PicBox w2 w.heap.size n a cap l) := P1.out.below hb
  have O2 : Hid (w2.ownsRow (w.heap.size + 1) 25 2 (.slice (some ⟨w.heap.size + 1, 0, Option.none⟩) 0 0) 0 []) := ownsBelow hb O1.out
  have HB2 : Hid (Below w.heap.size w w2) := HB1.out.trans (hb.mono (by omega))
  have hs2 : w.heap.size + 2 ≤ w2.heap.size := by have := hb.size; omega
  have hgl := (own.lt _ rfl)
  dsimp only at hgl
  have hg0 : w.heap.size + 2 ≤ gs := by omega
  have hg1 : gs < w2.heap.size := by omega
  clear hb own P1 O1 HB1 hs1 SY hgl
  go_wp2_with fail
  go_loopw [3, 13] (fun v i wr => ∃ j : Nat, j ≤ s.length ∧ i = .int .i64 j ∧ (wr.ownsRow (w.heap.size + 1) 25 2 v (M j).length (symCells (M j)) ∧ v ≠ .slice Option.none 0 0 ∧ v.ownBlock ≠ some gs) ∧ SymRow wr gs s ∧ PicBox wr w.heap.size n a cap l ∧ Below w.heap.size w wr ∧ w2.heap.size ≤ wr.heap.size)
    (fun _ i _ => s.length - (intOf i).toNat)
  case atStart => exact ⟨0, by omega, rfl, ⟨by rw [H0.out]; exact O2.out, by simp, by simp [Value.ownBlock]; omega⟩, HS.out, P2.out, HB2.out, Nat.le_refl _⟩
  case round =>
    obtain ⟨j, hj, rfl, ⟨hown, hnn, hng⟩, hS, hP, hbel, hsz⟩ := hrel
    have HNN : Hid (u3 ≠ .slice Option.none 0 0) := hnn
    have HNG : Hid (u3.ownBlock ≠ some gs) := hng
    have HO : Hid (wr.ownsRow (w.heap.size + 1) 25 2 u3 (M j).length (symCells (M j))) := hown
    have HSR : Hid (SymRow wr gs s) := hS
    have HPR : Hid (PicBox wr w.heap.size n a cap l) := hP
    have HBR : Hid (Below w.heap.size w wr) := hbel
    have hml := HLE'.out j
    clear hown hnn hng hS hP hbel P2 O2 HB2 HS
    by_cases hlt : j < s.length
    · obtain ⟨m, K⟩ := HK.out j hlt
      have HYJ := HY'.out j hlt
      obtain ⟨c0, c1⟩ := HSR.out j hlt
      generalize s.getD j (0, false) = p at K HYJ c0 c1
      generalize PB p = q at K HYJ
      obtain ⟨t, f⟩ := p
      simp only [] at c0 c1 K
      have HYH : Hid (M (j + 1) = M j ++ (if q then [(t, f)] else [])) := HYJ
      clear HYJ
      go_wp2_with fail
      generalize hV : wr.alloc (.cells #[.int .i64 t, .bool f] 25) = V
      have N0 : Blk V wr.heap.size #[.int .i64 t, .bool f] 25 := by rw [← hV]; exact Blk.new _ _ _
      have HOV : Hid (V.ownsRow (w.heap.size + 1) 25 2 u3 (M j).length (symCells (M j))) := by rw [← hV]; exact World.ownsRow.alloc HO.out _
      have HSV : Hid (SymRow V gs s) := by rw [← hV]; exact HSR.out.alloc
      have HPV : Hid (PicBox V w.heap.size n a cap l) := by rw [← hV]; exact ⟨HPR.out.blk.alloc, HPR.out.row.alloc⟩
      have HBV : Hid (Below w.heap.size w V) := by rw [← hV]; exact HBR.out.alloc (by omega) _
      have hVs : V.heap.size = wr.heap.size + 1 := by rw [← hV]; simp
      have hBV : Below V.heap.size V V := Below.refl _ _
      have n0 := Blk.cellAt (i := 0) N0 rfl
      have n1 := Blk.cellAt (i := 1) N0 rfl
      have p0 := Blk.cellAt (i := 0) HPV.out.blk rfl
      have p1 := Blk.cellAt (i := 1) HPV.out.blk rfl
      simp only [List.getElem_toArray, List.getElem_cons_zero, List.getElem_cons_succ] at n0 n1 p0 p1
      have hRV := HPV.out.row
      have lN := N0.lt
      have lP : w.heap.size < V.heap.size := by omega
      have lV := Nat.le_refl V.heap.size
      clear hV c0 c1 HO HSR HPR HBR N0
      generalize wr.heap.size = ng at *
      go_region_held3 (fun wx => LitsAt wx a l ∧ Below V.heap.size V wx ∧ V.heap.size ≤ wx.heap.size ∧ ng < wx.heap.size ∧ w.heap.size < wx.heap.size ∧ wx.cell? ⟨ng, 0, Option.none⟩ = some (.int .i64 (t)) ∧ wx.cell? ⟨ng, 1, Option.none⟩ = some (.bool (f)) ∧ wx.cell? ⟨w.heap.size, 0, Option.none⟩ = some (.int .i64 n) ∧ wx.cell? ⟨w.heap.size, 1, Option.none⟩ = some (.slice a l.length cap))
        (((repeat' apply And.intro) <;> first | (with_reducible assumption) | ((repeat (first | (with_reducible assumption) | (with_reducible exact And.left (by assumption)) | (with_reducible exact And.left (And.right (by assumption))) | (with_reducible exact And.left (And.right (And.right (by assumption)))) | (with_reducible refine LitsAt.drew ?_) | (with_reducible refine LitsAt.below ?_ hb) | (with_reducible refine LitsAt.alloc ?_))); done) | (((repeat (first | (with_reducible assumption) | (with_reducible exact cNewAt (by first | rfl | (simp only [World.size_alloc, World.size_setCell, World.size_drew]; done) | omega) rfl) | (with_reducible exact sNewAt (by first | rfl | (simp only [World.size_alloc, World.size_setCell, World.size_drew]; done) | omega) rfl) | (simp; done) | (with_reducible apply cAlloc) | (with_reducible apply cDrew) | (with_reducible refine cSet (by dsimp only; omega) ?_) | (with_reducible refine cSetOff (by dsimp only; omega) ?_) | (with_reducible apply cSame) | (with_reducible refine cBelow (by assumption) ?_) | (with_reducible apply sAlloc) | (with_reducible apply sDrew) | (with_reducible refine sBelow (by assumption) ?_) | (with_reducible refine sSet (by dsimp only; omega) ?_))); first | done | (simp [*]; done)); done) | (simp only [World.size_alloc, World.size_setCell, World.size_drew]; omega) | omega | (go_keep; done) | ((repeat' (first | (with_reducible exact Below.refl _ _) | (with_reducible assumption) | (with_reducible refine Below.alloc ?_ ?_ _) | (with_reducible refine Below.drew ?_) | (with_reducible refine Below.setCell ?_ ?_ _) | (with_reducible refine Below.trans ?_ (Below.mono (by assumption) ?_)) | (with_reducible exact Nat.le_refl _) | omega | (simp only [World.size_alloc, World.size_setCell, World.size_drew]; omega) | (simp; omega) | (simp; done))); done)))
        (first | (go_at_call 29; (with_reducible refine (K.act.call _ ?_).mono ?_); (next => exact And.left (by assumption)); rintro e w4 ⟨⟨g, cp, ⟨rfl, hown4⟩⟩, hb⟩; have hLm : LitsAt w4 (some ⟨g, 0, Option.none⟩) m := Or.inr ⟨g, 0, rfl, litRow_of hown4 rfl⟩; have hbs := hb.size; try simp only [World.size_alloc, World.size_setCell, World.size_drew] at hbs) | (go_at_call 28; (with_reducible refine ((K.same _ _).call _ ?_ ?_).mono ?_); (next => exact hLm); (next => exact And.left (by assumption)); rintro e w5 ⟨rfl, hb⟩; have hbs := hb.size; try simp only [World.size_alloc, World.size_setCell, World.size_drew] at hbs))
      rename_i hHeld
      have hbV : Below V.heap.size V w5 := hHeld.2.1
      have q0 := hHeld.2.2.2.2.2.1
      have q1 := hHeld.2.2.2.2.2.2.1
      have lq := hHeld.2.2.2.1
      have HO5 : Hid (w5.ownsRow (w.heap.size + 1) 25 2 u3 (M j).length (symCells (M j))) := ownsBelow hbV HOV.out
      have HS5 : Hid (SymRow w5 gs s) := HSV.out.below hbV
      have HP5 : Hid (PicBox w5 w.heap.size n a cap l) := HPV.out.below hbV
      have HB5 : Hid (Below w.heap.size w w5) := HBV.out.trans (hbV.mono (by omega))
      have hs5 : w2.heap.size ≤ w5.heap.size := by have := hbV.size; omega
      clear hHeld hbV n0 n1 p0 p1 hRV hBV HOV HSV HPV HBV hLm hown4
      cases q
      · go_wp2
        go_roundw
        case rel => exact ⟨j + 1, by omega, by go_num, ⟨by rw [HYH.out]; simpa using HO5.out, HNN.out, HNG.out⟩, HS5.out, HP5.out, HB5.out, hs5⟩
        case measure => simp [intOf]; omega
      · go_wp2_with (at_builtin; go_loud (refine wpList_append_lies _ rfl _ _ 41 rfl (w.heap.size + 1) 25 i0 (.agg #[.int .i64 0, .bool false]) 2 16 Try.underlying41 hi hz0 hz1 hz2 rfl (by decide) u3 (M j).length (symCells (M j)) rfl (World.ownsRow.alloc HO5.out _) ⟨w5.heap.size, 0, Option.none⟩ 1 1 [.int .i64 t, .bool f] rfl rfl (World.news_of_block (cs := #[.int .i64 t, .bool f]) (t := 25) (fr := (0, 0)) (heap_alloc_new w5 _)) (by simp [Value.oneCell']) (by omega) (by unfold maxLen; omega) (by omega) (by simp; omega) (w5.heap.size + 1) (by simp) ?_))
        intro gg cap' w6 hown6 hgrow hat hlt6
        have HNG6 : Hid (gg ≠ gs) := by
          show gg ≠ gs
          rcases hat with h | h
          · intro e
            subst e
            exact HNG.out h
          · omega
        have HS6 : Hid (SymRow w6 gs s) := SymRow.grownBy (HS5.out.alloc) hgrow HNG.out
        have hne : u3.ownBlock ≠ some w.heap.size := fun e => by
          have := (HO5.out.lt _ e).1
          omega
        have HB6 : Hid (Below w.heap.size w w6) := Below.grown (HB5.out.alloc (by omega) _) hgrow (by simp; omega) (fun q hq => by have := (HO5.out.lt q hq).1; omega)
        have HP6 : Hid (PicBox w6 w.heap.size n a cap l) := ⟨(hgrow.block w.heap.size (by simp; omega) (fun e => hne e.symm)).trans (Blk.alloc HP5.out.blk), HR.out.below HB6.out⟩
        have HO6 : Hid (w6.ownsRow (w.heap.size + 1) 25 2 (.slice (some ⟨gg, 0, Option.none⟩) ((M j).length + 1) cap') ((M j).length + 1) (symCells (M j) ++ [.int .i64 t, .bool f])) := hown6
        have hs6 : w2.heap.size ≤ w6.heap.size := by have := hgrow.size; simp at this; omega
        clear hown6 hgrow hat hne q0 q1
        go_wp2
        go_roundw
        case rel => exact ⟨j + 1, by omega, by go_num, ⟨by rw [HYH.out]; simpa [symCells_snoc] using HO6.out, by simp, by simpa [Value.ownBlock] using HNG6.out⟩, HS6.out, HP6.out, HB6.out, hs6⟩
        case measure => simp [intOf]; omega
    · have hjm : j = s.length := by omega
      subst hjm
      rcases ownsRow_forms HO.out with ⟨e, _⟩ | ⟨g, cap', rfl⟩
      · exact absurd e HNN.out
      go_wp2
      go_ret
      exact ⟨⟨g, cap', rfl, ownsLess HO.out (by omega)⟩, HBR.out⟩⟩
end Go.Proofs.Ytlnikapkheldeaa
