/-
  Texts Uf Uh Uk Uo, joined.
-/
import Derived.Test.YtfdgijmmgllmgaaGreatDoorS17
import Derived.Test.YtfdgijmmgllmgaaGreatDoorS18
import Derived.Test.YtfdgijmmgllmgaaGreatDoorS20
import Derived.Deep.RegionHeld3
import Derived.Deep.DeepCutAuto
import Derived.Deep.AppendLies
import Derived.Deep.RegionLaw
namespace Go.Proofs.YtfdgijmmgllmgaaGreatDoor
open Go.ChangeShapes Go.WideShapes Go.ChangeAt Go.RowKit Go.Joins
set_option linter.unusedSimpArgs false
set_option linter.unusedVariables false
set_option maxRecDepth 100000
attribute [local go_sem] store_f
open Ieee Go.Lib
attribute [local go_sem] store_c
structure EvIs (F : FuncId) (e : Evw) (p : Bool) : Prop where
  call : ∀ w : World, Calls Tryz.prog F #[.agg #[.int .i64 e.kind, .int .i64 e.n, .complex .f32 e.z1 e.z2, .complex .f32 e.s.a1 e.s.a2, .complex .f32 e.s.b1 e.s.b2, .complex .f32 e.s.c1 e.s.c2, .float .f32 e.s.r, .float .f32 e.s.g, .float .f32 e.s.b, .float .f32 e.s.k, .float .f32 e.l.r, .float .f32 e.l.g, .float .f32 e.l.b]] w fun r w' => r = .returned (.bool p) ∧ Below w.heap.size w w'
set_option maxHeartbeats 4000000 in
theorem evIs {e : Evw} {v : Value} {p : Bool} (K : EvM e v p) : EvIs 77 e p := ⟨fun w => by
  go_enter Tryz.func77, Tryz.ntmps77
  go_wp2_with fail
  refine (K.call _).mono ?_
  rintro r w1 ⟨rfl, hb⟩
  have G1 : Hid (Below w.heap.size w w1) := ((Below.refl _ _).alloc (Nat.le_refl _) _).trans (hb.mono (by simp))
  clear hb
  go_wp2
  go_ret
  exact ⟨rfl, G1.out⟩⟩
structure LogIs (F : FuncId) (l : List Evw) (N : Nat) (p : Bool) : Prop where
  call : ∀ (w : World) (a : Option Addr) (cap : Nat), LiesZ w a (evCells l) → Calls Tryz.prog F #[.slice a N cap] w fun r w' => r = .returned (.bool p) ∧ Below w.heap.size w w'
theorem ev_nil {l : List Evw} (h : evCells l = []) : l = [] := flat_nil (f := Evw.cells) (m := 13) (by omega) (fun _ => rfl) h
set_option maxHeartbeats 16000000 in
theorem logIs {l : List Evw} {N : Nat} (hl : l.length = N) (hn : N ≤ 24) (hok : ∀ e ∈ l, EvIs 77 e true) : LogIs 44 l N true := ⟨fun w a cap hr => by
  have HK : Hid (∀ j, j < N → EvIs 77 (l.getD j default) true) := fun j hj => hok _ (by simp [List.getD, show j < l.length by omega])
  have HR := Lib.hid hr
  have HL := Lib.hid hl
  have hd : decide ((24 : Int) < (N : Int)) = false := by simp; omega
  have hd2 : decide (24 < N) = false := by simp; omega
  clear hr hok hl
  go_enter Tryz.func44, Tryz.ntmps44
  go_wp2_with fail
  go_loopw [10] (fun i wr => ∃ j : Nat, j ≤ N ∧ i = .int .i64 j ∧ Below w.heap.size w wr) (fun i _ => N - (intOf i).toNat)
  case atStart => exact ⟨0, by omega, rfl, Below.refl _ _⟩
  case round =>
    obtain ⟨j, hj, rfl, hbel⟩ := hrel
    have HB : Hid (Below w.heap.size w wr) := hbel
    have hbs := hbel.size
    by_cases hlt : j < N
    · have K := HK.out j hlt
      rcases HR.out with hnil | ⟨g, rfl, hR⟩
      · exfalso; have := HL.out; rw [ev_nil hnil] at this; simp at this; omega
      have EA := evAt (hR.below hbel) (k := j) (by have := HL.out; omega)
      rw [Nat.zero_add] at EA
      generalize l.getD j default = e at EA K
      obtain ⟨c0, c1, c2, c3, c4, c5, c6, c7, c8, c9, c10, c11, c12⟩ := EA
      clear hbel hR
      go_wp2_with fail
      refine (K.call _).mono ?_
      rintro r w2 ⟨rfl, hb⟩
      have HB2 : Hid (Below w.heap.size w w2) := (HB.out.alloc (by omega) _).trans (hb.mono (by simp; omega))
      clear hb c0 c1 c2 c3 c4 c5 c6 c7 c8 c9 c10 c11 c12
      go_wp2
      go_roundw
      case rel => exact ⟨j + 1, by omega, by go_num, HB2.out⟩
      case measure => simp [intOf]; omega
    · have hjm : j = N := by omega
      subst hjm
      clear hbel
      go_wp2
      go_ret
      exact ⟨rfl, HB.out⟩⟩
structure ShIs (F : FuncId) (s : Sho) (N M K : Nat) (p : Bool) : Prop where
  call : ∀ (w : World) (a b l : Option Addr) (ca cb cl : Nat), ShoIn w s a b l → Calls Tryz.prog F #[.agg #[.int .i64 s.size, .float .f32 s.step, .float .f32 s.lit.r, .float .f32 s.lit.g, .float .f32 s.lit.b, .slice a N ca, .int .i64 s.kind, .complex .f32 s.g1 s.g2, .float .f32 0, .slice b M cb, .int .i64 s.ticks, .slice l K cl]] w fun r w' => r = .returned (.bool p) ∧ Below w.heap.size w w'
structure ShAsk (s : Sho) (N M K : Nat) (p : Bool) : Prop where
  size : ∀ w : World, Calls Tryz.prog 19 #[.int .i64 s.size] w fun e w' => e = .returned (.bool true) ∧ w' = w
  step : StepIs s.step
  lit : ColIs s.lit.r s.lit.g s.lit.b true
  shs : ∀ a cap, AreIs a N cap s.shs
  tum : ∀ (w : World) (a : Option Addr) (cap : Nat), BwIn w a s.bds → Calls Tryz.prog 43 #[.agg #[.int .i64 s.kind, .complex .f32 s.g1 s.g2, .float .f32 0, .slice a M cap]] w fun e w' => e = .returned (.bool p) ∧ Below w.heap.size w w'
  len : p = true → M = N
  t0 : 0 ≤ s.ticks
  t200 : s.ticks ≤ 200
  log : p = true → LogIs 44 s.log K true
set_option maxHeartbeats 32000000 in
theorem shIs {s : Sho} {N M K : Nat} {p : Bool} (A : ShAsk s N M K p) : ShIs 16 s N M K p := ⟨fun w a b l ca cb cl hr => by
  have Y1 := Lib.hid A.size
  have Y2 := A.step
  have Y3 := A.lit
  have Y4 := A.shs a ca
  have Y5 := Lib.hid A.tum
  have Y6 := Lib.hid A.len
  have Y7 := Lib.hid A.log
  have t0 := A.t0
  have t200 := A.t200
  have HR := Lib.hid hr
  clear A hr
  go_enter Tryz.func16, Tryz.ntmps16
  go_wp2_with fail
  generalize hW : w.alloc (.cells #[.int .i64 s.size, .float .f32 s.step, .float .f32 s.lit.r, .float .f32 s.lit.g, .float .f32 s.lit.b, .slice a N ca, .int .i64 s.kind, .complex .f32 s.g1 s.g2, .float .f32 0, .slice b M cb, .int .i64 s.ticks, .slice l K cl] 34) = X
  have M0 : Hid (Blk X w.heap.size #[.int .i64 s.size, .float .f32 s.step, .float .f32 s.lit.r, .float .f32 s.lit.g, .float .f32 s.lit.b, .slice a N ca, .int .i64 s.kind, .complex .f32 s.g1 s.g2, .float .f32 0, .slice b M cb, .int .i64 s.ticks, .slice l K cl] 34) := by rw [← hW]; exact Blk.new _ _ _
  have I0 : Hid (ShoIn X s a b l) := by rw [← hW]; exact HR.out.alloc
  have G0 : Hid (Below w.heap.size w X) := by rw [← hW]; show Below w.heap.size w _; (repeat' (first | (with_reducible exact Below.refl _ _) | (with_reducible assumption) | (with_reducible refine Below.alloc ?_ ?_ _) | (with_reducible refine Below.drew ?_) | (with_reducible refine Below.setCell ?_ ?_ _) | (with_reducible refine Below.trans ?_ (Below.mono (by assumption) ?_)) | (with_reducible exact Nat.le_refl _) | omega | (simp only [World.size_alloc, World.size_setCell, World.size_drew]; omega) | (simp; omega) | (simp; done)))
  clear hW HR
  (obtain ⟨p0, p1, p2, p3, p4, p5, p6, p7, p8, p9, p10, p11⟩ := blk12 (M0.out))
  have l0 := M0.out.lt
  refine (Y1.out _).mono ?_
  rintro e w1 ⟨rfl, rfl⟩
  go_wp2_with fail
  refine (Y2.call _).mono ?_
  rintro e w2 ⟨rfl, rfl⟩
  go_wp2_with fail
  refine (Y3.call _).mono ?_
  rintro e w3 ⟨rfl, hb⟩
  have M3 := Lib.hid (M0.out.below hb)
  have I3 : Hid (ShoIn w3 s a b l) := I0.out.below hb
  have G3 : Hid (Below w.heap.size w w3) := G0.out.trans (hb.mono G0.out.size)
  clear hb M0 I0 G0 p0 p1 p2 p3 p4 p5 p6 p7 p8 p9 p10 p11 l0 Y1 Y2 Y3
  (obtain ⟨p0, p1, p2, p3, p4, p5, p6, p7, p8, p9, p10, p11⟩ := blk12 (M3.out))
  have l0 := M3.out.lt
  go_wp2_with fail
  refine (Y4.call _ (rowAt_of_lies I3.out.sh)).mono ?_
  rintro e w4 ⟨rfl, hb⟩
  have M4 := Lib.hid (M3.out.below hb)
  have I4 : Hid (ShoIn w4 s a b l) := I3.out.below hb
  have G4 : Hid (Below w.heap.size w w4) := G3.out.trans (hb.mono G3.out.size)
  clear hb M3 I3 G3 p0 p1 p2 p3 p4 p5 p6 p7 p8 p9 p10 p11 l0 Y4
  (obtain ⟨p0, p1, p2, p3, p4, p5, p6, p7, p8, p9, p10, p11⟩ := blk12 (M4.out))
  have l0 := M4.out.lt
  go_wp2_with fail
  refine (Y5.out _ _ _ (bwIn_of_lies I4.out.bd)).mono ?_
  rintro e w5 ⟨rfl, hb⟩
  have M5 := Lib.hid (M4.out.below hb)
  have I5 : Hid (ShoIn w5 s a b l) := I4.out.below hb
  have G5 : Hid (Below w.heap.size w w5) := G4.out.trans (hb.mono G4.out.size)
  clear hb M4 I4 G4 p0 p1 p2 p3 p4 p5 p6 p7 p8 p9 p10 p11 l0 Y5
  cases p
  · clear Y6 Y7
    go_wp2
    go_ret
    exact ⟨rfl, G5.out⟩
  · obtain rfl := Y6.out rfl
    have Y := Y7.out rfl
    clear Y6 Y7
    have hd : decide (0 ≤ s.ticks) = true := decide_eq_true t0
    have hd2 : decide (s.ticks ≤ 200) = true := decide_eq_true t200
    (obtain ⟨p0, p1, p2, p3, p4, p5, p6, p7, p8, p9, p10, p11⟩ := blk12 (M5.out))
    have l0 := M5.out.lt
    go_wp2_with fail
    refine (Y.call _ _ _ I5.out.lg).mono ?_
    rintro e w6 ⟨rfl, hb⟩
    have G6 : Hid (Below w.heap.size w w6) := G5.out.trans (hb.mono G5.out.size)
    clear hb M5 I5 G5 p0 p1 p2 p3 p4 p5 p6 p7 p8 p9 p10 p11 l0
    go_wp2
    go_ret
    exact ⟨rfl, G6.out⟩⟩
end Go.Proofs.YtfdgijmmgllmgaaGreatDoor
namespace Go.Proofs.YtfdgijmmgllmgaaGreatDoor
open Go.ChangeShapes Go.WideShapes Go.ChangeAt Go.RowKit Go.Joins
set_option linter.unusedSimpArgs false
set_option linter.unusedVariables false
set_option maxRecDepth 100000
attribute [local go_sem] store_f
open Ieee Go.Lib
attribute [local go_sem] store_c
theorem owns_blk {W : World} {B T U sz n m c P : Nat} {a : Option Addr} {xs : List Value} {cs : Array Value} (h : W.ownsRow B T sz (.slice a m c) n xs) (hb : Blk W P cs U) (hTU : T ≠ U) : ∀ g, a = some ⟨g, 0, Option.none⟩ → (some P : Option Nat) ≠ some g := fun g e eq => by
  cases eq
  subst e
  rcases h.2 with ⟨e0, _⟩ | ⟨g1, c1, cur1, e1, _, b1, _⟩
  · cases e0
  · cases e1
    have := b1.symm.trans hb
    simp at this
    exact hTU this.2
theorem ShoOwn.grownP {W w1 : World} {B : Nat} {s : Sho} {N M K P : Nat} {a b l : Option Addr} {ca cb cl : Nat} {cs : Array Value} (h : ShoOwn W B s N M K a b l ca cb cl) (hb : Blk W P cs 34) (hg : W.grownBy w1 (some P)) : ShoOwn w1 B s N M K a b l ca cb cl :=
  ⟨owns_other hg h.sh (owns_blk h.sh hb (by decide)), owns_other hg h.bd (owns_blk h.bd hb (by decide)), owns_other hg h.lg (owns_blk h.lg hb (by decide))⟩
theorem ShoOwn.setP {W : World} {B : Nat} {s : Sho} {N M K P i : Nat} {v : Value} {a b l : Option Addr} {ca cb cl : Nat} {cs : Array Value} (h : ShoOwn W B s N M K a b l ca cb cl) (hb : Blk W P cs 34) : ShoOwn (W.setCell ⟨P, i, Option.none⟩ v) B s N M K a b l ca cb cl :=
  h.grownP hb (grownBy_set (grownBy_refl _ _))
end Go.Proofs.YtfdgijmmgllmgaaGreatDoor
namespace Go.Proofs.YtfdgijmmgllmgaaGreatDoor
open Go.ChangeShapes Go.WideShapes Go.ChangeAt Go.RowKit Go.Joins
set_option linter.unusedSimpArgs false
set_option linter.unusedVariables false
set_option maxRecDepth 100000
attribute [local go_sem] store_f
open Ieee Go.Lib
attribute [local go_sem] store_c
structure RowOf (W : World) (B T sz : Nat) (a : Option Addr) (xs : List Value) (g : Nat) : Prop where
  at_ : a = some ⟨g, 0, Option.none⟩
  ge : B ≤ g
  lt : g < W.heap.size
  lie : LieAt W g 0 xs
  free : ∀ i, W.frozen? ⟨g, i, Option.none⟩ = false
  blk : ∃ cs, Blk W g cs T
theorem rowOf {W : World} {B T sz n c : Nat} {a : Option Addr} {xs : List Value} (h : W.ownsRow B T sz (.slice a n c) n xs) (hn : 0 < n) : ∃ g, RowOf W B T sz a xs g := by
  have h0 := h
  rcases h.2 with ⟨_, e⟩ | ⟨g, cap, cur, e1, hb, hg, _⟩
  · omega
  · cases e1
    have hB : Blk W g cur T := hg
    refine ⟨g, rfl, hb, hB.lt, fun j u hj => ?_, hB.free, cur, hB⟩
    rw [Nat.zero_add, h0.cellAt _ (by have := (List.getElem?_eq_some_iff.1 hj).1; have := h0.1; omega)]
    exact hj
theorem LieAt.setAt {W : World} {g i : Nat} {xs : List Value} {v : Value} (h : LieAt W g 0 xs) (hi : i < xs.length) : LieAt (W.setCell ⟨g, i, Option.none⟩ v) g 0 (xs.set i v) := fun j u hj => by
  rw [Nat.zero_add]
  by_cases e : i = j
  · subst e
    rw [List.getElem?_set_self hi] at hj
    cases hj
    have h1 := h i xs[i] (by simp [hi])
    rw [Nat.zero_add] at h1
    exact World.cell?_setCell_same _ _ _ h1
  · rw [List.getElem?_set_ne e] at hj
    have h1 := h j u hj
    rw [Nat.zero_add] at h1
    exact cSetOff (by dsimp only; omega) h1
theorem LiesZ.other {W : World} {a : Option Addr} {g i : Nat} {v : Value} {xs : List Value} (h : LiesZ W a xs) (hne : a ≠ some ⟨g, 0, Option.none⟩) : LiesZ (W.setCell ⟨g, i, Option.none⟩ v) a xs := by
  rcases h with h | ⟨k, e, h⟩
  · exact .inl h
  · exact .inr ⟨k, e, h.set fun e' => hne (by rw [e, e'])⟩
theorem bw_set1 (L : List Bw) : ∀ n x y, n < L.length → bwCells (L.set n ⟨(L.getD n default).a1, (L.getD n default).a2, x, y⟩) = (bwCells L).set (n * 2 + 1) (.complex .f32 x y) := by
  induction L with
  | nil => intro n x y h; simp at h
  | cons b L ih =>
    intro n x y h
    cases n with
    | zero => rfl
    | succ n =>
      have := ih n x y (by simpa using h)
      have e : bwCells (b :: L) = .complex .f32 b.a1 b.a2 :: .complex .f32 b.v1 b.v2 :: bwCells L := rfl
      rw [e, show (n + 1) * 2 + 1 = (n * 2 + 1) + 1 + 1 by omega]
      show _ = Value.complex .f32 b.a1 b.a2 :: .complex .f32 b.v1 b.v2 :: (bwCells L).set (n * 2 + 1) (.complex .f32 x y)
      rw [← this]
      rfl
end Go.Proofs.YtfdgijmmgllmgaaGreatDoor
namespace Go.Proofs.YtfdgijmmgllmgaaGreatDoor
open Go.ChangeShapes Go.WideShapes Go.ChangeAt Go.RowKit Go.Joins
set_option linter.unusedSimpArgs false
set_option linter.unusedVariables false
set_option maxRecDepth 100000
attribute [local go_sem] store_f
open Ieee Go.Lib
attribute [local go_sem] store_c
theorem own_at {W : World} {C U su j : Nat} {v : Value} {ys : List Value} {g : Nat} (hv : W.ownsRow C U su v j ys) (e : v.ownBlock = some g) : C ≤ g ∧ ∃ cs, Blk W g cs U := by
  rcases hv.2 with ⟨rfl, _⟩ | ⟨g', cap, cur, rfl, h1, h2, _⟩
  · simp [Value.ownBlock] at e
  · obtain rfl : g' = g := by simpa [Value.ownBlock] using e
    exact ⟨h1, cur, h2⟩
theorem blk_keep {W w1 : World} {C U su j P T : Nat} {v : Value} {ys : List Value} {cs : Array Value} (hg : W.grownBy w1 v.ownBlock) (hv : W.ownsRow C U su v j ys) (hb : Blk W P cs T) (hTU : T ≠ U) : Blk w1 P cs T :=
  (hg.block P hb.lt (fun e => by
    obtain ⟨_, cs', h⟩ := own_at hv e.symm
    have := hb.symm.trans h
    simp at this
    exact hTU this.2)).trans hb
theorem owns_keep {W w1 : World} {B C T U su sz n m j c : Nat} {v : Value} {a : Option Addr} {xs ys : List Value} (hg : W.grownBy w1 v.ownBlock) (hv : W.ownsRow C U su v j ys) (h : W.ownsRow B T sz (.slice a m c) n xs) (hTU : T ≠ U) : w1.ownsRow B T sz (.slice a m c) n xs :=
  owns_other hg h fun g e e' => by
    obtain ⟨_, cs, hb⟩ := own_at hv e'
    exact owns_blk h hb hTU g e rfl
theorem below_keep {W w1 : World} {B U su j : Nat} {v : Value} {ys : List Value} (hg : W.grownBy w1 v.ownBlock) (hv : W.ownsRow B U su v j ys) (hB : B ≤ W.heap.size) : Below B W w1 :=
  Below.grown (Below.refl _ _) hg hB (fun g e => (own_at hv e).1)
end Go.Proofs.YtfdgijmmgllmgaaGreatDoor
