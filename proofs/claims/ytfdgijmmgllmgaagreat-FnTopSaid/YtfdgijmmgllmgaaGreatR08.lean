/-
  Texts Tc Td Te, joined.
-/
import Derived.Test.YtfdgijmmgllmgaaGreatR07
import Derived.Deep.RegionHeld3
import Derived.Deep.DeepCutAuto
import Derived.Test.YtfdgijmmgllmgaaGreatR01
import Derived.Deep.AppendLies
namespace Go.Proofs.YtfdgijmmgllmgaaGreat
open Go.ChangeShapes Go.WideShapes Go.ChangeAt Go.RowKit Go.Joins
set_option linter.unusedSimpArgs false
set_option linter.unusedVariables false
set_option maxRecDepth 100000
attribute [local go_sem] store_f
open Ieee Go.Lib
attribute [local go_sem] store_c
structure MoveM (kind : Int) (g1 g2 ls : Nat) (b c : Bw) (q : Bool) : Prop where
  call : ∀ (w : World) (a : Option Addr) (n cap : Nat), Calls Tryz.prog 204 #[.agg #[.int .i64 kind, .complex .f32 g1 g2, .float .f32 ls, .slice a n cap], .agg #[.complex .f32 b.a1 b.a2, .complex .f32 b.v1 b.v2]] w fun e w' => e = .returned (.tuple #[.agg #[.complex .f32 c.a1 c.a2, .complex .f32 c.v1 c.v2], .bool q, .bool true]) ∧ Below w.heap.size w w'
structure Moves (kind : Int) (g1 g2 ls : Nat) (b c : Bw) (x y z1 z2 : Nat) (t : Int) (f : Bool) (u v k : Nat) : Prop where
  j1 : Join 90 b.v1 b.v2 g1 g2 x y
  j2 : Join 90 b.a1 b.a2 x y z1 z2
  fold : FoldM kind z1 z2 c.a1 c.a2 t f
  pt : PtIs x y true
  act : ActM t f x y u v
  kept : Op2 145 1065353216 ls k
  same : t = 0 → f = false → c.v1 = u ∧ c.v2 = v
  less : ¬ (t = 0 ∧ f = false) → Join 91 u v k k c.v1 c.v2
set_option maxHeartbeats 16000000 in
theorem move_i {kind : Int} {g1 g2 ls : Nat} {b c : Bw} {x y z1 z2 : Nat} {t : Int} {f : Bool} {u v k : Nat} (M : Moves kind g1 g2 ls b c x y z1 z2 t f u v k) : MoveM kind g1 g2 ls b c (decide (¬ (t = 0 ∧ f = false))) := ⟨fun w a n cap => by
  have J1 := M.j1
  have J2 := M.j2
  have F := M.fold
  have P := M.pt
  have A := M.act
  have D := M.kept
  go_enter Tryz.func204, Tryz.ntmps204
  go_wp2_with (go_at_call 118; (with_reducible refine (J1.call _).mono ?_); rintro e w1 ⟨rfl, rfl⟩)
  generalize hW : ((w.alloc (.cells #[.int .i64 kind, .complex .f32 g1 g2, .float .f32 ls, .slice a n cap] 31)).alloc (.cells #[.complex .f32 b.a1 b.a2, .complex .f32 b.v1 b.v2] 59)).alloc (.cells #[.complex .f32 0 0, .complex .f32 0 0] 59) = X
  have T0 : Blk X w.heap.size #[.int .i64 kind, .complex .f32 g1 g2, .float .f32 ls, .slice a n cap] 31 := by rw [← hW]; exact ((Blk.new _ _ _).alloc).alloc
  have B0 : Blk X (w.heap.size + 1) #[.complex .f32 b.a1 b.a2, .complex .f32 b.v1 b.v2] 59 := by rw [← hW]; exact (Blk.newAt (by simp)).alloc
  have R0 : Hid (Blk X (w.heap.size + 1 + 1) #[.complex .f32 0 0, .complex .f32 0 0] 59) := by rw [← hW]; exact Blk.newAt (by simp)
  have HB : Hid (Below w.heap.size w X) := by rw [← hW]; show Below w.heap.size w _; (repeat' (first | (with_reducible exact Below.refl _ _) | (with_reducible assumption) | (with_reducible refine Below.alloc ?_ ?_ _) | (with_reducible refine Below.drew ?_) | (with_reducible refine Below.setCell ?_ ?_ _) | (with_reducible refine Below.trans ?_ (Below.mono (by assumption) ?_)) | (with_reducible exact Nat.le_refl _) | omega | (simp only [World.size_alloc, World.size_setCell, World.size_drew]; omega) | (simp; omega) | (simp; done)))
  have sX : X.heap.size = w.heap.size + 3 := by rw [← hW]; simp
  clear hW
  have HT : Hid (Blk X w.heap.size #[.int .i64 kind, .complex .f32 g1 g2, .float .f32 ls, .slice a n cap] 31) := T0
  (obtain ⟨t0, t1, t2, t3⟩ := blk4 (T0))
  (have b0 := Blk.cellAt (i := 0) B0 rfl; have b1 := Blk.cellAt (i := 1) B0 rfl; simp only [List.getElem_toArray, List.getElem_cons_zero, List.getElem_cons_succ] at b0 b1)
  clear T0 B0 t1 t2 t3 b1
  have hX0 : Below X.heap.size X X := Below.refl _ _
  have hX1 : X.heap.size ≤ X.heap.size := Nat.le_refl _
  have l0 : w.heap.size < X.heap.size := by omega
  have l1 : w.heap.size + 1 < X.heap.size := by omega
  have l2 : w.heap.size + 2 < X.heap.size := by omega
  clear sX
  go_cut [8, 9, 10] (fun p8 p9 p10 wx => p8 = .complex .f32 c.a1 c.a2 ∧ p10 = .bool true ∧ ∃ nh : Nat, p9 = .pointer (some ⟨nh, 0, Option.none⟩) ∧ nh < wx.heap.size ∧ wx.cell? ⟨nh, 0, Option.none⟩ = some (.int .i64 (t)) ∧ wx.cell? ⟨nh, 1, Option.none⟩ = some (.bool (f)) ∧ Below X.heap.size X wx ∧ X.heap.size ≤ wx.heap.size)
  case first =>
    go_region_held3 (fun wx => Below X.heap.size X wx ∧ X.heap.size ≤ wx.heap.size ∧ w.heap.size < wx.heap.size ∧ w.heap.size + 1 < wx.heap.size ∧ wx.cell? ⟨w.heap.size, 0, Option.none⟩ = some (.int .i64 kind) ∧ wx.cell? ⟨w.heap.size + 1, 0, Option.none⟩ = some (.complex .f32 b.a1 b.a2))
      (((repeat' apply And.intro) <;> first | (with_reducible assumption) | (((repeat (first | (with_reducible assumption) | (with_reducible exact cNewAt (by first | rfl | (simp only [World.size_alloc, World.size_setCell, World.size_drew]; done) | omega) rfl) | (with_reducible exact sNewAt (by first | rfl | (simp only [World.size_alloc, World.size_setCell, World.size_drew]; done) | omega) rfl) | (simp; done) | (with_reducible apply cAlloc) | (with_reducible apply cDrew) | (with_reducible refine cSet (by dsimp only; omega) ?_) | (with_reducible refine cSetOff (by dsimp only; omega) ?_) | (with_reducible apply cSame) | (with_reducible refine cBelow (by assumption) ?_) | (with_reducible apply sAlloc) | (with_reducible apply sDrew) | (with_reducible refine sBelow (by assumption) ?_) | (with_reducible refine sSet (by dsimp only; omega) ?_))); first | done | (simp [*]; done)); done) | (simp only [World.size_alloc, World.size_setCell, World.size_drew]; omega) | omega | (go_keep; done) | ((repeat' (first | (with_reducible exact Below.refl _ _) | (with_reducible assumption) | (with_reducible refine Below.alloc ?_ ?_ _) | (with_reducible refine Below.drew ?_) | (with_reducible refine Below.setCell ?_ ?_ _) | (with_reducible refine Below.trans ?_ (Below.mono (by assumption) ?_)) | (with_reducible exact Nat.le_refl _) | omega | (simp only [World.size_alloc, World.size_setCell, World.size_drew]; omega) | (simp; omega) | (simp; done))); done)))
      (first | (go_at_call 118; (with_reducible refine (J2.call _).mono ?_); rintro e w2 ⟨rfl, rfl⟩) | (go_at_call 22; (with_reducible refine (F.call _).mono ?_); rintro e w3 ⟨rfl, hb⟩; have hbs := hb.size; (try simp only [World.size_alloc, World.size_setCell, World.size_drew] at hbs); (try ((first | have hN := Blk.belowAt hb hN | have hN := Blk.belowAt hb (Blk.drew (Blk.new _ _ _)) | have hN := Blk.belowAt hb (Blk.new _ _ _)); (try simp only [World.size_drew] at hN); have y0 := Blk.cellAt (i := 0) hN rfl; have y1 := Blk.cellAt (i := 1) hN rfl; simp only [List.getElem_toArray, List.getElem_cons_zero, List.getElem_cons_succ] at y0 y1; have z0 := hN.free 0; have z1 := hN.free 1; have zl := hN.lt))))
    all_goals (go_wp2_with fail; go_meet; refine ⟨rfl, rfl, _, rfl, ?_⟩; ((repeat' apply And.intro) <;> first | (with_reducible assumption) | (((repeat (first | (with_reducible assumption) | (with_reducible exact cNewAt (by first | rfl | (simp only [World.size_alloc, World.size_setCell, World.size_drew]; done) | omega) rfl) | (with_reducible exact sNewAt (by first | rfl | (simp only [World.size_alloc, World.size_setCell, World.size_drew]; done) | omega) rfl) | (simp; done) | (with_reducible apply cAlloc) | (with_reducible apply cDrew) | (with_reducible refine cSet (by dsimp only; omega) ?_) | (with_reducible refine cSetOff (by dsimp only; omega) ?_) | (with_reducible apply cSame) | (with_reducible refine cBelow (by assumption) ?_) | (with_reducible apply sAlloc) | (with_reducible apply sDrew) | (with_reducible refine sBelow (by assumption) ?_) | (with_reducible refine sSet (by dsimp only; omega) ?_))); first | done | (simp [*]; done)); done) | (simp only [World.size_alloc, World.size_setCell, World.size_drew]; omega) | omega | (go_keep; done) | ((repeat' (first | (with_reducible exact Below.refl _ _) | (with_reducible assumption) | (with_reducible refine Below.alloc ?_ ?_ _) | (with_reducible refine Below.drew ?_) | (with_reducible refine Below.setCell ?_ ?_ _) | (with_reducible refine Below.trans ?_ (Below.mono (by assumption) ?_)) | (with_reducible exact Nat.le_refl _) | omega | (simp only [World.size_alloc, World.size_setCell, World.size_drew]; omega) | (simp; omega) | (simp; done))); done)))
  case rest =>
    obtain ⟨rfl, rfl, nh, rfl, hnh, s0, s1, hbel, hsz⟩ := hcut
    have HS : Hid (wc.cell? ⟨nh, 0, Option.none⟩ = some (.int .i64 (t)) ∧ wc.cell? ⟨nh, 1, Option.none⟩ = some (.bool (f))) := ⟨s0, s1⟩
    have HTC : Hid (Blk wc w.heap.size #[.int .i64 kind, .complex .f32 g1 g2, .float .f32 ls, .slice a n cap] 31) := HT.out.below hbel
    have HRC : Hid (Blk wc (w.heap.size + 1 + 1) #[.complex .f32 0 0, .complex .f32 0 0] 59) := R0.out.below hbel
    have HBC : Hid (Below w.heap.size w wc) := HB.out.trans (hbel.mono (by omega))
    have hls : w.heap.size ≤ wc.heap.size := by omega
    clear hbel t0 b0 hX0 HT R0 HB hX1 l0 l1 l2 hsz
    go_wp2_with (go_at_call 49; (with_reducible refine (P.call _).mono ?_); rintro e w4 ⟨rfl, rfl⟩)
    refine (A.call _).mono ?_
    rintro e w5 ⟨rfl, hb⟩
    have q0 := cBelow hb HS.out.1
    have q1 := cBelow hb HS.out.2
    have HT5 : Hid (Blk w5 w.heap.size #[.int .i64 kind, .complex .f32 g1 g2, .float .f32 ls, .slice a n cap] 31) := HTC.out.below hb
    have HR5 : Hid (Blk w5 (w.heap.size + 1 + 1) #[.complex .f32 0 0, .complex .f32 0 0] 59) := HRC.out.below hb
    have HB5 : Hid (Below w.heap.size w w5) := HBC.out.trans (hb.mono hls)
    have hn5 : nh < w5.heap.size := Nat.lt_of_lt_of_le hnh hb.size
    have RS := (HR5.out.set (i := 0) (v := .complex .f32 c.a1 c.a2)).set (i := 1) (v := .complex .f32 c.v1 c.v2)
    have e0 := RS.cell 0
    have e1 := RS.cell 1
    simp only [List.setIfInBounds_toArray, List.set_cons_zero, List.set_cons_succ, List.getElem?_toArray, List.getElem?_cons_zero, List.getElem?_cons_succ] at e0 e1
    have E0 := Lib.hid e0
    have E1 := Lib.hid e1
    clear hb s0 s1 HS HTC HRC HBC hls hnh RS e0 e1
    (obtain ⟨t0, t1, t2, t3⟩ := blk4 (HT5.out))
    (have r0 := Blk.cellAt (i := 0) HR5.out rfl; have r1 := Blk.cellAt (i := 1) HR5.out rfl; simp only [List.getElem_toArray, List.getElem_cons_zero, List.getElem_cons_succ] at r0 r1)
    have f0 := HR5.out.free 0
    have f1 := HR5.out.free 1
    have lr := HR5.out.lt
    have lt5 := HT5.out.lt
    have SAME : Hid (t = 0 → f = false → c.v1 = u ∧ c.v2 = v) := M.same
    have LESS : Hid (¬ (t = 0 ∧ f = false) → Join 91 u v k k c.v1 c.v2) := M.less
    clear M t1 t3
    by_cases h0 : t = 0
    · subst h0
      cases f
      · obtain ⟨v1, v2⟩ := SAME.out rfl rfl
        have V1 := Lib.hid v1
        have V2 := Lib.hid v2
        clear v1 v2
        go_wp2_with fail
        have e0 := E0.out
        have e1 := E1.out
        rw [V1.out, V2.out] at *
        exact bodyPost_ret (v := .tuple #[.agg #[.complex .f32 c.a1 c.a2, .complex .f32 u v], .bool false, .bool true]) (by simp [results, Tryz.results204, go_sem, e0, e1]) rfl ⟨by simp, (HB5.out.setCell (by dsimp only; omega) _).setCell (by dsimp only; omega) _⟩
      · have J3 := LESS.out (by simp)
        go_wp2_with (first | (go_at_call 145; (with_reducible refine (D.call _).mono ?_); rintro e w6 ⟨rfl, rfl⟩) | (go_at_call 118; (with_reducible refine (J3.call _).mono ?_); rintro e w7 ⟨rfl, rfl⟩))
        have e0 := E0.out
        have e1 := E1.out
        exact bodyPost_ret (v := .tuple #[.agg #[.complex .f32 c.a1 c.a2, .complex .f32 c.v1 c.v2], .bool true, .bool true]) (by simp [results, Tryz.results204, go_sem, e0, e1]) rfl ⟨by simp, (HB5.out.setCell (by dsimp only; omega) _).setCell (by dsimp only; omega) _⟩
    · have J3 := LESS.out (fun h => h0 h.1)
      have h0' : (t == 0) = false := by simpa using h0
      go_wp2_with (first | (go_at_call 145; (with_reducible refine (D.call _).mono ?_); rintro e w6 ⟨rfl, rfl⟩) | (go_at_call 118; (with_reducible refine (J3.call _).mono ?_); rintro e w7 ⟨rfl, rfl⟩))
      have e0 := E0.out
      have e1 := E1.out
      exact bodyPost_ret (v := .tuple #[.agg #[.complex .f32 c.a1 c.a2, .complex .f32 c.v1 c.v2], .bool true, .bool true]) (by simp [results, Tryz.results204, go_sem, e0, e1]) rfl ⟨by simp [h0], (HB5.out.setCell (by dsimp only; omega) _).setCell (by dsimp only; omega) _⟩⟩
end Go.Proofs.YtfdgijmmgllmgaaGreat
namespace Go.Proofs.YtfdgijmmgllmgaaGreat
open Go.ChangeShapes Go.WideShapes Go.ChangeAt Go.RowKit Go.Joins
set_option linter.unusedSimpArgs false
set_option linter.unusedVariables false
set_option maxRecDepth 100000
attribute [local go_sem] store_f
open Ieee Go.Lib
attribute [local go_sem] store_c
def boolCells (l : List Bool) : List Value := l.map Value.bool
theorem boolCells_snoc (l : List Bool) (b : Bool) : boolCells (l ++ [b]) = boolCells l ++ [.bool b] := by simp [boolCells]
def BoolRow (W : World) (g : Nat) (l : List Bool) : Prop := ∀ k, k < l.length → W.cell? ⟨g, k, Option.none⟩ = some (.bool (l.getD k false))
theorem boolRow_of {W : World} {base g n cap : Nat} {l : List Bool} (h : W.ownsRow base 4 1 (.slice (some ⟨g, 0, Option.none⟩) n cap) n (boolCells l)) (hn : l.length = n) : BoolRow W g l := fun k hk => by
  rw [h.cellAt _ (by omega)]
  simp [boolCells, hk, List.getD]
theorem BoolRow.below {W w1 : World} {g : Nat} {l : List Bool} (h : BoolRow W g l) (hb : Below W.heap.size W w1) : BoolRow w1 g l := fun k hk => cBelow hb (h k hk)
theorem BoolRow.set {W : World} {g : Nat} {a : Addr} {v : Value} {l : List Bool} (h : BoolRow W g l) (hne : g ≠ a.block) : BoolRow (W.setCell a v) g l := fun k hk => cSet hne (h k hk)
theorem infoBool : (Tryz.prog.info? 4).map (fun i => (i.zero, i.size, i.bytes)) = some (some (.bool false), 1, 1) := by kernel_rfl
theorem owns_kept {W w1 : World} {base e size g n m cap : Nat} {xs : List Value} {r : Option Nat} (hg : W.grownBy w1 r) (h : W.ownsRow base e size (.slice (some ⟨g, 0, Option.none⟩) m cap) n xs) (hne : r ≠ some g) : w1.ownsRow base e size (.slice (some ⟨g, 0, Option.none⟩) m cap) n xs := by
  obtain ⟨h1, h2⟩ := h
  refine ⟨h1, ?_⟩
  rcases h2 with h2 | ⟨g', cap', cur, e1, e2, e3, e4⟩
  · exact .inl h2
  · have eg : g' = g := by cases e1; rfl
    refine .inr ⟨g', cap', cur, e1, e2, ?_, e4⟩
    rw [hg.block g' (Array.getElem?_eq_some_iff.1 e3).1 (by rw [eg]; exact fun e => hne e.symm)]
    exact e3
structure Tick (kind : Int) (g1 g2 ls : Nat) (L M : List Bw) (Q : List Bool) : Prop where
  moves : ∀ k, k < L.length → MoveM kind g1 g2 ls (L.getD k default) (M.getD k default) (Q.getD k false)
  len : M.length = L.length
  qlen : Q.length = L.length
  few : L.length ≤ 8
structure Ticked (w : World) (e : Ending) (w' : World) (B : Nat) (kind : Int) (g1 g2 ls : Nat) (M : List Bw) (Q : List Bool) (gm cm gb cb : Nat) : Prop where
  ret : e = .returned (.tuple #[.slice (some ⟨gb, 0, Option.none⟩) Q.length cb, .bool true])
  blk : Blk w' B #[.int .i64 kind, .complex .f32 g1 g2, .float .f32 ls, .slice (some ⟨gm, 0, Option.none⟩) M.length cm] 31
  row : BwRow w' gm M
  bools : BoolRow w' gb Q
  grown : w.grownBy w' (some B)
theorem take_snocB {L : List Bw} {k : Nat} (h : k < L.length) : L.take (k + 1) = L.take k ++ [L.getD k default] := by
  rw [List.take_succ_eq_append_getElem h]; simp [List.getD, h]
theorem take_snocQ {L : List Bool} {k : Nat} (h : k < L.length) : L.take (k + 1) = L.take k ++ [L.getD k false] := by
  rw [List.take_succ_eq_append_getElem h]; simp [List.getD, h]
set_option maxHeartbeats 32000000 in
theorem tick_i {kind : Int} {g1 g2 ls : Nat} {L M : List Bw} {Q : List Bool} (T : Tick kind g1 g2 ls L M Q) {B cap : Nat} {a : Option Addr} (w : World) (hB : Blk w B #[.int .i64 kind, .complex .f32 g1 g2, .float .f32 ls, .slice a L.length cap] 31) (hrow : BwIn w a L) :
    Calls Tryz.prog 203 #[.pointer (some ⟨B, 0, Option.none⟩)] w fun e w' => ∃ gm cm gb cb, Ticked w e w' B kind g1 g2 ls M Q gm cm gb cb := by
  obtain ⟨i0, hi, hz0, hz1, hz2⟩ := info_parts infoB
  obtain ⟨j0, hj, hy0, hy1, hy2⟩ := info_parts infoBool
  have HM : Hid (∀ k, k < L.length → MoveM kind g1 g2 ls (L.getD k default) (M.getD k default) (Q.getD k false)) := T.moves
  have HML : Hid (M.length = L.length) := T.len
  have HQL : Hid (Q.length = L.length) := T.qlen
  have hfew := T.few
  have HR : Hid (BwIn w a L) := hrow
  have HB : Hid (Blk w B #[.int .i64 kind, .complex .f32 g1 g2, .float .f32 ls, .slice a L.length cap] 31) := hB
  have hlt := hB.lt
  have h3 := Blk.cellAt (i := 3) hB rfl
  simp only [List.getElem_toArray, List.getElem_cons_zero, List.getElem_cons_succ] at h3
  clear T hrow hB
  go_enter Tryz.func203, Tryz.ntmps203
  go_wp2_with fail
  generalize hW : (w.alloc (.cells #[] 59)).alloc (.cells #[] 4) = X
  have O1 : Hid (X.ownsRow w.heap.size 59 2 (.slice (some ⟨w.heap.size, 0, Option.none⟩) 0 0) 0 []) := by
    rw [← hW]
    exact World.ownsRow.alloc (World.ownsRow_lit _ #[] 0 (by simp) (by unfold maxLen; omega) rfl) _
  have O2 : Hid (X.ownsRow w.heap.size 4 1 (.slice (some ⟨w.heap.size + 1, 0, Option.none⟩) 0 0) 0 []) := by
    rw [← hW]
    have h := World.ownsRow_lit (base := w.heap.size) (e := 4) (size := 1) (w.alloc (.cells #[] 59)) #[] 0 (by simp) (by unfold maxLen; omega) rfl
    show World.ownsRow _ _ _ _ _ _ _
    simpa using h
  have BX : Hid (Below w.heap.size w X) := by rw [← hW]; show Below w.heap.size w _; (repeat' (first | (with_reducible exact Below.refl _ _) | (with_reducible assumption) | (with_reducible refine Below.alloc ?_ ?_ _) | (with_reducible refine Below.drew ?_) | (with_reducible refine Below.setCell ?_ ?_ _) | (with_reducible refine Below.trans ?_ (Below.mono (by assumption) ?_)) | (with_reducible exact Nat.le_refl _) | omega | (simp only [World.size_alloc, World.size_setCell, World.size_drew]; omega) | (simp; omega) | (simp; done)))
  clear hW h3
  go_loopw [4, 5, 18] (fun mv bo i wr => ∃ j : Nat, j ≤ L.length ∧ i = .int .i64 j ∧ (∃ gm cm gb cb, mv = .slice (some ⟨gm, 0, Option.none⟩) j cm ∧ bo = .slice (some ⟨gb, 0, Option.none⟩) j cb ∧ gm ≠ gb ∧ wr.ownsRow w.heap.size 59 2 (.slice (some ⟨gm, 0, Option.none⟩) j cm) j (bwCells (M.take j)) ∧ wr.ownsRow w.heap.size 4 1 (.slice (some ⟨gb, 0, Option.none⟩) j cb) j (boolCells (Q.take j))) ∧ Below w.heap.size w wr)
    (fun _ _ i _ => L.length - (intOf i).toNat)
  case atStart => exact ⟨0, by omega, rfl, ⟨_, _, _, _, rfl, rfl, by omega, O1.out, O2.out⟩, BX.out⟩
  case round =>
    obtain ⟨j, hjl, rfl, ⟨gm, cm, gb, cb, rfl, rfl, hne, hm, hq⟩, hbel⟩ := hrel
    have HMW : Hid (wr.ownsRow w.heap.size 59 2 (.slice (some ⟨gm, 0, Option.none⟩) j cm) j (bwCells (M.take j))) := hm
    have HQW : Hid (wr.ownsRow w.heap.size 4 1 (.slice (some ⟨gb, 0, Option.none⟩) j cb) j (boolCells (Q.take j))) := hq
    have HBE : Hid (Below w.heap.size w wr) := hbel
    have HNE : Hid (gm ≠ gb) := hne
    have hsz := hbel.size
    have hlgm := (hm.lt _ rfl)
    have hlgb := (hq.lt _ rfl)
    have HBR : Hid (Blk wr B #[.int .i64 kind, .complex .f32 g1 g2, .float .f32 ls, .slice a L.length cap] 31) := HB.out.below hbel
    clear hm hq hne O1 O2 BX
    by_cases hlt2 : j < L.length
    · have K := HM.out j hlt2
      rcases HR.out with hnil | ⟨gl, rfl, hrl⟩
      · exfalso; rw [hnil] at hlt2; simp at hlt2
      obtain ⟨c0, c1⟩ := hrl.below hbel j hlt2
      have HSM : Hid (M.take (j + 1) = M.take j ++ [M.getD j default]) := take_snocB (by have := HML.out; omega)
      have HSQ : Hid (Q.take (j + 1) = Q.take j ++ [Q.getD j false]) := take_snocQ (by have := HQL.out; omega)
      generalize M.getD j default = c at K HSM
      generalize Q.getD j false = q at K HSQ
      generalize L.getD j default = b at K c0 c1
      clear hrl hbel
      go_wp2_with fail
      generalize hV : wr.alloc (.cells #[.complex .f32 b.a1 b.a2, .complex .f32 b.v1 b.v2] 59) = V
      have V0 : Blk V wr.heap.size #[.complex .f32 b.a1 b.a2, .complex .f32 b.v1 b.v2] 59 := by rw [← hV]; exact Blk.new _ _ _
      have T0 : Blk V B #[.int .i64 kind, .complex .f32 g1 g2, .float .f32 ls, .slice (some ⟨gl, 0, Option.none⟩) L.length cap] 31 := by rw [← hV]; exact HBR.out.alloc
      have BV : Hid (Below wr.heap.size wr V) := by rw [← hV]; show Below wr.heap.size wr _; (repeat' (first | (with_reducible exact Below.refl _ _) | (with_reducible assumption) | (with_reducible refine Below.alloc ?_ ?_ _) | (with_reducible refine Below.drew ?_) | (with_reducible refine Below.setCell ?_ ?_ _) | (with_reducible refine Below.trans ?_ (Below.mono (by assumption) ?_)) | (with_reducible exact Nat.le_refl _) | omega | (simp only [World.size_alloc, World.size_setCell, World.size_drew]; omega) | (simp; omega) | (simp; done)))
      have sV : V.heap.size = wr.heap.size + 1 := by rw [← hV]; simp
      clear hV c0 c1
      (obtain ⟨t0, t1, t2, t3⟩ := blk4 (T0))
      (have b0 := Blk.cellAt (i := 0) V0 rfl; have b1 := Blk.cellAt (i := 1) V0 rfl; simp only [List.getElem_toArray, List.getElem_cons_zero, List.getElem_cons_succ] at b0 b1)
      clear V0 T0
      have hV0 : Below V.heap.size V V := Below.refl _ _
      have hV1 : V.heap.size ≤ V.heap.size := Nat.le_refl _
      have lB : B < V.heap.size := by omega
      have lV : wr.heap.size < V.heap.size := by omega
      clear sV
      go_cut [8, 9, 10] (fun p8 p9 p10 wx => p9 = .bool q ∧ p10 = .bool true ∧ ∃ nh : Nat, p8 = .pointer (some ⟨nh, 0, Option.none⟩) ∧ nh < wx.heap.size ∧ wx.cell? ⟨nh, 0, Option.none⟩ = some (.complex .f32 c.a1 c.a2) ∧ wx.cell? ⟨nh, 1, Option.none⟩ = some (.complex .f32 c.v1 c.v2) ∧ Below V.heap.size V wx ∧ V.heap.size ≤ wx.heap.size)
      case first =>
        go_region_held3 (fun wx => Below V.heap.size V wx ∧ V.heap.size ≤ wx.heap.size ∧ B < wx.heap.size ∧ wr.heap.size < wx.heap.size ∧ wx.cell? ⟨B, 0, Option.none⟩ = some (.int .i64 kind) ∧ wx.cell? ⟨B, 1, Option.none⟩ = some (.complex .f32 g1 g2) ∧ wx.cell? ⟨B, 2, Option.none⟩ = some (.float .f32 ls) ∧ wx.cell? ⟨B, 3, Option.none⟩ = some (.slice (some ⟨gl, 0, Option.none⟩) L.length cap) ∧ wx.cell? ⟨wr.heap.size, 0, Option.none⟩ = some (.complex .f32 b.a1 b.a2) ∧ wx.cell? ⟨wr.heap.size, 1, Option.none⟩ = some (.complex .f32 b.v1 b.v2))
          (((repeat' apply And.intro) <;> first | (with_reducible assumption) | (((repeat (first | (with_reducible assumption) | (with_reducible exact cNewAt (by first | rfl | (simp only [World.size_alloc, World.size_setCell, World.size_drew]; done) | omega) rfl) | (with_reducible exact sNewAt (by first | rfl | (simp only [World.size_alloc, World.size_setCell, World.size_drew]; done) | omega) rfl) | (simp; done) | (with_reducible apply cAlloc) | (with_reducible apply cDrew) | (with_reducible refine cSet (by dsimp only; omega) ?_) | (with_reducible refine cSetOff (by dsimp only; omega) ?_) | (with_reducible apply cSame) | (with_reducible refine cBelow (by assumption) ?_) | (with_reducible apply sAlloc) | (with_reducible apply sDrew) | (with_reducible refine sBelow (by assumption) ?_) | (with_reducible refine sSet (by dsimp only; omega) ?_))); first | done | (simp [*]; done)); done) | (simp only [World.size_alloc, World.size_setCell, World.size_drew]; omega) | omega | (go_keep; done) | ((repeat' (first | (with_reducible exact Below.refl _ _) | (with_reducible assumption) | (with_reducible refine Below.alloc ?_ ?_ _) | (with_reducible refine Below.drew ?_) | (with_reducible refine Below.setCell ?_ ?_ _) | (with_reducible refine Below.trans ?_ (Below.mono (by assumption) ?_)) | (with_reducible exact Nat.le_refl _) | omega | (simp only [World.size_alloc, World.size_setCell, World.size_drew]; omega) | (simp; omega) | (simp; done))); done)))
          (first | (go_at_call 204; (with_reducible refine (K.call _ _ _ _).mono ?_); rintro e w3 ⟨rfl, hb⟩; have hbs := hb.size; (try simp only [World.size_alloc, World.size_setCell, World.size_drew] at hbs); (try ((first | have hN := Blk.belowAt hb hN | have hN := Blk.belowAt hb (Blk.drew (Blk.new _ _ _)) | have hN := Blk.belowAt hb (Blk.new _ _ _)); (try simp only [World.size_drew] at hN); have y0 := Blk.cellAt (i := 0) hN rfl; have y1 := Blk.cellAt (i := 1) hN rfl; simp only [List.getElem_toArray, List.getElem_cons_zero, List.getElem_cons_succ] at y0 y1; have z0 := hN.free 0; have z1 := hN.free 1; have zl := hN.lt))))
        all_goals (go_wp2_with fail; go_meet; refine ⟨rfl, rfl, _, rfl, ?_⟩; ((repeat' apply And.intro) <;> first | (with_reducible assumption) | (((repeat (first | (with_reducible assumption) | (with_reducible exact cNewAt (by first | rfl | (simp only [World.size_alloc, World.size_setCell, World.size_drew]; done) | omega) rfl) | (with_reducible exact sNewAt (by first | rfl | (simp only [World.size_alloc, World.size_setCell, World.size_drew]; done) | omega) rfl) | (simp; done) | (with_reducible apply cAlloc) | (with_reducible apply cDrew) | (with_reducible refine cSet (by dsimp only; omega) ?_) | (with_reducible refine cSetOff (by dsimp only; omega) ?_) | (with_reducible apply cSame) | (with_reducible refine cBelow (by assumption) ?_) | (with_reducible apply sAlloc) | (with_reducible apply sDrew) | (with_reducible refine sBelow (by assumption) ?_) | (with_reducible refine sSet (by dsimp only; omega) ?_))); first | done | (simp [*]; done)); done) | (simp only [World.size_alloc, World.size_setCell, World.size_drew]; omega) | omega | (go_keep; done) | ((repeat' (first | (with_reducible exact Below.refl _ _) | (with_reducible assumption) | (with_reducible refine Below.alloc ?_ ?_ _) | (with_reducible refine Below.drew ?_) | (with_reducible refine Below.setCell ?_ ?_ _) | (with_reducible refine Below.trans ?_ (Below.mono (by assumption) ?_)) | (with_reducible exact Nat.le_refl _) | omega | (simp only [World.size_alloc, World.size_setCell, World.size_drew]; omega) | (simp; omega) | (simp; done))); done)))
      case rest =>
        obtain ⟨rfl, rfl, nh, rfl, hnh, s0, s1, hbv, hszv⟩ := hcut
        have BC : Hid (Below wr.heap.size wr wc) := BV.out.trans (hbv.mono (by omega))
        have hsc : wr.heap.size ≤ wc.heap.size := BC.out.size
        have HMC : Hid (wc.ownsRow w.heap.size 59 2 (.slice (some ⟨gm, 0, Option.none⟩) j cm) j (bwCells (M.take j))) := ownsBelow BC.out HMW.out
        have HQC : Hid (wc.ownsRow w.heap.size 4 1 (.slice (some ⟨gb, 0, Option.none⟩) j cb) j (boolCells (Q.take j))) := ownsBelow BC.out HQW.out
        have HBC : Hid (Below w.heap.size w wc) := HBE.out.trans (BC.out.mono (by omega))
        have hwc : w.heap.size ≤ wc.heap.size := by omega
        clear hbv t0 t1 t2 t3 b0 b1 hV0 hV1 lB lV HMW HQW HBE BV BC
        go_wp2_with (at_builtin; go_loud (refine wpList_append_lies _ rfl _ _ 29 rfl w.heap.size 59 i0 (.agg #[.complex .f32 0 0, .complex .f32 0 0]) 2 16 Tryz.underlying29 hi hz0 hz1 hz2 rfl (by decide) (.slice (some ⟨gm, 0, Option.none⟩) j cm) j (bwCells (M.take j)) rfl (World.ownsRow.alloc HMC.out _) ⟨wc.heap.size, 0, Option.none⟩ 1 1 c.cells rfl rfl (World.news_of_block (cs := #[.complex .f32 c.a1 c.a2, .complex .f32 c.v1 c.v2]) (t := 59) (fr := (0, 0)) (heap_alloc_new wc _)) (by simp [Bw.cells, Value.oneCell']) (by omega) (by unfold maxLen; omega) (by omega) (by simp; omega) (wc.heap.size + 1) (by simp) ?_))
        intro gg cg w6 hown6 hgrow hat hlt6
        have hnb : gg ≠ gb := by
          rcases hat with h | h
          · intro e
            subst e
            simp [Value.ownBlock] at h
            exact HNE.out h
          · omega
        have HQ6 : Hid (w6.ownsRow w.heap.size 4 1 (.slice (some ⟨gb, 0, Option.none⟩) j cb) j (boolCells (Q.take j))) := owns_kept hgrow (World.ownsRow.alloc HQC.out _) (by simp [Value.ownBlock]; exact HNE.out)
        have HB6 : Hid (Below w.heap.size w w6) := Below.grown (HBC.out.alloc (by omega) _) hgrow (by simp; omega) (fun x hx => by simp [Value.ownBlock] at hx; omega)
        have HM6 : Hid (w6.ownsRow w.heap.size 59 2 (.slice (some ⟨gg, 0, Option.none⟩) (j + 1) cg) (j + 1) (bwCells (M.take j) ++ c.cells)) := hown6
        have hs6 : wc.heap.size + 1 ≤ w6.heap.size := by have := hgrow.size; simp at this; omega
        clear hown6 hgrow hat HMC HQC HBC s0 s1
        have HNB : Hid (gg ≠ gb) := hnb
        clear hnb
        go_wp2_with (at_builtin; go_loud (refine wpList_append_lies _ rfl _ _ 246 rfl w.heap.size 4 j0 (.bool false) 1 1 Tryz.underlying246 hj hy0 hy1 hy2 rfl (by decide) (.slice (some ⟨gb, 0, Option.none⟩) j cb) j (boolCells (Q.take j)) rfl (World.ownsRow.alloc HQ6.out _) ⟨w6.heap.size, 0, Option.none⟩ 1 1 [.bool q] rfl rfl (World.news_of_block (cs := #[.bool q]) (t := 4) (fr := (0, 0)) (heap_alloc_new w6 _)) (by simp [Value.oneCell']) (by omega) (by unfold maxLen; omega) (by omega) (by simp; omega) (w6.heap.size + 1) (by simp) ?_))
        intro gh ch w7 hown7 hgrow hat hlt7
        have hnb : gg ≠ gh := by
          rcases hat with h | h
          · intro e
            subst e
            simp [Value.ownBlock] at h
            exact HNB.out h.symm
          · omega
        have HNH : Hid (gg ≠ gh) := hnb
        have HM7 : Hid (w7.ownsRow w.heap.size 59 2 (.slice (some ⟨gg, 0, Option.none⟩) (j + 1) cg) (j + 1) (bwCells (M.take j) ++ c.cells)) := owns_kept hgrow (World.ownsRow.alloc HM6.out _) (by simp [Value.ownBlock]; exact fun e => HNB.out e.symm)
        have HB7 : Hid (Below w.heap.size w w7) := Below.grown (HB6.out.alloc (by omega) _) hgrow (by simp; omega) (fun x hx => by simp [Value.ownBlock] at hx; omega)
        have HQ7 : Hid (w7.ownsRow w.heap.size 4 1 (.slice (some ⟨gh, 0, Option.none⟩) (j + 1) ch) (j + 1) (boolCells (Q.take j) ++ [.bool q])) := hown7
        clear hown7 hgrow hat hnb HM6 HB6 HQ6
        go_wp2
        go_roundw
        case rel => exact ⟨j + 1, by omega, by go_num, ⟨_, _, _, _, rfl, rfl, HNH.out, by rw [HSM.out, bwCells_snoc]; exact HM7.out, by rw [HSQ.out, boolCells_snoc]; exact HQ7.out⟩, HB7.out⟩
        case measure => simp [intOf]; omega
    · have hjm : j = L.length := by omega
      subst hjm
      have hf3 := HBR.out.free 3
      have h3 := Blk.cellAt (i := 3) HBR.out rfl
      simp only [List.getElem_toArray, List.getElem_cons_zero, List.getElem_cons_succ] at h3
      have lB : B < wr.heap.size := HBR.out.lt
      clear hbel
      go_wp2
      go_ret2
      have hMt : M.take L.length = M := List.take_of_length_le (by have := HML.out; omega)
      have hQt : Q.take L.length = Q := List.take_of_length_le (by have := HQL.out; omega)
      have hm := HMW.out
      have hq := HQW.out
      rw [hMt] at hm
      rw [hQt] at hq
      have hML := HML.out
      have hQL := HQL.out
      refine ⟨gm, cm, gb, cb, ⟨by first | (rw [hQL]; rfl) | (simp [hQL]; done), ?_, (bwRow_of hm hML).set (by dsimp only; omega), (boolRow_of hq hQL).set (by dsimp only; omega), ?_⟩⟩
      · rw [hML]
        exact Blk.setAt rfl HBR.out rfl
      · exact grownBy_set ⟨HBE.out.os, HBE.out.tape, HBE.out.output, HBE.out.size, fun i hi _ => HBE.out.block i hi⟩
end Go.Proofs.YtfdgijmmgllmgaaGreat
namespace Go.Proofs.YtfdgijmmgllmgaaGreat
open Go.ChangeShapes Go.WideShapes Go.ChangeAt Go.RowKit Go.Joins
set_option linter.unusedSimpArgs false
set_option linter.unusedVariables false
set_option maxRecDepth 100000
attribute [local go_sem] store_f
open Ieee Go.Lib
attribute [local go_sem] store_c
def cntQ (Qs : Nat → List Bool) : Nat → Nat → Nat
  | 0, _ => 0
  | j + 1, i => cntQ Qs j i + if (Qs j).getD i false then 1 else 0
theorem cntQ_le (Qs : Nat → List Bool) : ∀ j i, cntQ Qs j i ≤ j
  | 0, _ => Nat.le_refl _
  | j + 1, i => by
    have := cntQ_le Qs j i
    simp only [cntQ]
    split <;> omega
def IntsAt (W : World) (g N : Nat) (f : Nat → Nat) : Prop := ∃ cur, Blk W g cur 3 ∧ N ≤ cur.size ∧ ∀ i, i < N → cur[i]? = some (.int .i64 (f i : Nat))
theorem IntsAt.below {W w1 : World} {g N : Nat} {f : Nat → Nat} (h : IntsAt W g N f) (hb : Below W.heap.size W w1) : IntsAt w1 g N f := by
  obtain ⟨cur, h1, h2⟩ := h
  exact ⟨cur, h1.below hb, h2⟩
theorem IntsAt.grown {W w1 : World} {g N q : Nat} {f : Nat → Nat} (h : IntsAt W g N f) (hg : W.grownBy w1 (some q)) (hne : g ≠ q) : IntsAt w1 g N f := by
  obtain ⟨cur, h1, h2⟩ := h
  exact ⟨cur, h1.grown hg hne, h2⟩
theorem IntsAt.cell {W : World} {g N : Nat} {f : Nat → Nat} (h : IntsAt W g N f) {i : Nat} (hi : i < N) : W.cell? ⟨g, i, Option.none⟩ = some (.int .i64 (f i : Nat)) := by
  obtain ⟨cur, h1, _, h3⟩ := h
  exact (h1.cell i).trans (h3 i hi)
theorem IntsAt.free {W : World} {g N : Nat} {f : Nat → Nat} (h : IntsAt W g N f) (i : Nat) : W.frozen? ⟨g, i, Option.none⟩ = false := by
  obtain ⟨cur, h1, _⟩ := h
  exact h1.free i
theorem IntsAt.lt {W : World} {g N : Nat} {f : Nat → Nat} (h : IntsAt W g N f) : g < W.heap.size := by
  obtain ⟨cur, h1, _⟩ := h
  exact h1.lt
theorem IntsAt.set {W : World} {g N k v : Nat} {f f' : Nat → Nat} (h : IntsAt W g N f) (hf : ∀ i, i < N → f' i = if i = k then v else f i) : IntsAt (W.setCell ⟨g, k, Option.none⟩ (.int .i64 (v : Nat))) g N f' := by
  obtain ⟨cur, h1, h2, h3⟩ := h
  refine ⟨_, h1.set, by simpa using h2, fun i hi => ?_⟩
  rw [hf i hi, Array.getElem?_setIfInBounds]
  by_cases e : i = k
  · subst e
    rw [if_pos rfl, if_pos (by omega), if_pos rfl]
  · rw [if_neg (fun h => e h.symm), if_neg e, h3 i hi]
theorem IntsAt.congr {W : World} {g N : Nat} {f f' : Nat → Nat} (h : IntsAt W g N f) (hf : ∀ i, i < N → f' i = f i) : IntsAt W g N f' := by
  obtain ⟨cur, h1, h2, h3⟩ := h
  exact ⟨cur, h1, h2, fun i hi => by rw [hf i hi, h3 i hi]⟩
theorem infoInt : (Tryz.prog.info? 3).map (fun i => (i.zero, i.size, i.bytes)) = some (some (.int .i64 0), 1, 8) := by kernel_rfl
theorem makeI (n : Nat) (hn : n ≤ 1048576) (W : World) : (Instr.makeSlice 111 (.int .i64 (n : Int)) (.int .i64 (n : Int))).run Tryz.prog W = .ok (.slice (some ⟨W.heap.size, 0, Option.none⟩) n n) (W.alloc (.cells (madeCells #[.int .i64 0] n) 3)) := by
  obtain ⟨i0, hi, hz0, hz1, hz2⟩ := info_parts infoInt
  have h := run_make (P := Tryz.prog) (w := W) 111 3 i0 _ Tryz.underlying111 hi hz0 .i64 .i64 n n (by omega) (Int.le_refl _) (by rw [hz2]; omega) (by omega)
  rw [hz1, Int.toNat_natCast, Nat.mul_one] at h
  exact h
theorem ints_made (W : World) (n : Nat) (f : Nat → Nat) (hf : ∀ i, i < n → f i = 0) : IntsAt (W.alloc (.cells (madeCells #[.int .i64 0] n) 3)) W.heap.size n f := by
  refine ⟨_, Blk.new _ _ _, by rw [size_madeCells]; exact Nat.le_refl _, fun i hi => ?_⟩
  rw [hf i hi]
  have h : (madeCells #[.int .i64 0] n).toList[i]? = some (.int .i64 0) := by
    rw [toList_madeCells_one, List.getElem?_replicate, if_pos hi]
  simpa using h
structure Ticks (kind : Int) (g1 g2 ls n N : Nat) (S : Nat → List Bw) (Qs : Nat → List Bool) : Prop where
  tick : ∀ j, j < n → Tick kind g1 g2 ls (S j) (S (j + 1)) (Qs j)
  len : ∀ j, j ≤ n → (S j).length = N
  few : N ≤ 8
structure Counted (w : World) (e : Ending) (w' : World) (B : Nat) (kind : Int) (g1 g2 ls N : Nat) (M : List Bw) (C : Nat → Nat) (a : Option Addr) (cap gc : Nat) : Prop where
  ret : e = .returned (.tuple #[.slice (some ⟨gc, 0, Option.none⟩) N N, .bool true])
  blk : Blk w' B #[.int .i64 kind, .complex .f32 g1 g2, .float .f32 ls, .slice a N cap] 31
  row : BwIn w' a M
  ints : IntsAt w' gc N C
  grown : w.grownBy w' (some B)
theorem grown_of_grown {w w1 w2 : World} {r x : Nat} (h : w.grownBy w1 (some r)) (k : w1.grownBy w2 (some x)) (hx : w.heap.size ≤ x) : w.grownBy w2 (some r) :=
  ⟨k.os.trans h.os, k.tape.trans h.tape, k.output.trans h.output, Nat.le_trans h.size k.size, fun i hi hne => (k.block i (Nat.lt_of_lt_of_le hi h.size) (fun e => by cases e; omega)).trans (h.block i hi hne)⟩
structure TickedN (w : World) (e : Ending) (w' : World) (B : Nat) (kind : Int) (g1 g2 ls N : Nat) (M : List Bw) (Q : List Bool) (gm cm gb cb : Nat) : Prop where
  ret : e = .returned (.tuple #[.slice (some ⟨gb, 0, Option.none⟩) N cb, .bool true])
  blk : Blk w' B #[.int .i64 kind, .complex .f32 g1 g2, .float .f32 ls, .slice (some ⟨gm, 0, Option.none⟩) N cm] 31
  row : BwRow w' gm M
  bools : ∀ k, k < N → w'.cell? ⟨gb, k, Option.none⟩ = some (.bool (Q.getD k false))
  grown : w.grownBy w' (some B)
structure TickM (kind : Int) (g1 g2 ls N : Nat) (L M : List Bw) (Q : List Bool) : Prop where
  call : ∀ (w : World) (B cap : Nat) (a : Option Addr), Blk w B #[.int .i64 kind, .complex .f32 g1 g2, .float .f32 ls, .slice a N cap] 31 → BwIn w a L → Calls Tryz.prog 203 #[.pointer (some ⟨B, 0, Option.none⟩)] w fun e w' => ∃ gm cm gb cb, TickedN w e w' B kind g1 g2 ls N M Q gm cm gb cb
theorem tickM {kind : Int} {g1 g2 ls N : Nat} {L M : List Bw} {Q : List Bool} (T : Tick kind g1 g2 ls L M Q) (h : L.length = N) : TickM kind g1 g2 ls N L M Q := ⟨fun w B cap a hB hr => by
  subst h
  refine (tick_i T w hB hr).mono ?_
  rintro e w' ⟨gm, cm, gb, cb, K⟩
  have k1 := K.ret
  have k2 := K.blk
  rw [T.qlen] at k1
  rw [T.len] at k2
  exact ⟨gm, cm, gb, cb, ⟨k1, k2, K.row, fun k hk => K.bools k (by rw [T.qlen]; exact hk), K.grown⟩⟩⟩
set_option maxHeartbeats 32000000 in
theorem count_i {kind : Int} {g1 g2 ls n N : Nat} {S : Nat → List Bw} {Qs : Nat → List Bool} (T : Ticks kind g1 g2 ls n N S Qs) (hn : n ≤ 64) {B cap : Nat} {a : Option Addr} (w : World) (hB : Blk w B #[.int .i64 kind, .complex .f32 g1 g2, .float .f32 ls, .slice a N cap] 31) (hrow : BwIn w a (S 0)) :
    Calls Tryz.prog 202 #[.int .i64 N, .int .i64 n, .func (.func 203) #[.pointer (some ⟨B, 0, Option.none⟩)] #[]] w fun e w' => ∃ a' cap' gc, Counted w e w' B kind g1 g2 ls N (S n) (cntQ Qs n) a' cap' gc := by
  have hmk := fun W => makeI N (by have := T.few; omega) W
  have HT : Hid (∀ j, j < n → Tick kind g1 g2 ls (S j) (S (j + 1)) (Qs j)) := T.tick
  have HL : Hid (∀ j, j ≤ n → (S j).length = N) := T.len
  have hfew := T.few
  have HR : Hid (BwIn w a (S 0)) := hrow
  have HB : Hid (Blk w B #[.int .i64 kind, .complex .f32 g1 g2, .float .f32 ls, .slice a N cap] 31) := hB
  have hlt := hB.lt
  clear T hrow hB
  go_enter Tryz.func202, Tryz.ntmps202
  go_wp2_with fail
  clear hmk
  generalize hW : w.alloc (.cells (madeCells #[.int .i64 0] N) 3) = X
  have BX : Hid (Blk X B #[.int .i64 kind, .complex .f32 g1 g2, .float .f32 ls, .slice a N cap] 31) := by rw [← hW]; exact HB.out.alloc
  have RX : Hid (BwIn X a (S 0)) := by rw [← hW]; exact HR.out.alloc
  have IX : Hid (IntsAt X w.heap.size N (cntQ Qs 0)) := by rw [← hW]; exact ints_made _ _ _ (fun _ _ => rfl)
  have GX : Hid (w.grownBy X (some B)) := by rw [← hW]; exact grown_alloc (grownBy_refl _ _) _
  clear hW HR HB
  go_loopw [16] (fun i wr => ∃ j : Nat, j ≤ n ∧ i = .int .i64 j ∧ (∃ a' c', Blk wr B #[.int .i64 kind, .complex .f32 g1 g2, .float .f32 ls, .slice a' N c'] 31 ∧ BwIn wr a' (S j)) ∧ IntsAt wr w.heap.size N (cntQ Qs j) ∧ w.grownBy wr (some B))
    (fun i _ => n - (intOf i).toNat)
  case atStart => exact ⟨0, by omega, rfl, ⟨_, _, BX.out, RX.out⟩, IX.out, GX.out⟩
  case round =>
    obtain ⟨j, hjn, rfl, ⟨a1, c1, hb1, hr1⟩, hi1, hg1⟩ := hrel
    have HB1 : Hid (Blk wr B #[.int .i64 kind, .complex .f32 g1 g2, .float .f32 ls, .slice a1 N c1] 31) := hb1
    have HR1 : Hid (BwIn wr a1 (S j)) := hr1
    have HI1 : Hid (IntsAt wr w.heap.size N (cntQ Qs j)) := hi1
    have HG1 : Hid (w.grownBy wr (some B)) := hg1
    clear hb1 hr1 hi1 hg1 BX RX IX GX
    by_cases hlt2 : j < n
    · have TI := tickM (HT.out j hlt2) (HL.out j (by omega))
      have HC1 : Hid (∀ i, cntQ Qs (j + 1) i = cntQ Qs j i + if (Qs j).getD i false then 1 else 0) := fun i => rfl
      have HCL : Hid (∀ i, cntQ Qs j i ≤ j) := fun i => cntQ_le Qs j i
      generalize Qs j = q at TI HC1
      generalize hM : S (j + 1) = M at TI
      have HMM : Hid (S (j + 1) = M) := hM
      clear hM
      generalize hD : cntQ Qs (j + 1) = D at HC1
      have HD : Hid (cntQ Qs (j + 1) = D) := hD
      clear hD
      generalize hC : cntQ Qs j = C at HI1 HC1 HCL
      clear hC
      go_wp2_with fail
      refine (TI.call _ _ _ _ HB1.out HR1.out).mono ?_
      rintro e w2 ⟨gm, cm, gb, cb, ⟨rfl, hb2, hr2, hq2, hg2⟩⟩
      have HB2 : Hid (Blk w2 B #[.int .i64 kind, .complex .f32 g1 g2, .float .f32 ls, .slice (some ⟨gm, 0, Option.none⟩) N cm] 31) := hb2
      have HR2 : Hid (BwRow w2 gm M) := hr2
      have HQ2 : Hid (∀ k, k < N → w2.cell? ⟨gb, k, Option.none⟩ = some (.bool (q.getD k false))) := hq2
      have HI2 : Hid (IntsAt w2 w.heap.size N C) := HI1.out.grown hg2 (by omega)
      have HG2 : Hid (w.grownBy w2 (some B)) := grownBy_trans HG1.out hg2
      clear hb2 hr2 hq2 hg2 HB1 HR1 HI1 HG1 TI
      go_wp2_with fail
      go_loopw [28] (fun i wq => ∃ k : Nat, k ≤ N ∧ i = .int .i64 k ∧ IntsAt wq w.heap.size N (fun i => if i < k then D i else C i) ∧ w2.grownBy wq (some w.heap.size)) (fun i _ => N - (intOf i).toNat)
      case atStart => exact ⟨0, by omega, rfl, HI2.out.congr (fun i _ => by simp), grownBy_refl _ _⟩
      case round =>
        obtain ⟨k, hkN, rfl, hi3, hg3⟩ := hrel
        have HI3 : Hid (IntsAt wr w.heap.size N (fun i => if i < k then D i else C i)) := hi3
        have HG3 : Hid (w2.grownBy wr (some w.heap.size)) := hg3
        clear hi3 hg3
        by_cases hlt3 : k < N
        · have h1 := HI2.out.cell hlt3
          have h2 := HQ2.out k hlt3
          have hne : gb ≠ w.heap.size := fun e => by
            rw [e, h1] at h2
            cases h2
          have hl2 := cell_lt h2
          have cq : wr.cell? ⟨gb, k, Option.none⟩ = some (.bool (q.getD k false)) := (World.cell?_of_block (HG3.out.block gb hl2 (fun e => hne (Option.some.inj e)))).trans h2
          have ci := HI3.out.cell hlt3
          simp only [Nat.lt_irrefl, if_false] at ci
          have fi := HI3.out.free k
          have hcl := HCL.out k
          have hD := HC1.out k
          have hsz3 := HI3.out.lt
          have HDK : Hid (D k = C k + if q.getD k false then 1 else 0) := hD
          clear h1 h2 hl2 hD
          generalize hc : C k = c at ci hcl HDK
          have HCK : Hid (C k = c) := hc
          clear hc
          generalize q.getD k false = b at cq HDK
          cases b
          · go_wp2
            go_roundw
            case rel => exact ⟨k + 1, by omega, by go_num, HI3.out.congr (fun i _ => by
              have h1 := HDK.out
              have h2 := HCK.out
              by_cases e : i = k
              · subst e
                simp [h1, h2]
              · by_cases e2 : i < k
                · simp [e2, Nat.lt_succ_of_lt e2]
                · have e3 : ¬ i < k + 1 := by omega
                  simp [e2, e3]), HG3.out⟩
            case measure => simp [intOf]; omega
          · go_wp2
            go_roundw
            case rel => exact ⟨k + 1, by omega, by go_num, (by
              have h := HI3.out.set (k := k) (v := c + 1) (f' := fun i => if i < k + 1 then D i else C i) (fun i _ => by
                have h1 := HDK.out
                have h2 := HCK.out
                by_cases e : i = k
                · subst e
                  simp [h1]
                · by_cases e2 : i < k
                  · simp [e, e2, Nat.lt_succ_of_lt e2]
                  · have e3 : ¬ i < k + 1 := by omega
                    simp [e, e2, e3])
              simpa using h), grownBy_set HG3.out⟩
            case measure => simp [intOf]; omega
        · have hkm : k = N := by omega
          subst hkm
          have HB4 : Hid (Blk wr B #[.int .i64 kind, .complex .f32 g1 g2, .float .f32 ls, .slice (some ⟨gm, 0, Option.none⟩) k cm] 31) := HB2.out.grown HG3.out (by omega)
          have HR4 : Hid (BwRow wr gm M) := by
            intro i hi
            have h1 := HR2.out i hi
            have hne : gm ≠ w.heap.size := fun e => by
              have hk0 : 0 < k := by
                have := HL.out (j + 1) (by omega)
                rw [HMM.out] at this
                omega
              have h3 := HI2.out.cell hk0
              have h4 := (HR2.out 0 (by omega)).1
              rw [Nat.zero_mul, e, h3] at h4
              cases h4
            have hl := cell_lt h1.1
            have e : ∀ o, wr.cell? ⟨gm, o, Option.none⟩ = w2.cell? ⟨gm, o, Option.none⟩ := fun o => World.cell?_of_block (HG3.out.block gm hl (fun e => hne (Option.some.inj e)))
            rw [e, e]
            exact h1
          have HI4 : Hid (IntsAt wr w.heap.size k (cntQ Qs (j + 1))) := by
            show IntsAt _ _ _ _
            rw [HD.out]
            exact HI3.out.congr (fun i hi => by rw [if_pos hi])
          have HG4 : Hid (w.grownBy wr (some B)) := grown_of_grown HG2.out HG3.out (Nat.le_refl _)
          go_wp2
          go_roundw
          case rel => exact ⟨j + 1, by omega, by go_num, ⟨_, _, HB4.out, by rw [HMM.out]; exact .inr ⟨gm, rfl, HR4.out⟩⟩, HI4.out, HG4.out⟩
          case measure => simp [intOf]; omega
    · have hjm : j = n := by omega
      subst hjm
      have HLN : Hid ((S j).length = N) := HL.out j (Nat.le_refl _)
      go_wp2
      go_ret2
      exact ⟨a1, c1, w.heap.size, ⟨rfl, HB1.out, HR1.out, HI1.out, HG1.out⟩⟩
end Go.Proofs.YtfdgijmmgllmgaaGreat
