/-
  Texts Vc Qi Qir Shelfj Sj Sk Sl, joined.
-/
import Derived.Test.YtfdgijmmgllmgaaGreatDoorS20
import Derived.Test.YtfdgijmmgllmgaaGreatDoorS38
import Derived.Test.YtfdgijmmgllmgaaGreatDoorS36
import Derived.Shelf.Strings.OnBuilder
import Derived.Test.YtfdgijmmgllmgaaGreatDoorProg
import Derived.Test.YtfdgijmmgllmgaaGreatDoorS01
import Derived.Test.YtfdgijmmgllmgaaGreatDoorS10
import Derived.Maps.AppendAt
import Derived.OwnWalk
import Derived.Lib.Hide
namespace Go.Proofs.YtfdgijmmgllmgaaGreatDoor
open Go.ChangeShapes Go.WideShapes Go.ChangeAt Go.RowKit Go.Joins
set_option linter.unusedSimpArgs false
set_option linter.unusedVariables false
set_option maxRecDepth 100000
attribute [local go_sem] store_f
open Ieee
noncomputable def foldP {kind : Int} (h0 : 0 ≤ kind) (h3 : kind ≤ 3) (p : PtW) : PtW := Classical.choose (fold_of h0 h3 p)
theorem foldP_in {kind : Int} (h0 : 0 ≤ kind) (h3 : kind ≤ 3) (p : PtW) : ∃ s ∈ symsTo kind 8, foldP h0 h3 p = actP s p ∧ wed kind (foldP h0 h3 p) = true := (Classical.choose_spec (fold_of h0 h3 p)).1
theorem foldP_call {kind : Int} (h0 : 0 ≤ kind) (h3 : kind ≤ 3) (p : PtW) : ∃ t f, FoldM kind p.1.1 p.1.2 (foldP h0 h3 p).1.1 (foldP h0 h3 p).1.2 t f := (Classical.choose_spec (fold_of h0 h3 p)).2
theorem foldP_img {kind : Int} (h0 : 0 ≤ kind) (h3 : kind ≤ 3) (p : PtW) {s : Int × Bool} (hs : s ∈ symsTo kind 8) : foldP h0 h3 (actP s p) = foldP h0 h3 p :=
  fold_img h0 h3 hs (foldP_in h0 h3 p) (foldP_in h0 h3 (actP s p))
theorem same_act {kind : Int} (h0 : 0 ≤ kind) (h3 : kind ≤ 3) {n : Nat} (h8 : n ≤ 8) {col : Nat → Lit} (h : ∀ k, k < n * n → ∀ s ∈ symsTo kind 8, col (cellN n s.1.toNat s.2 k) = col k) {s : Int × Bool} (hs : s ∈ symsTo kind 8) : actL n s (colsTo col (n * n)) = colsTo col (n * n) := by
  obtain ⟨t, ht, h4⟩ := symsTo_in kind s hs
  have hb := syms_back kind h0 h3 s hs
  obtain ⟨s1, f⟩ := s
  simp only [] at ht hb
  subst ht
  have hJ := back_in ⟨t, h4⟩ f
  dsimp only at hJ
  have hc := fun k hk => h k hk _ hb
  simp only [] at hc
  apply list_ext (by rw [actL_len, colsTo_len])
  intro k hk
  rw [actL_len] at hk
  rw [show actL n ((t : Int), f) (colsTo col (n * n)) = actCols n t f (colsTo col (n * n)) from rfl, act_get hk, colsTo_get (cell_lt' h8 hk hJ.2), colsTo_get hk]
  exact hc k hk
theorem foldMin_mem (n k : Nat) (L : List (Int × Bool)) : ∀ m, L.foldl (fun m p => min m (cellN n p.1.toNat p.2 k)) m = m ∨ ∃ s ∈ L, L.foldl (fun m p => min m (cellN n p.1.toNat p.2 k)) m = cellN n s.1.toNat s.2 k := by
  induction L with
  | nil => intro m; exact .inl rfl
  | cons a L ih =>
    intro m
    rw [List.foldl_cons]
    rcases ih (min m (cellN n a.1.toNat a.2 k)) with h | ⟨s, hs, h⟩
    · rw [h]
      rcases Nat.le_total m (cellN n a.1.toNat a.2 k) with g | g
      · left; exact Nat.min_eq_left g
      · right; exact ⟨a, List.mem_cons_self, Nat.min_eq_right g⟩
    · exact .inr ⟨s, List.mem_cons_of_mem _ hs, h⟩
theorem leastN_mem (kind : Int) (n k : Nat) : leastN kind n k = k ∨ ∃ s ∈ symsTo kind 8, leastN kind n k = cellN n s.1.toNat s.2 k := foldMin_mem n k _ k
theorem same_spread {kind : Int} {n : Nat} {col : Nat → Lit} (h : ∀ k, k < n * n → ∀ s ∈ symsTo kind 8, col (cellN n s.1.toNat s.2 k) = col k) : spreadCols kind n (colsTo col (n * n)) = colsTo col (n * n) := by
  apply list_ext (by unfold spreadCols; rw [colsTo_len, colsTo_len])
  intro k hk
  unfold spreadCols at hk ⊢
  rw [colsTo_len] at hk
  rw [colsTo_get hk, colsTo_get hk, colsTo_get (show leastN kind n k < n * n from Nat.lt_of_le_of_lt (leastL_le n k (symsTo kind 8)) hk)]
  rcases leastN_mem kind n k with e | ⟨s, hs, e⟩
  · rw [e]
  · rw [e]; exact h k hk s hs
noncomputable def colT {kind : Int} (h0 : 0 ≤ kind) (h3 : kind ≤ 3) {i n : Nat} (hi : i < 5) (h1 : 1 ≤ n) (h8 : n ≤ 8) (l : List Shd) (c : Lit) (k : Nat) : Lit :=
  if hk : k < n * n then lightOf (foldP h0 h3 (zOf i n k hi h1 h8 hk)).1.1 (foldP h0 h3 (zOf i n k hi h1 h8 hk)).1.2 l c else default
section
variable {kind : Int} (h0 : 0 ≤ kind) (h3 : kind ≤ 3) {i n : Nat} (hi : i < 5) (h1 : 1 ≤ n) (h8 : n ≤ 8) (l : List Shd) (c : Lit)
theorem colT_at {k : Nat} (hk : k < n * n) : colT h0 h3 hi h1 h8 l c k = lightOf (foldP h0 h3 (zOf i n k hi h1 h8 hk)).1.1 (foldP h0 h3 (zOf i n k hi h1 h8 hk)).1.2 l c := by
  unfold colT; rw [dif_pos hk]
theorem colT_act {k : Nat} (hk : k < n * n) {s : Int × Bool} (hs : s ∈ symsTo kind 8) : colT h0 h3 hi h1 h8 l c (cellN n s.1.toNat s.2 k) = colT h0 h3 hi h1 h8 l c k := by
  obtain ⟨t, ht, h4⟩ := symsTo_in kind s hs
  obtain ⟨s1, f⟩ := s
  simp only [] at ht
  subst ht
  have e : ((t : Int)).toNat = t := rfl
  simp only [e]
  rw [colT_at h0 h3 hi h1 h8 l c (cell_lt' h8 hk h4), colT_at h0 h3 hi h1 h8 l c hk, ← zOf_act hi h1 h8 hk h4, foldP_img h0 h3 _ hs]
theorem colT_ok (hl : ∀ s ∈ l, s.Ok) (hc : c.Ok) {k : Nat} (hk : k < n * n) : (colT h0 h3 hi h1 h8 l c k).Ok := by
  rw [colT_at h0 h3 hi h1 h8 l c hk]
  exact lightOf_ok l hl hc
noncomputable def takeCols : List Lit := colsTo (colT h0 h3 hi h1 h8 l c) (n * n)
theorem take_len : (takeCols h0 h3 hi h1 h8 l c).length = n * n := by unfold takeCols; rw [colsTo_len]
theorem take_oks (hl : ∀ s ∈ l, s.Ok) (hc : c.Ok) : Oks (takeCols h0 h3 hi h1 h8 l c) := by
  intro d hd
  unfold takeCols colsTo at hd
  obtain ⟨k, hk, rfl⟩ := List.mem_map.1 hd
  exact colT_ok h0 h3 hi h1 h8 l c hl hc (List.mem_range.1 hk)
theorem take_act {s : Int × Bool} (hs : s ∈ symsTo kind 8) : actL n s (takeCols h0 h3 hi h1 h8 l c) = takeCols h0 h3 hi h1 h8 l c :=
  same_act h0 h3 h8 (fun k hk s hs => colT_act h0 h3 hi h1 h8 l c hk hs) hs
theorem take_spread : spreadCols kind n (takeCols h0 h3 hi h1 h8 l c) = takeCols h0 h3 hi h1 h8 l c :=
  same_spread fun k hk s hs => colT_act h0 h3 hi h1 h8 l c hk hs
theorem take_syms (hl : ∀ s ∈ l, s.Ok) (hc : c.Ok) {s : Int × Bool} (hs : s ∈ symsTo kind 8) (hs8 : s ∈ symsTo 3 8) : s ∈ picSyms n (takeCols h0 h3 hi h1 h8 l c) :=
  (picSyms_iff h8 (take_len h0 h3 hi h1 h8 l c) (take_oks h0 h3 hi h1 h8 l c hl hc)).2 ⟨hs8, take_act h0 h3 hi h1 h8 l c hs⟩
end
theorem syms_all {kind : Int} (h0 : 0 ≤ kind) (h3 : kind ≤ 3) : ∀ s ∈ symsTo kind 8, s ∈ symsTo 3 8 := by
  rcases (by omega : kind = 0 ∨ kind = 1 ∨ kind = 2 ∨ kind = 3) with rfl | rfl | rfl | rfl <;> decide +kernel
theorem takes {kind : Int} (h0 : 0 ≤ kind) (h3 : kind ≤ 3) {i n : Nat} (hi : i < 5) (h1 : 1 ≤ n) (h8 : n ≤ 8) {g lc : Nat} {l : List Shd} {c : Lit} (hlen : l.length ≤ 12) (hok : ∀ s ∈ l, s.Ok) (hc : c.Ok) :
    TakeM kind g lc l n (stepB i) c (takeCols h0 h3 hi h1 h8 l c) :=
  takeM (by unfold kindB; simp; omega) h1 h8 hlen hok hc (stepIs hi) fun k hk => by
    obtain ⟨a, b⟩ := pl_bd h1 hk
    obtain ⟨t, f, F⟩ := foldP_call h0 h3 (zOf i n k hi h1 h8 hk)
    have q := (foldP h0 h3 (zOf i n k hi h1 h8 hk)).2
    refine ⟨_, _, foldCell (cellPl_yes h1 h8 hk) (joinM (prodM hi (by omega) (by omega)) (prodM hi (by omega) (by omega))) F, ?_⟩
    rw [colT_at h0 h3 hi h1 h8 l c hk]
    exact seenIsD hlen hok hc (ok_in q.1.ok) (ok_in q.2.ok)
end Go.Proofs.YtfdgijmmgllmgaaGreatDoor
namespace Go.Proofs.YtfdgijmmgllmgaaGreatDoor
open Go.ChangeShapes Go.WideShapes Go.ChangeAt Go.RowKit Go.Joins
set_option linter.unusedSimpArgs false
set_option linter.unusedVariables false
set_option maxRecDepth 100000
attribute [local go_sem] store_f
open Ieee Go.Lib
attribute [local go_sem] store_c
theorem joinA_of {a1 a2 b1 b2 x y : Nat} (X : Op2 88 a1 b1 x) (Y : Op2 88 a2 b2 y) : Join 88 a1 a2 b1 b2 x y := ⟨fun w => by
  go_enter Tryz.func84, Tryz.ntmps84
  go_wp2_with (go_at_call 88; (first | (with_reducible refine (X.call _).mono ?_) | (with_reducible refine (Y.call _).mono ?_)); rintro e w1 ⟨rfl, rfl⟩)
  go_ret
  exact ⟨rfl, rfl⟩⟩
theorem movesTo {s : Shd} {z1 z2 : Nat} (hs : s.Ok) (h1 : Rch z1) (h2 : Rch z2) :
    MovesTo s z1 z2 (s.put (clT (valOf F32 s.a1 + valOf F32 z1)) (clT (valOf F32 s.a2 + valOf F32 z2)) (clT (valOf F32 s.b1 + valOf F32 z1)) (clT (valOf F32 s.b2 + valOf F32 z2)) (clT (valOf F32 s.c1 + valOf F32 z1)) (clT (valOf F32 s.c2 + valOf F32 z2))) := ⟨fun q W hc =>
  with_move (clo_move (joinA_of (sum2 hs.a1.fin h1.fin) (sum2 hs.a2.fin h2.fin)) hc) (clo_move (joinA_of (sum2 hs.b1.fin h1.fin) (sum2 hs.b2.fin h2.fin)) hc) (clo_move (joinA_of (sum2 hs.c1.fin h1.fin) (sum2 hs.c2.fin h2.fin)) hc)⟩
theorem put_ok {s : Shd} (hs : s.Ok) {x1 x2 y1 y2 z1 z2 : Nat} (l1 : x1 < 4294967296) (l2 : x2 < 4294967296) (l3 : y1 < 4294967296) (l4 : y2 < 4294967296) (l5 : z1 < 4294967296) (l6 : z2 < 4294967296) (h : shardB (s.put x1 x2 y1 y2 z1 z2) = true) : (s.put x1 x2 y1 y2 z1 z2).Ok := by
  unfold shardB ptB at h
  simp only [Bool.and_eq_true] at h
  obtain ⟨⟨⟨⟨⟨a1, a2⟩, b1, b2⟩, c1, c2⟩, _⟩, _⟩ := h
  exact ⟨⟨l1, a1⟩, ⟨l2, a2⟩, ⟨l3, b1⟩, ⟨l4, b2⟩, ⟨l5, c1⟩, ⟨l6, c2⟩, hs.r, hs.g, hs.b, hs.k⟩
structure MoveOk (s : Shd) (z1 z2 : Nat) (t : Shd) (p : Bool) : Prop where
  is : MoveIs s z1 z2 t p
  ok : p = true → t.Ok
theorem move_put {s : Shd} {z1 z2 x1 x2 y1 y2 u1 u2 : Nat} (hs : s.Ok) (h1 : Rch z1) (h2 : Rch z2) (l1 : x1 < 4294967296) (l2 : x2 < 4294967296) (l3 : y1 < 4294967296) (l4 : y2 < 4294967296) (l5 : u1 < 4294967296) (l6 : u2 < 4294967296) (M : MovesTo s z1 z2 (s.put x1 x2 y1 y2 u1 u2)) : ∃ t p, MoveOk s z1 z2 t p := by
  cases hp : shardB (s.put x1 x2 y1 y2 u1 u2)
  · exact ⟨s, false, move_no (shdYesM hs.yes) (ptYes h1.inb h2.inb) M (shdNoM hp), fun h => (nomatch h)⟩
  · exact ⟨_, true, move_yes (shdYesM hs.yes) (ptYes h1.inb h2.inb) M (shdYesM hp), fun _ => put_ok hs l1 l2 l3 l4 l5 l6 hp⟩
theorem moveOk {s : Shd} {z1 z2 : Nat} (hs : s.Ok) (h1 : Rch z1) (h2 : Rch z2) : ∃ t p, MoveOk s z1 z2 t p :=
  move_put hs h1 h2 (clT_cl _).lt (clT_cl _).lt (clT_cl _).lt (clT_cl _).lt (clT_cl _).lt (clT_cl _).lt (movesTo hs h1 h2)
structure SeenM (s : Sho) (N M K n : Nat) (m : List Lit) : Prop where
  call : ∀ (w : World) (a b l : Option Addr) (ca cb cl : Nat), ShoIn w s a b l → Calls Tryz.prog 6 #[.agg #[.int .i64 s.size, .float .f32 s.step, .float .f32 s.lit.r, .float .f32 s.lit.g, .float .f32 s.lit.b, .slice a N ca, .int .i64 s.kind, .complex .f32 s.g1 s.g2, .float .f32 0, .slice b M cb, .int .i64 s.ticks, .slice l K cl]] w fun r w' => ∃ g cp, (r = .returned (.tuple #[.agg #[.int .i64 n, .slice (some ⟨g, 0, Option.none⟩) m.length cp], .bool true]) ∧ LitRow w' g 0 m) ∧ Below w.heap.size w w'
set_option maxHeartbeats 32000000 in
theorem seenM {s : Sho} {N M K n : Nat} {L : List Shd} {m : List Lit} (S : ShIs 16 s N M K true) (MV : MovedM s N M K L) (TK : ∀ g lc, TakeM s.kind g lc L n s.step s.lit m) (hn : s.size = n) : SeenM s N M K n m := ⟨fun w a b l ca cb cl hr => by
  have HR := Lib.hid hr
  have HTK : Hid (∀ (w : World) (g lc : Nat), ShRow w g 0 L → g < w.heap.size → Calls Tryz.prog 17 #[.int .i64 s.kind, .slice (some ⟨g, 0, Option.none⟩) L.length lc, .int .i64 s.size, .float .f32 s.step, .agg #[.float .f32 s.lit.r, .float .f32 s.lit.g, .float .f32 s.lit.b]] w fun e w' => (∃ g cp, PicMade2 w.heap.size e w' n m g cp) ∧ Below w.heap.size w w') := fun w g lc h1 h2 => by rw [hn]; exact (TK g lc).call w h1 h2
  have HN := Lib.hid hn
  clear hr TK hn
  go_enter Tryz.func6, Tryz.ntmps6
  go_wp2_with fail
  generalize hX : (w.alloc (.cells #[.int .i64 s.size, .float .f32 s.step, .float .f32 s.lit.r, .float .f32 s.lit.g, .float .f32 s.lit.b, .slice a N ca, .int .i64 s.kind, .complex .f32 s.g1 s.g2, .float .f32 0, .slice b M cb, .int .i64 s.ticks, .slice l K cl] 34)).alloc (.cells #[.int .i64 0, .slice Option.none 0 0] 43) = X
  have M0 : Hid (Blk X w.heap.size #[.int .i64 s.size, .float .f32 s.step, .float .f32 s.lit.r, .float .f32 s.lit.g, .float .f32 s.lit.b, .slice a N ca, .int .i64 s.kind, .complex .f32 s.g1 s.g2, .float .f32 0, .slice b M cb, .int .i64 s.ticks, .slice l K cl] 34) := by rw [← hX]; exact (Blk.new _ _ _).alloc
  have P0 : Hid (Blk X (w.heap.size + 1) #[.int .i64 0, .slice Option.none 0 0] 43) := by rw [← hX]; exact Blk.newAt (by simp)
  have I0 : Hid (ShoIn X s a b l) := by rw [← hX]; exact HR.out.alloc.alloc
  have G0 : Hid (Below w.heap.size w X) := by rw [← hX]; show Below w.heap.size w _; (repeat' (first | (with_reducible exact Below.refl _ _) | (with_reducible assumption) | (with_reducible refine Below.alloc ?_ ?_ _) | (with_reducible refine Below.drew ?_) | (with_reducible refine Below.setCell ?_ ?_ _) | (with_reducible refine Below.trans ?_ (Below.mono (by assumption) ?_)) | (with_reducible exact Nat.le_refl _) | omega | (simp only [World.size_alloc, World.size_setCell, World.size_drew]; omega) | (simp; omega) | (simp; done)))
  clear hX
  refine (S.call _ _ _ _ _ _ _ I0.out).mono ?_
  rintro r w1 ⟨rfl, hb⟩
  have M1 := Lib.hid (M0.out.below hb)
  have P1 := Lib.hid (P0.out.below hb)
  have I1 := Lib.hid (I0.out.below hb)
  have G1 : Hid (Below w.heap.size w w1) := G0.out.trans (hb.mono G0.out.size)
  clear hb M0 P0 I0 G0 S
  go_upto_region 3 with fail
  (obtain ⟨p0, p1, p2, p3, p4, p5, p6, p7, p8, p9, p10, p11⟩ := blk12 (M1.out))
  have lm := M1.out.lt
  have lp := P1.out.lt
  have hBX : Below w.heap.size w w1 := G1.out
  have hzX := Nat.le_refl w1.heap.size
  have hzw := G1.out.size
  go_region_held3 (fun wx => Below w.heap.size w wx ∧ w1.heap.size ≤ wx.heap.size ∧ w.heap.size < wx.heap.size ∧ w.heap.size + 1 < wx.heap.size ∧ wx.cell? ⟨w.heap.size, 0, Option.none⟩ = some (.int .i64 s.size) ∧ wx.cell? ⟨w.heap.size, 1, Option.none⟩ = some (.float .f32 s.step) ∧ wx.cell? ⟨w.heap.size, 2, Option.none⟩ = some (.float .f32 s.lit.r) ∧ wx.cell? ⟨w.heap.size, 3, Option.none⟩ = some (.float .f32 s.lit.g) ∧ wx.cell? ⟨w.heap.size, 4, Option.none⟩ = some (.float .f32 s.lit.b) ∧ wx.cell? ⟨w.heap.size, 5, Option.none⟩ = some (.slice a N ca) ∧ wx.cell? ⟨w.heap.size, 6, Option.none⟩ = some (.int .i64 s.kind) ∧ wx.cell? ⟨w.heap.size, 7, Option.none⟩ = some (.complex .f32 s.g1 s.g2) ∧ wx.cell? ⟨w.heap.size, 8, Option.none⟩ = some (.float .f32 0) ∧ wx.cell? ⟨w.heap.size, 9, Option.none⟩ = some (.slice b M cb) ∧ wx.cell? ⟨w.heap.size, 10, Option.none⟩ = some (.int .i64 s.ticks) ∧ wx.cell? ⟨w.heap.size, 11, Option.none⟩ = some (.slice l K cl))
    (((repeat' apply And.intro) <;> first | (with_reducible assumption) | (((repeat (first | (with_reducible assumption) | (with_reducible exact cNewAt (by first | rfl | (simp only [World.size_alloc, World.size_setCell, World.size_drew]; done) | omega) rfl) | (with_reducible exact sNewAt (by first | rfl | (simp only [World.size_alloc, World.size_setCell, World.size_drew]; done) | omega) rfl) | (simp; done) | (with_reducible apply cAlloc) | (with_reducible apply cDrew) | (with_reducible refine cSet (by dsimp only; omega) ?_) | (with_reducible refine cSetOff (by dsimp only; omega) ?_) | (with_reducible apply cSame) | (with_reducible refine cBelow (by assumption) ?_) | (with_reducible apply sAlloc) | (with_reducible apply sDrew) | (with_reducible refine sBelow (by assumption) ?_) | (with_reducible refine sSet (by dsimp only; omega) ?_))); first | done | (simp [*]; done)); done) | (simp only [World.size_alloc, World.size_setCell, World.size_drew]; omega) | omega | (go_keep; done) | ((repeat' (first | (with_reducible exact Below.refl _ _) | (with_reducible assumption) | (with_reducible refine Below.alloc ?_ ?_ _) | (with_reducible refine Below.drew ?_) | (with_reducible refine Below.setCell ?_ ?_ _) | (with_reducible refine Below.trans ?_ (Below.mono (by assumption) ?_)) | (with_reducible exact Nat.le_refl _) | omega | (simp only [World.size_alloc, World.size_setCell, World.size_drew]; omega) | (simp; omega) | (simp; done))); done)))
    (first | (go_at_call 18; (with_reducible refine (MV.call _ _ _ _ _ _ _ ?_).mono ?_); (next => exact ShoIn.below HR.out (And.left (by assumption))); rintro r w4 ⟨gm, cm, ⟨rfl, hrow, hgm⟩, hb⟩; have hbs := hb.size; (try simp only [World.size_alloc, World.size_drew] at hbs); have HROW := Lib.hid hrow; have HB4 : Hid (Below w1.heap.size w1 w4) := ((Below.refl _ _).drew).trans hb; clear hrow) | (go_at_call 17; (with_reducible refine (HTK.out _ _ _ HROW.out hgm).mono ?_); rintro r w5 ⟨⟨g5, c5, ⟨rfl, hown⟩⟩, hb⟩; have hbs5 := hb.size; have hb5 : Below w1.heap.size w1 w5 := HB4.out.trans (hb.mono (by omega)); have HB5 := Lib.hid hb5; have hbw : Below w.heap.size w w5 := G1.out.trans (hb5.mono (by omega)); have HL5 : Hid (LitRow w5 g5 0 m) := litRow_of hown rfl; have hne : w.heap.size + 1 ≠ g5 := (by have h1 : w4.heap.size ≤ g5 := (hown.lt _ rfl).1; omega); have hM5 := M1.out.below hb5; (obtain ⟨u0, u1, u2, u3, u4, u5, u6, u7, u8, u9, u10, u11⟩ := blk12 (hM5)); clear hM5; have hP5 := P1.out.below hb5; have y0 := Blk.cellAt (i := 0) hP5 rfl; have y1 := Blk.cellAt (i := 1) hP5 rfl; simp only [List.getElem_toArray, List.getElem_cons_zero, List.getElem_cons_succ] at y0 y1; have z0 := hP5.free 0; have z1 := hP5.free 1; have zl := hP5.lt; clear hown))
  rename_i hHeld
  clear hHeld
  have hP6 := Lib.hid hP5
  clear hP5
  go_wp2_with fail
  have RS := (hP6.out.set (i := 0) (v := .int .i64 n)).set (i := 1) (v := .slice (some ⟨g5, 0, Option.none⟩) m.length c5)
  simp only [List.setIfInBounds_toArray, List.set_cons_zero, List.set_cons_succ] at RS
  have e0 := RS.cell 0
  have e1 := RS.cell 1
  simp only [List.getElem?_toArray, List.getElem?_cons_zero, List.getElem?_cons_succ] at e0 e1
  have B5 : Below w.heap.size w w5 := G1.out.trans (HB5.out.mono G1.out.size)
  refine bodyPost_ret (v := .tuple #[.agg #[.int .i64 n, .slice (some ⟨g5, 0, Option.none⟩) m.length c5], .bool true]) (by simp [results, Tryz.results6, go_sem, e0, e1]) rfl ⟨g5, c5, ⟨rfl, (HL5.out.set (by dsimp only; omega)).set (by dsimp only; omega)⟩, (B5.setCell (by dsimp only; omega) _).setCell (by dsimp only; omega) _⟩⟩
structure Pic (kind : Int) (n : Nat) (m : List Lit) : Prop where
  len : m.length = n * n
  oks : Oks m
  pic : picB n m = true
  spr : spreadCols kind n m = m
  sym : ∀ s ∈ symsTo kind 8, s ∈ picSyms n m
theorem Good.seen {S : Shw} (G : Good S) : ∃ m, Pic S.kind S.size m ∧ ∀ T : Shw, Good T → T.size = S.size → T.step = S.step → T.lit = S.lit → T.shs = S.shs → T.kind = S.kind → T.bds = S.bds → SeenM T.w T.bds.length T.bds.length T.log.length S.size m := by
  have FN := G.fine
  have k3 := FN.kin
  obtain ⟨i, hi, hst⟩ := FN.st
  have h0 : (0 : Int) ≤ (S.kind : Int) := by omega
  have h3 : (S.kind : Int) ≤ 3 := by omega
  have h1 := FN.s1
  have h8 : S.size ≤ 8 := by have := FN.s5; omega
  have HX : ∀ j : Nat, ∃ tp : Shd × Bool, j < S.bds.length → MoveOk (S.shs.getD j default) (S.bds.getD j default).1.1.1 (S.bds.getD j default).1.1.2 tp.1 tp.2 := fun j => by
    by_cases hj : j < S.bds.length
    · obtain ⟨t, p, h⟩ := moveOk ((FN.shs _ (getD_mem (by rw [FN.len]; exact hj))).ok) (ok_rch (S.bds.getD j default).1.2.1.ok) (ok_rch (S.bds.getD j default).1.2.2.ok)
      exact ⟨(t, p), fun _ => h⟩
    · exact ⟨default, fun h => absurd h hj⟩
  obtain ⟨F, HF⟩ := Classical.axiomOfChoice HX
  have hok := movL_ok (F := F) (n := S.bds.length) (fun j hj hp => (HF j hj).ok hp) S.bds.length (Nat.le_refl _)
  have hle := movL_len F S.bds.length
  have few := FN.few
  have hml := take_len h0 h3 hi h1 h8 (movL F S.bds.length) S.lit
  have hmo := take_oks h0 h3 hi h1 h8 (movL F S.bds.length) S.lit hok FN.lit
  refine ⟨takeCols h0 h3 hi h1 h8 (movL F S.bds.length) S.lit, ⟨hml, hmo, picB_ok h1 h8 hml hmo, take_spread h0 h3 hi h1 h8 _ _, fun x hx => take_syms h0 h3 hi h1 h8 _ _ hok FN.lit hx (syms_all h0 h3 x hx)⟩, fun T GT e1 e2 e3 e4 e5 e6 => ?_⟩
  have hN : T.w.shs.length = T.bds.length := GT.fine.len
  have hM : T.w.bds.length = T.bds.length := by simp [Shw.w]
  have MV := movedM (s := T.w) (K := T.log.length) (F := F) hN hM rfl GT.fine.few fun j hj => by
    have h := (HF j (by rw [← e6]; exact hj)).is
    show MoveIs (T.shs.getD j default) ((T.bds.map wd).getD j default).a1 ((T.bds.map wd).getD j default).a2 _ _
    rw [getD_map wd _ hj, e4, e6]
    exact h
  refine seenM GT.is MV (fun g lc => ?_) (by show (T.size : Int) = _; rw [e1])
  show TakeM (T.kind : Int) g lc (movL F T.bds.length) S.size T.step T.lit _
  rw [e5, e6, e2, e3, hst]
  exact takes h0 h3 hi h1 h8 (by omega) hok FN.lit
end Go.Proofs.YtfdgijmmgllmgaaGreatDoor
namespace Go.Proofs.YtfdgijmmgllmgaaGreatDoor
open Go.ChangeShapes Go.WideShapes Go.ChangeAt Go.RowKit Go.Joins
set_option linter.unusedSimpArgs false
set_option linter.unusedVariables false
set_option maxRecDepth 100000
attribute [local go_sem] store_f
open Ieee Go.Lib
attribute [local go_sem] store_c
structure SeenR (s : Sho) (N M K n : Nat) (m : List Lit) : Prop where
  call : ∀ (w : World) (a b l : Option Addr) (ca cb cl : Nat), ShoIn w s a b l → Calls Tryz.prog 6 #[.agg #[.int .i64 s.size, .float .f32 s.step, .float .f32 s.lit.r, .float .f32 s.lit.g, .float .f32 s.lit.b, .slice a N ca, .int .i64 s.kind, .complex .f32 s.g1 s.g2, .float .f32 0, .slice b M cb, .int .i64 s.ticks, .slice l K cl]] w fun r w' => ∃ g cp, (r = .returned (.tuple #[.agg #[.int .i64 n, .slice (some ⟨g, 0, Option.none⟩) m.length cp], .bool true]) ∧ LitRow w' g 0 m ∧ m.length ≤ cp) ∧ Below w.heap.size w w'
set_option maxHeartbeats 32000000 in
theorem seenRm {s : Sho} {N M K n : Nat} {L : List Shd} {m : List Lit} (S : ShIs 16 s N M K true) (MV : MovedM s N M K L) (TK : ∀ g lc, TakeM s.kind g lc L n s.step s.lit m) (hn : s.size = n) : SeenR s N M K n m := ⟨fun w a b l ca cb cl hr => by
  have HR := Lib.hid hr
  have HTK : Hid (∀ (w : World) (g lc : Nat), ShRow w g 0 L → g < w.heap.size → Calls Tryz.prog 17 #[.int .i64 s.kind, .slice (some ⟨g, 0, Option.none⟩) L.length lc, .int .i64 s.size, .float .f32 s.step, .agg #[.float .f32 s.lit.r, .float .f32 s.lit.g, .float .f32 s.lit.b]] w fun e w' => (∃ g cp, PicMade2 w.heap.size e w' n m g cp) ∧ Below w.heap.size w w') := fun w g lc h1 h2 => by rw [hn]; exact (TK g lc).call w h1 h2
  have HN := Lib.hid hn
  clear hr TK hn
  go_enter Tryz.func6, Tryz.ntmps6
  go_wp2_with fail
  generalize hX : (w.alloc (.cells #[.int .i64 s.size, .float .f32 s.step, .float .f32 s.lit.r, .float .f32 s.lit.g, .float .f32 s.lit.b, .slice a N ca, .int .i64 s.kind, .complex .f32 s.g1 s.g2, .float .f32 0, .slice b M cb, .int .i64 s.ticks, .slice l K cl] 34)).alloc (.cells #[.int .i64 0, .slice Option.none 0 0] 43) = X
  have M0 : Hid (Blk X w.heap.size #[.int .i64 s.size, .float .f32 s.step, .float .f32 s.lit.r, .float .f32 s.lit.g, .float .f32 s.lit.b, .slice a N ca, .int .i64 s.kind, .complex .f32 s.g1 s.g2, .float .f32 0, .slice b M cb, .int .i64 s.ticks, .slice l K cl] 34) := by rw [← hX]; exact (Blk.new _ _ _).alloc
  have P0 : Hid (Blk X (w.heap.size + 1) #[.int .i64 0, .slice Option.none 0 0] 43) := by rw [← hX]; exact Blk.newAt (by simp)
  have I0 : Hid (ShoIn X s a b l) := by rw [← hX]; exact HR.out.alloc.alloc
  have G0 : Hid (Below w.heap.size w X) := by rw [← hX]; show Below w.heap.size w _; (repeat' (first | (with_reducible exact Below.refl _ _) | (with_reducible assumption) | (with_reducible refine Below.alloc ?_ ?_ _) | (with_reducible refine Below.drew ?_) | (with_reducible refine Below.setCell ?_ ?_ _) | (with_reducible refine Below.trans ?_ (Below.mono (by assumption) ?_)) | (with_reducible exact Nat.le_refl _) | omega | (simp only [World.size_alloc, World.size_setCell, World.size_drew]; omega) | (simp; omega) | (simp; done)))
  clear hX
  refine (S.call _ _ _ _ _ _ _ I0.out).mono ?_
  rintro r w1 ⟨rfl, hb⟩
  have M1 := Lib.hid (M0.out.below hb)
  have P1 := Lib.hid (P0.out.below hb)
  have I1 := Lib.hid (I0.out.below hb)
  have G1 : Hid (Below w.heap.size w w1) := G0.out.trans (hb.mono G0.out.size)
  clear hb M0 P0 I0 G0 S
  go_upto_region 3 with fail
  (obtain ⟨p0, p1, p2, p3, p4, p5, p6, p7, p8, p9, p10, p11⟩ := blk12 (M1.out))
  have lm := M1.out.lt
  have lp := P1.out.lt
  have hBX : Below w.heap.size w w1 := G1.out
  have hzX := Nat.le_refl w1.heap.size
  have hzw := G1.out.size
  go_region_held3 (fun wx => Below w.heap.size w wx ∧ w1.heap.size ≤ wx.heap.size ∧ w.heap.size < wx.heap.size ∧ w.heap.size + 1 < wx.heap.size ∧ wx.cell? ⟨w.heap.size, 0, Option.none⟩ = some (.int .i64 s.size) ∧ wx.cell? ⟨w.heap.size, 1, Option.none⟩ = some (.float .f32 s.step) ∧ wx.cell? ⟨w.heap.size, 2, Option.none⟩ = some (.float .f32 s.lit.r) ∧ wx.cell? ⟨w.heap.size, 3, Option.none⟩ = some (.float .f32 s.lit.g) ∧ wx.cell? ⟨w.heap.size, 4, Option.none⟩ = some (.float .f32 s.lit.b) ∧ wx.cell? ⟨w.heap.size, 5, Option.none⟩ = some (.slice a N ca) ∧ wx.cell? ⟨w.heap.size, 6, Option.none⟩ = some (.int .i64 s.kind) ∧ wx.cell? ⟨w.heap.size, 7, Option.none⟩ = some (.complex .f32 s.g1 s.g2) ∧ wx.cell? ⟨w.heap.size, 8, Option.none⟩ = some (.float .f32 0) ∧ wx.cell? ⟨w.heap.size, 9, Option.none⟩ = some (.slice b M cb) ∧ wx.cell? ⟨w.heap.size, 10, Option.none⟩ = some (.int .i64 s.ticks) ∧ wx.cell? ⟨w.heap.size, 11, Option.none⟩ = some (.slice l K cl))
    (((repeat' apply And.intro) <;> first | (with_reducible assumption) | (((repeat (first | (with_reducible assumption) | (with_reducible exact cNewAt (by first | rfl | (simp only [World.size_alloc, World.size_setCell, World.size_drew]; done) | omega) rfl) | (with_reducible exact sNewAt (by first | rfl | (simp only [World.size_alloc, World.size_setCell, World.size_drew]; done) | omega) rfl) | (simp; done) | (with_reducible apply cAlloc) | (with_reducible apply cDrew) | (with_reducible refine cSet (by dsimp only; omega) ?_) | (with_reducible refine cSetOff (by dsimp only; omega) ?_) | (with_reducible apply cSame) | (with_reducible refine cBelow (by assumption) ?_) | (with_reducible apply sAlloc) | (with_reducible apply sDrew) | (with_reducible refine sBelow (by assumption) ?_) | (with_reducible refine sSet (by dsimp only; omega) ?_))); first | done | (simp [*]; done)); done) | (simp only [World.size_alloc, World.size_setCell, World.size_drew]; omega) | omega | (go_keep; done) | ((repeat' (first | (with_reducible exact Below.refl _ _) | (with_reducible assumption) | (with_reducible refine Below.alloc ?_ ?_ _) | (with_reducible refine Below.drew ?_) | (with_reducible refine Below.setCell ?_ ?_ _) | (with_reducible refine Below.trans ?_ (Below.mono (by assumption) ?_)) | (with_reducible exact Nat.le_refl _) | omega | (simp only [World.size_alloc, World.size_setCell, World.size_drew]; omega) | (simp; omega) | (simp; done))); done)))
    (first | (go_at_call 18; (with_reducible refine (MV.call _ _ _ _ _ _ _ ?_).mono ?_); (next => exact ShoIn.below HR.out (And.left (by assumption))); rintro r w4 ⟨gm, cm, ⟨rfl, hrow, hgm⟩, hb⟩; have hbs := hb.size; (try simp only [World.size_alloc, World.size_drew] at hbs); have HROW := Lib.hid hrow; have HB4 : Hid (Below w1.heap.size w1 w4) := ((Below.refl _ _).drew).trans hb; clear hrow) | (go_at_call 17; (with_reducible refine (HTK.out _ _ _ HROW.out hgm).mono ?_); rintro r w5 ⟨⟨g5, c5, ⟨rfl, hown⟩⟩, hb⟩; have hbs5 := hb.size; have hb5 : Below w1.heap.size w1 w5 := HB4.out.trans (hb.mono (by omega)); have HB5 := Lib.hid hb5; have hbw : Below w.heap.size w w5 := G1.out.trans (hb5.mono (by omega)); have HL5 : Hid (LitRow w5 g5 0 m) := litRow_of hown rfl; have HRM : Hid (m.length ≤ c5) := owns_room hown; have hne : w.heap.size + 1 ≠ g5 := (by have h1 : w4.heap.size ≤ g5 := (hown.lt _ rfl).1; omega); have hM5 := M1.out.below hb5; (obtain ⟨u0, u1, u2, u3, u4, u5, u6, u7, u8, u9, u10, u11⟩ := blk12 (hM5)); clear hM5; have hP5 := P1.out.below hb5; have y0 := Blk.cellAt (i := 0) hP5 rfl; have y1 := Blk.cellAt (i := 1) hP5 rfl; simp only [List.getElem_toArray, List.getElem_cons_zero, List.getElem_cons_succ] at y0 y1; have z0 := hP5.free 0; have z1 := hP5.free 1; have zl := hP5.lt; clear hown))
  rename_i hHeld
  clear hHeld
  have hP6 := Lib.hid hP5
  clear hP5
  go_wp2_with fail
  have RS := (hP6.out.set (i := 0) (v := .int .i64 n)).set (i := 1) (v := .slice (some ⟨g5, 0, Option.none⟩) m.length c5)
  simp only [List.setIfInBounds_toArray, List.set_cons_zero, List.set_cons_succ] at RS
  have e0 := RS.cell 0
  have e1 := RS.cell 1
  simp only [List.getElem?_toArray, List.getElem?_cons_zero, List.getElem?_cons_succ] at e0 e1
  have B5 : Below w.heap.size w w5 := G1.out.trans (HB5.out.mono G1.out.size)
  refine bodyPost_ret (v := .tuple #[.agg #[.int .i64 n, .slice (some ⟨g5, 0, Option.none⟩) m.length c5], .bool true]) (by simp [results, Tryz.results6, go_sem, e0, e1]) rfl ⟨g5, c5, ⟨rfl, (HL5.out.set (by dsimp only; omega)).set (by dsimp only; omega), HRM.out⟩, (B5.setCell (by dsimp only; omega) _).setCell (by dsimp only; omega) _⟩⟩
theorem Good.seenR {S : Shw} (G : Good S) : ∃ m, Pic S.kind S.size m ∧ ∀ T : Shw, Good T → T.size = S.size → T.step = S.step → T.lit = S.lit → T.shs = S.shs → T.kind = S.kind → T.bds = S.bds → SeenR T.w T.bds.length T.bds.length T.log.length S.size m := by
  have FN := G.fine
  have k3 := FN.kin
  obtain ⟨i, hi, hst⟩ := FN.st
  have h0 : (0 : Int) ≤ (S.kind : Int) := by omega
  have h3 : (S.kind : Int) ≤ 3 := by omega
  have h1 := FN.s1
  have h8 : S.size ≤ 8 := by have := FN.s5; omega
  have HX : ∀ j : Nat, ∃ tp : Shd × Bool, j < S.bds.length → MoveOk (S.shs.getD j default) (S.bds.getD j default).1.1.1 (S.bds.getD j default).1.1.2 tp.1 tp.2 := fun j => by
    by_cases hj : j < S.bds.length
    · obtain ⟨t, p, h⟩ := moveOk ((FN.shs _ (getD_mem (by rw [FN.len]; exact hj))).ok) (ok_rch (S.bds.getD j default).1.2.1.ok) (ok_rch (S.bds.getD j default).1.2.2.ok)
      exact ⟨(t, p), fun _ => h⟩
    · exact ⟨default, fun h => absurd h hj⟩
  obtain ⟨F, HF⟩ := Classical.axiomOfChoice HX
  have hok := movL_ok (F := F) (n := S.bds.length) (fun j hj hp => (HF j hj).ok hp) S.bds.length (Nat.le_refl _)
  have hle := movL_len F S.bds.length
  have few := FN.few
  have hml := take_len h0 h3 hi h1 h8 (movL F S.bds.length) S.lit
  have hmo := take_oks h0 h3 hi h1 h8 (movL F S.bds.length) S.lit hok FN.lit
  refine ⟨takeCols h0 h3 hi h1 h8 (movL F S.bds.length) S.lit, ⟨hml, hmo, picB_ok h1 h8 hml hmo, take_spread h0 h3 hi h1 h8 _ _, fun x hx => take_syms h0 h3 hi h1 h8 _ _ hok FN.lit hx (syms_all h0 h3 x hx)⟩, fun T GT e1 e2 e3 e4 e5 e6 => ?_⟩
  have hN : T.w.shs.length = T.bds.length := GT.fine.len
  have hM : T.w.bds.length = T.bds.length := by simp [Shw.w]
  have MV := movedM (s := T.w) (K := T.log.length) (F := F) hN hM rfl GT.fine.few fun j hj => by
    have h := (HF j (by rw [← e6]; exact hj)).is
    show MoveIs (T.shs.getD j default) ((T.bds.map wd).getD j default).a1 ((T.bds.map wd).getD j default).a2 _ _
    rw [getD_map wd _ hj, e4, e6]
    exact h
  refine seenRm GT.is MV (fun g lc => ?_) (by show (T.size : Int) = _; rw [e1])
  show TakeM (T.kind : Int) g lc (movL F T.bds.length) S.size T.step T.lit _
  rw [e5, e6, e2, e3, hst]
  exact takes h0 h3 hi h1 h8 (by omega) hok FN.lit
end Go.Proofs.YtfdgijmmgllmgaaGreatDoor
namespace Go.Proofs
open Go.Shelf
def Tryz.lays156_ren : Go.Shelf.Ren := ⟨fun | 156 => 92 | 165 => 126 | 166 => 127 | 169 => 128 | 240 => 143 | 241 => 144 | 276 => 154 | 277 => 155 | n => n, fun | 31 => 53 | 9 => 9 | 3 => 3 | 4 => 4 | 0 => 0 | 20 => 20 | 72 => 176 | 76 => 180 | 70 => 174 | 37 => 22 | 75 => 179 | 127 => 195 | 164 => 221 | 5 => 5 | 80 => 182 | n => n, fun | n => n⟩
theorem Tryz.lays156 : Go.Proofs.Lays.n156 Tryz.prog Tryz.lays156_ren := {
  mixed := by kernel_rfl
  f156 := Tryz.func92.trans (congrArg some (by kernel_rfl))
  f165 := Tryz.func126.trans (congrArg some (by kernel_rfl))
  f166 := Tryz.func127.trans (congrArg some (by kernel_rfl))
  f169 := Tryz.func128.trans (congrArg some (by kernel_rfl))
  f240 := Tryz.func143.trans (congrArg some (by kernel_rfl))
  f241 := Tryz.func144.trans (congrArg some (by kernel_rfl))
  f276 := Tryz.func154.trans (congrArg some (by kernel_rfl))
  f277 := Tryz.func155.trans (congrArg some (by kernel_rfl))
  t0 := Tryz.underlying0
  a0 := Tryz.isAgg0
  z0 := Tryz.sizeOf0
  v0 := Tryz.zeroValue0
  t3 := Tryz.underlying3
  a3 := Tryz.isAgg3
  z3 := Tryz.sizeOf3
  v3 := Tryz.zeroValue3
  t4 := Tryz.underlying4
  a4 := Tryz.isAgg4
  z4 := Tryz.sizeOf4
  v4 := Tryz.zeroValue4
  t9 := Tryz.underlying9
  a9 := Tryz.isAgg9
  z9 := Tryz.sizeOf9
  v9 := Tryz.zeroValue9
  t20 := Tryz.underlying20
  a20 := Tryz.isAgg20
  z20 := Tryz.sizeOf20
  v20 := Tryz.zeroValue20
  t31 := Tryz.underlying53
  a31 := Tryz.isAgg53
  z31 := Tryz.sizeOf53
  v31 := Tryz.zeroValue53
  t37 := Tryz.underlying22
  a37 := Tryz.isAgg22
  z37 := Tryz.sizeOf22
  v37 := Tryz.zeroValue22
  t70 := Tryz.underlying174
  a70 := Tryz.isAgg174
  z70 := Tryz.sizeOf174
  v70 := Tryz.zeroValue174
  t72 := Tryz.underlying176
  a72 := Tryz.isAgg176
  z72 := Tryz.sizeOf176
  v72 := Tryz.zeroValue176
  t75 := Tryz.underlying179
  a75 := Tryz.isAgg179
  z75 := Tryz.sizeOf179
  v75 := Tryz.zeroValue179
  t76 := Tryz.underlying180
  a76 := Tryz.isAgg180
  z76 := Tryz.sizeOf180
  v76 := Tryz.zeroValue180
  t127 := Tryz.underlying195
  a127 := Tryz.isAgg195
  z127 := Tryz.sizeOf195
  v127 := Tryz.zeroValue195
  t164 := Tryz.underlying221
  a164 := Tryz.isAgg221
  z164 := Tryz.sizeOf221
  v164 := Tryz.zeroValue221 }
theorem Tryz.extra156 : Builder.Extra Tryz.prog Tryz.lays156_ren := {
  sizeBuilder := by kernel_rfl
  liesBuilder := by kernel_rfl
  t5 := Tryz.underlying5
  a5 := Tryz.isAgg5
  z5 := Tryz.sizeOf5
  v5 := Tryz.zeroValue5
  infoByte := by kernel_rfl
  cellsByte := by kernel_rfl
  sizeByte := by kernel_rfl
  neB5 := by decide }
end Go.Proofs
namespace Go.Proofs.YtfdgijmmgllmgaaGreatDoor
open Go.ChangeShapes Go.WideShapes Go.ChangeAt Go.RowKit Go.Joins
set_option linter.unusedSimpArgs false
set_option linter.unusedVariables false
set_option maxRecDepth 100000
attribute [local go_sem] store_f
open Go.Lib Go.RowKit
theorem join_at (bk o c : Nat) (xs : List ByteArray) (sep : ByteArray) (w : World)
    (hcells : ∀ (j : Nat) x, xs[j]? = some x → w.cell? ⟨bk, o + j, Option.none⟩ = some (.string x))
    (hbk : bk < w.heap.size) (hN : xs.length ≤ 140737488355328) (hcap : xs.length ≤ c)
    (hlen : (Lib.join (xs.map (·.data.toList)) sep.data.toList).length ≤ 140737488355328) :
    Calls Tryz.prog 92 #[.slice (some ⟨bk, o, Option.none⟩) xs.length c, .string sep] w fun e w' => e = .returned (.string ⟨(Lib.join (xs.map (·.data.toList)) sep.data.toList).toArray⟩) ∧ Below w.heap.size w w' :=
  Any.strings_Join Tryz.lays156 Tryz.extra156 bk o c xs sep w hcells hbk hN hcap hlen
end Go.Proofs.YtfdgijmmgllmgaaGreatDoor
namespace Go.Proofs.YtfdgijmmgllmgaaGreatDoor
open Go.ChangeShapes Go.WideShapes Go.ChangeAt Go.RowKit Go.Joins
set_option linter.unusedSimpArgs false
set_option linter.unusedVariables false
set_option maxRecDepth 100000
attribute [local go_sem] store_f
open Ieee
structure LitRun (W : World) (b o : Nat) (l : List Lit) : Prop where
  lt : b < W.heap.size
  r : ∀ k, k < l.length → W.cell? ⟨b, o + k * 3, Option.none⟩ = some (.float .f32 (l.getD k default).r)
  g : ∀ k, k < l.length → W.cell? ⟨b, o + k * 3 + 1, Option.none⟩ = some (.float .f32 (l.getD k default).g)
  b : ∀ k, k < l.length → W.cell? ⟨b, o + k * 3 + 2, Option.none⟩ = some (.float .f32 (l.getD k default).b)
theorem LitRun.below {W W' : World} {b o B : Nat} {l : List Lit} (h : LitRun W b o l) (hb : Below B W W') (hB : b < B) : LitRun W' b o l :=
  ⟨Nat.lt_of_lt_of_le h.lt hb.size, fun k hk => (hb.cell (p := ⟨b, _, Option.none⟩) hB).trans (h.r k hk), fun k hk => (hb.cell (p := ⟨b, _, Option.none⟩) hB).trans (h.g k hk), fun k hk => (hb.cell (p := ⟨b, _, Option.none⟩) hB).trans (h.b k hk)⟩
structure FmtM (c : Lit) (s : ByteArray) : Prop where
  call : ∀ w : World, Calls Tryz.prog 27 #[.agg #[.float .f32 c.r, .float .f32 c.g, .float .f32 c.b]] w fun e w' => e = .returned (.string s) ∧ Below w.heap.size w w'
theorem infoStr : (Tryz.prog.info? 9).map (fun i => (i.zero, i.size, i.bytes)) = some (some (.string ⟨#[]⟩), 1, 16) := by kernel_rfl
def texts (f : Nat → ByteArray) (k : Nat) : List Value := (List.range k).map fun j => .string (f j)
theorem texts_succ (f : Nat → ByteArray) (k : Nat) : texts f (k + 1) = texts f k ++ [.string (f k)] := by unfold texts; rw [List.range_succ, List.map_append]; rfl
structure Texts (w w' : World) (e : Ending) (f : Nat → ByteArray) (n : Nat) : Prop where
  row : ∃ v, e = .returned v ∧ w'.ownsRow w.heap.size 9 1 v n (texts f n) ∧ v ≠ .slice Option.none 0 0
  below : Below w.heap.size w w'
set_option maxHeartbeats 8000000 in
theorem fmtEach {l : List Lit} {f : Nat → ByteArray} (hl : l.length ≤ 64) (hf : ∀ k, k < l.length → FmtM (l.getD k default) (f k)) (b o cap : Nat) (w : World) (hr : LitRun w b o l) :
    Calls Tryz.prog 93 #[.slice (some ⟨b, o, Option.none⟩) l.length cap, .func (.func 27) #[] #[]] w fun e w' => Texts w w' e f l.length := by
  have HR : Hid (LitRun w b o l) := hr
  have hbw := hr.lt
  have HF := Lib.hid hf
  clear hr hf
  obtain ⟨i0, hi, hz0, hz1, hz2⟩ := info_parts infoStr
  go_enter Tryz.func93, Tryz.ntmps93
  go_wp2_with fail
  go_loopw [5, 11] (fun v i wr => ∃ k : Nat, k ≤ l.length ∧ i = .int .i64 k ∧ wr.ownsRow w.heap.size 9 1 v k (texts f k) ∧ v ≠ .slice Option.none 0 0 ∧ Below w.heap.size w wr)
    (fun _ i _ => l.length - (Lib.intOf i).toNat)
  case atStart => exact ⟨0, by omega, rfl, World.ownsRow_lit _ #[] 0 (by simp) (by unfold maxLen; omega) rfl, by simp, by (repeat' (first | (with_reducible exact Below.refl _ _) | (with_reducible assumption) | (with_reducible refine Below.alloc ?_ ?_ _) | (with_reducible refine Below.drew ?_) | (with_reducible refine Below.setCell ?_ ?_ _) | (with_reducible refine Below.trans ?_ (Below.mono (by assumption) ?_)) | (with_reducible exact Nat.le_refl _) | omega | (simp only [World.size_alloc, World.size_setCell, World.size_drew]; omega) | (simp; omega) | (simp; done)))⟩
  case round =>
    obtain ⟨k, hk, rfl, hown, hnn, hbel⟩ := hrel
    have HN : Hid (u5 ≠ .slice Option.none 0 0) := hnn
    have hbs := hbel.size
    clear hnn
    by_cases hlt : k < l.length
    · have HA := (HF.out k hlt).call
      have hS := HR.out.below hbel hbw
      have c0 := hS.r k hlt
      have c1 := hS.g k hlt
      have c2 := hS.b k hlt
      have hbl := hS.lt
      clear hS
      generalize l.getD k default = c at HA c0 c1 c2
      obtain ⟨cr, cg, cb⟩ := c
      simp only [] at c0 c1 c2 HA
      have HA2 := Lib.hid HA
      clear HA
      go_wp2_with fail
      refine (HA2.out _).mono ?_
      rintro e w2 ⟨rfl, hb2⟩
      have hB2 : Below w.heap.size w w2 := by (repeat' (first | (with_reducible exact Below.refl _ _) | (with_reducible assumption) | (with_reducible refine Below.alloc ?_ ?_ _) | (with_reducible refine Below.drew ?_) | (with_reducible refine Below.setCell ?_ ?_ _) | (with_reducible refine Below.trans ?_ (Below.mono (by assumption) ?_)) | (with_reducible exact Nat.le_refl _) | omega | (simp only [World.size_alloc, World.size_setCell, World.size_drew]; omega) | (simp; omega) | (simp; done)))
      have hs2 := hb2.size
      simp only [World.size_alloc] at hs2
      have hO2 : w2.ownsRow w.heap.size 9 1 u5 k (texts f k) := ownsBelow hb2 (World.ownsRow.alloc hown _)
      clear c0 c1 c2 hb2 HA2
      go_wp2_with (at_builtin; go_loud (refine wpList_append_own_at _ rfl _ _ 53 rfl w.heap.size 9 i0 (.string ⟨#[]⟩) 1 16 Tryz.underlying53 hi hz0 hz1 hz2 rfl (by decide) _ k (texts f k) rfl ?hown ⟨w2.heap.size, 0, Option.none⟩ 1 1 [.string (f k)] rfl rfl ?c1 ?c2 ?c3 ?c4 ?c5 ?_))
      case hown => (change World.ownsRow _ _ _ _ u5 _ _; (repeat (first | (with_reducible assumption) | (with_reducible refine World.ownsRow.alloc ?_ _) | (with_reducible refine World.ownsRow.drew ?_) | (with_reducible refine ownsBelow (by assumption) ?_))))
      case c1 =>
        intro j u hj
        rcases j with _ | j <;> simp at hj
        subst hj
        simp [Addr.add]
      case c2 =>
        intro u hu
        simp at hu
        subst hu
        rfl
      case c3 => (unfold maxLen; omega)
      case c4 => omega
      case c5 => first | omega | (simp only [World.size_alloc, World.size_setCell, World.size_drew]; omega)
      intro v' w3 hown' hgrow hvn hat
      have HV : Hid (v' ≠ .slice Option.none 0 0) := hvn
      have hb3 : Below w.heap.size w w3 := Below.grown (by (repeat' (first | (with_reducible exact Below.refl _ _) | (with_reducible assumption) | (with_reducible refine Below.alloc ?_ ?_ _) | (with_reducible refine Below.drew ?_) | (with_reducible refine Below.setCell ?_ ?_ _) | (with_reducible refine Below.trans ?_ (Below.mono (by assumption) ?_)) | (with_reducible exact Nat.le_refl _) | omega | (simp only [World.size_alloc, World.size_setCell, World.size_drew]; omega) | (simp; omega) | (simp; done)))) hgrow (by first | omega | (simp only [World.size_alloc, World.size_setCell, World.size_drew]; omega)) (fun q hq => (hown.lt q hq).1)
      clear hgrow hvn hat HN hO2 hown
      go_wp2
      go_roundw
      case rel => exact ⟨k + 1, by omega, by go_num, by rw [texts_succ]; exact hown', HV.out, hb3⟩
      case measure => simp [Lib.intOf]; omega
    · have hkl : k = l.length := by omega
      subst hkl
      have HO := Lib.hid hown
      clear hown
      go_wp2
      go_ret
      exact ⟨⟨_, rfl, HO.out, HN.out⟩, hbel⟩
end Go.Proofs.YtfdgijmmgllmgaaGreatDoor
namespace Go.Proofs.YtfdgijmmgllmgaaGreatDoor
open Go.ChangeShapes Go.WideShapes Go.ChangeAt Go.RowKit Go.Joins
set_option linter.unusedSimpArgs false
set_option linter.unusedVariables false
set_option maxRecDepth 100000
attribute [local go_sem] store_f
open Ieee
def StrsAt (W : World) (g n : Nat) (f : Nat → ByteArray) : Prop := g < W.heap.size ∧ ∀ k, k < n → W.cell? ⟨g, k, Option.none⟩ = some (.string (f k))
theorem texts_get (f : Nat → ByteArray) {n k : Nat} (h : k < n) : (texts f n)[k]? = some (.string (f k)) := by
  unfold texts
  rw [List.getElem?_map, List.getElem?_range h]; rfl
theorem strs_of {W : World} {B n : Nat} {v : Value} {f : Nat → ByteArray} (h : W.ownsRow B 9 1 v n (texts f n)) (hn : 1 ≤ n) : ∃ g c, v = .slice (some ⟨g, 0, Option.none⟩) n c ∧ n ≤ c ∧ B ≤ g ∧ StrsAt W g n f := by
  have h' := h
  obtain ⟨h1, h2⟩ := h
  rcases h2 with ⟨_, e⟩ | ⟨g, cap, cur, rfl, hB, hb, hle, hx, hs, hm⟩
  · omega
  · refine ⟨g, cap, rfl, by omega, hB, (h'.lt _ rfl).2, fun k hk => ?_⟩
    rw [h'.cellAt k (by omega)]
    exact texts_get f hk
def lineOf (f : Nat → ByteArray) (n : Nat) : ByteArray := ⟨(Lib.join (((List.range n).map f).map (·.data.toList)) [32]).toArray⟩
structure Shorts (f : Nat → ByteArray) (n : Nat) : Prop where
  few : n ≤ 64
  len : (Lib.join (((List.range n).map f).map (·.data.toList)) [32]).length ≤ 140737488355328
set_option maxHeartbeats 8000000 in
theorem fmtRow {l : List Lit} {f : Nat → ByteArray} (hl : 1 ≤ l.length) (hs : Shorts f l.length) (hf : ∀ k, k < l.length → FmtM (l.getD k default) (f k)) (b o cap : Nat) (w : World) (hr : LitRun w b o l) :
    Calls Tryz.prog 59 #[.slice (some ⟨b, o, Option.none⟩) l.length cap] w fun e w' => e = .returned (.string (lineOf f l.length)) ∧ Below w.heap.size w w' := by
  have HE := Lib.hid (fmtEach (hs.few) hf b o cap w hr)
  have h64 := hs.few
  have hlen := hs.len
  have hj := Lib.hid (fun (g c : Nat) (W : World) (hc : l.length ≤ c) (hS : StrsAt W g l.length f) => by
    have h := join_at g 0 c ((List.range l.length).map f) ⟨#[32]⟩ W (fun j x hx => by
      rw [List.getElem?_map] at hx
      by_cases hj : j < l.length
      · rw [List.getElem?_range hj] at hx
        simp only [Option.map_some, Option.some.injEq] at hx
        subst hx
        rw [Nat.zero_add]
        exact hS.2 j hj
      · rw [List.getElem?_eq_none (by simpa using hj)] at hx
        simp at hx) hS.1 (by simp; omega) (by simpa using hc) (by simpa using hlen)
    simp only [List.length_map, List.length_range] at h
    exact h)
  clear hr hf hs hlen
  go_enter Tryz.func59, Tryz.ntmps59
  go_wp2_with fail
  refine HE.out.mono ?_
  rintro e w1 ⟨⟨v, rfl, hown, _⟩, hb⟩
  obtain ⟨g, c, rfl, hc, hB, hS⟩ := strs_of hown hl
  have hJ := Lib.hid (hj.out g c w1 hc hS)
  clear hown hS hj HE
  go_wp2_with fail
  refine hJ.out.mono ?_
  rintro e w2 ⟨rfl, hb2⟩
  have G2 : Hid (Below w.heap.size w w2) := hb.trans (hb2.mono hb.size)
  clear hb hb2 hJ
  go_wp2
  go_ret
  exact ⟨by unfold lineOf; simp only [List.map_map]; rfl, G2.out⟩
end Go.Proofs.YtfdgijmmgllmgaaGreatDoor
