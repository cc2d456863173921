/-
  The call of FnExactSymsOfPicture returns true and writes nothing that was there.
-/
import Derived.Test.YtlnikapkheldeaaK44
import Derived.Test.YtlnikapkheldeaaK43
import Derived.Test.YtlnikapkheldeaaK23
import Derived.Test.YtlnikapkheldeaaK45
import Derived.Deep.RegionHeld3
import Derived.Deep.DeepCutAuto
namespace Go.Proofs.Ytlnikapkheldeaa.wFnExactSymsOfPicture
open Go.ChangeShapes Go.WideShapes Go.ChangeAt Go.RowKit Go.Joins
set_option linter.unusedSimpArgs false
set_option linter.unusedVariables false
set_option maxRecDepth 100000
attribute [local go_sem] store_f
open Ieee

theorem part_of {W : World} {base g n cap : Nat} {l : List (Int × Bool)} (h : W.ownsRow base 25 2 (.slice (some ⟨g, 0, Option.none⟩) n cap) n (symCells l)) (m : Int) : SymPart W g n 0 m ∧ base ≤ g := by
  obtain ⟨_, h2⟩ := h
  rcases h2 with ⟨e, _⟩ | ⟨g', cap', cur, e, hB, hb, hn, _, hs, _⟩
  · simp at e
  · simp only [Value.slice.injEq, Option.some.injEq, Addr.mk.injEq] at e
    obtain ⟨⟨rfl, _⟩, _, rfl⟩ := e
    exact ⟨⟨cur, hb, by omega, fun j hj => by omega⟩, hB⟩
theorem SymPart.below {W w1 : World} {g n k : Nat} {m : Int} (h : SymPart W g n k m) (hb : Below W.heap.size W w1) : SymPart w1 g n k m := by
  obtain ⟨cur, h1, h2⟩ := h
  exact ⟨cur, (hb.block g (Array.getElem?_eq_some_iff.1 h1).1).trans h1, h2⟩
theorem SymPart.wrote {W w1 : World} {g n k N M : Nat} {m : Int} (h : SymPart W g n k m) (hw : Wrote N M W w1) (hd : g < N ∨ M ≤ g) : SymPart w1 g n k m := by
  obtain ⟨cur, h1, h2⟩ := h
  exact ⟨cur, (hw.block g (Array.getElem?_eq_some_iff.1 h1).1 hd).trans h1, h2⟩
theorem SymRow.wrote {W w1 : World} {g N M : Nat} {l : List (Int × Bool)} (h : SymRow W g l) (hw : Wrote N M W w1) (hd : g < N ∨ M ≤ g) : SymRow w1 g l := fun k hk => by
  obtain ⟨h0, h1⟩ := h k hk
  have hl : g < W.heap.size := cell_lt h0
  have e := hw.block g hl hd
  exact ⟨(World.cell?_of_block (a := ⟨g, k * 2, Option.none⟩) e).trans h0, (World.cell?_of_block (a := ⟨g, k * 2 + 1, Option.none⟩) e).trans h1⟩
theorem Ctx.grown {w W w1 : World} {b g : Nat} {n : Int} {a : Option Addr} {cap : Nat} {l : List Lit} (h : Ctx w W b n a cap l) (ho : LitsAt w a l) (hg : W.grownBy w1 (some g)) (hd : b < g) : Ctx w w1 b n a cap l :=
  h.wrote ho (wrote_of_grown (N := g) (M := g + 1) hg (Nat.le_refl _) (by omega)) hd
structure EqSymsM (s : List (Int × Bool)) (ga gb ca cb : Nat) : Prop where
  call : ∀ w : World, SymRow w ga s → SymRow w gb s → Calls Try.prog 56 #[.slice (some ⟨ga, 0, Option.none⟩) s.length ca, .slice (some ⟨gb, 0, Option.none⟩) s.length cb] w fun e w' => e = .returned (.bool true) ∧ Below w.heap.size w w'
structure MarkS (g n c : Nat) : Prop where
  call : ∀ w : World, SymPart w g n 0 1 → Calls Try.prog 57 #[.slice (some ⟨g, 0, Option.none⟩) n c, .int .i64 1] w fun e w' => e = .returned (.int .i64 (1 + 2 * (n : Int))) ∧ SymPart w' g n n 1 ∧ w.grownBy w' (some g)
structure HeldS (g n c : Nat) : Prop where
  call : ∀ w : World, SymMarks w g n 1 → Calls Try.prog 58 #[.slice (some ⟨g, 0, Option.none⟩) n c, .int .i64 1] w fun e w' => e = .returned (.int .i64 (1 + 2 * (n : Int))) ∧ Below w.heap.size w w'

set_option maxHeartbeats 32000000 in
theorem walk (n : Int) (a : Option Addr) (cap : Nat) (l : List Lit) (w : World) (_ : -9223372036854775808 ≤ n) (_ : n ≤ 9223372036854775807) (hrow : LitsAt w a l) (hw : ∀ c ∈ l, c.W) (hlc : l.length ≤ cap) (hcm : cap ≤ 9223372036854775807) :
    Calls Try.prog 14 #[.agg #[.int .i64 n, .slice a l.length cap]] w fun e w' => e = .returned (.bool true) ∧ Below w.heap.size w w' := by
  by_cases hlen : l.length ≤ 1048576
  · have Z := szPic_yes (n := n) (a := a) (cap := cap) (len := l.length) (left := 1048576) (by omega) (by omega)
    have T := toPicA (n := n) (a := a) (cap := cap) hlen
    obtain ⟨s, SI, SZ, hs8⟩ := syms_both n hw
    have HSI : Hid (∀ a cap, PicSymsM n a cap l s) := SI
    have HSZ : Hid (∀ a cap, PicSymsZ n a cap l s) := SZ
    have EP : Hid (∀ a c b d, EqPic n a c b d l) := fun a c b d => eqPic hw hlen
    have ES : Hid (∀ ga gb ca cb, EqSymsM s ga gb ca cb) := fun ga gb ca cb => ⟨fun w h1 h2 => eqSymS_same s ga gb _ ca cb w rfl (by omega) h1 h2⟩
    have MS : Hid (∀ g c, MarkS g s.length c) := fun g c => ⟨fun w h => markSymS_any g _ c 1 w (by omega) (by omega) (by omega) h⟩
    have HS : Hid (∀ g c, HeldS g s.length c) := fun g c => ⟨fun w h => heldSymS_any g _ c 1 w (by omega) (by omega) (by omega) h⟩
    have HR : Hid (LitsAt w a l) := hrow
    have hle : ¬ (1048576 - (l.length : Int)) < 0 := by omega
    have hld : decide ((1048576 - (l.length : Int)) < 0) = false := by simpa using hle
    clear hrow hw SI SZ
    go_enter Try.func14, Try.ntmps14
    go_wp2_with fail
    generalize hV : w.alloc (.cells #[.int .i64 n, .slice a l.length cap] 69) = V
    have C0 : Hid (Ctx w V w.heap.size n a cap l) := by rw [← hV]; exact ⟨Blk.new _ _ _, HR.out.alloc, (Below.refl _ _).alloc (Nat.le_refl _) _, Nat.le_refl _⟩
    clear hV
    refine (Z.call _).mono ?_
    rintro e w1 ⟨rfl, hb⟩
    have C1 : Hid (Ctx w w1 w.heap.size n a cap l) := C0.out.below hb
    clear hb C0
    (have p0 := Blk.cellAt (i := 0) C1.out.blk rfl; have p1 := Blk.cellAt (i := 1) C1.out.blk rfl; simp only [List.getElem_toArray, List.getElem_cons_zero, List.getElem_cons_succ] at p0 p1)
    go_wp2_with fail
    refine (T.call _ C1.out.row).mono ?_
    rintro e w2 ⟨⟨b2, rfl, ho⟩, hb⟩
    have C2 : Hid (Ctx w w2 w.heap.size n a cap l) := C1.out.below hb
    have K2 : Hid (LitsAt w2 b2 l) := ho.lits
    clear hb ho C1 p0 p1
    go_wp2_with fail
    refine ((HSZ.out _ _).call _ K2.out).mono ?_
    rintro e w3 ⟨⟨g3, c3, ⟨rfl, hown⟩⟩, hb⟩
    have C3 : Hid (Ctx w w3 w.heap.size n a cap l) := C2.out.below hb
    have A3 : Hid (SymRow w3 g3 s) := symRow_of hown rfl
    have hg3 : g3 < w3.heap.size := (hown.lt _ rfl).2
    clear hb hown C2 K2
    (have p0 := Blk.cellAt (i := 0) C3.out.blk rfl; have p1 := Blk.cellAt (i := 1) C3.out.blk rfl; simp only [List.getElem_toArray, List.getElem_cons_zero, List.getElem_cons_succ] at p0 p1)
    have l3 := C3.out.lt
    go_wp2_with fail
    refine (T.call _ C3.out.row).mono ?_
    rintro e w4 ⟨⟨b4, rfl, ho⟩, hb⟩
    have C4 : Hid (Ctx w w4 w.heap.size n a cap l) := C3.out.below hb
    have A4 : Hid (SymRow w4 g3 s) := A3.out.below hb
    have O4 : Hid (OwnIn w4 w3.heap.size w4.heap.size b4 l) := ho
    have s4 := hb.size
    clear hb ho C3 A3 p0 p1
    go_wp2_with fail
    generalize hU : w4.alloc (.cells #[.int .i64 n, .slice b4 l.length l.length] 37) = U
    have CU : Hid (Ctx w U w.heap.size n a cap l) := by rw [← hU]; exact C4.out.alloc
    have AU : Hid (SymRow U g3 s) := by rw [← hU]; exact A4.out.alloc
    have XU : Hid (PVar U w4.heap.size w3.heap.size w4.heap.size n b4 l.length l) := by rw [← hU]; exact PVar.new O4.out s4
    clear hU C4 A4 O4
    generalize w4.heap.size = x at *
    generalize w3.heap.size = y at *
    refine ((HSI.out _ _).call _ XU.out.lits).mono ?_
    rintro e w5 ⟨⟨g5, c5, ⟨rfl, hown⟩⟩, hb⟩
    have C5 : Hid (Ctx w w5 w.heap.size n a cap l) := CU.out.below hb
    have A5 : Hid (SymRow w5 g3 s) := AU.out.below hb
    have X5 : Hid (PVar w5 x y x n b4 l.length l) := XU.out.below hb
    have G5 : Hid (SymRow w5 g5 s) := symRow_of hown rfl
    have M5 : Hid (SymPart w5 g5 s.length 0 1) := (part_of hown 1).1
    have hg5 : U.heap.size ≤ g5 := (part_of hown 1).2
    have hxU := XU.out.lt
    clear hb hown CU AU XU
    go_wp2_with fail
    refine ((ES.out _ _ _ _).call _ G5.out A5.out).mono ?_
    rintro e w6 ⟨rfl, hb⟩
    have C6 : Hid (Ctx w w6 w.heap.size n a cap l) := C5.out.below hb
    have A6 : Hid (SymRow w6 g3 s) := A5.out.below hb
    have X6 : Hid (PVar w6 x y x n b4 l.length l) := X5.out.below hb
    have G6 : Hid (SymRow w6 g5 s) := G5.out.below hb
    have M6 : Hid (SymPart w6 g5 s.length 0 1) := SymPart.below M5.out hb
    clear hb C5 A5 X5 G5 M5
    (have p0 := Blk.cellAt (i := 0) C6.out.blk rfl; have p1 := Blk.cellAt (i := 1) C6.out.blk rfl; simp only [List.getElem_toArray, List.getElem_cons_zero, List.getElem_cons_succ] at p0 p1)
    (have x0 := Blk.cellAt (i := 0) X6.out.blk rfl; have x1 := Blk.cellAt (i := 1) X6.out.blk rfl; simp only [List.getElem_toArray, List.getElem_cons_zero, List.getElem_cons_succ] at x0 x1)
    have hL6 := C6.out.row
    have hK6 := X6.out.lits
    have hB6 : Below w6.heap.size w6 w6 := Below.refl _ _
    have hz6 := Nat.le_refl w6.heap.size
    have l6 := C6.out.lt
    have m6 := X6.out.lt
    go_wp2_with fail
    go_cut [31] (fun v wx => v = .bool false ∧ Below w6.heap.size w6 wx)
    case first =>
      go_region_held3 (fun wx => Below w6.heap.size w6 wx ∧ w6.heap.size ≤ wx.heap.size ∧ x < wx.heap.size ∧ w.heap.size < wx.heap.size ∧ wx.cell? ⟨w.heap.size, 0, Option.none⟩ = some (.int .i64 n) ∧ wx.cell? ⟨w.heap.size, 1, Option.none⟩ = some (.slice a l.length cap) ∧ wx.cell? ⟨x, 0, Option.none⟩ = some (.int .i64 n) ∧ wx.cell? ⟨x, 1, Option.none⟩ = some (.slice b4 l.length l.length))
        (((repeat' apply And.intro) <;> first | (with_reducible assumption) | ((repeat (first | (with_reducible assumption) | (with_reducible exact And.left (by assumption)) | (with_reducible exact And.left (And.right (by assumption))) | (with_reducible exact And.left (And.right (And.right (by assumption)))) | (with_reducible refine LitsAt.drew ?_) | (with_reducible refine LitsAt.below ?_ hb) | (with_reducible refine LitsAt.alloc ?_))); done) | (((repeat (first | (with_reducible assumption) | (with_reducible exact cNewAt (by first | rfl | (simp only [World.size_alloc, World.size_setCell, World.size_drew]; done) | omega) rfl) | (with_reducible exact sNewAt (by first | rfl | (simp only [World.size_alloc, World.size_setCell, World.size_drew]; done) | omega) rfl) | (simp; done) | (with_reducible apply cAlloc) | (with_reducible apply cDrew) | (with_reducible refine cSet (by dsimp only; omega) ?_) | (with_reducible refine cSetOff (by dsimp only; omega) ?_) | (with_reducible apply cSame) | (with_reducible refine cBelow (by assumption) ?_) | (with_reducible apply sAlloc) | (with_reducible apply sDrew) | (with_reducible refine sBelow (by assumption) ?_) | (with_reducible refine sSet (by dsimp only; omega) ?_))); first | done | (simp [*]; done)); done) | (simp only [World.size_alloc, World.size_setCell, World.size_drew]; omega) | omega | (go_keep; done) | ((repeat' (first | (with_reducible exact Below.refl _ _) | (with_reducible assumption) | (with_reducible refine Below.alloc ?_ ?_ _) | (with_reducible refine Below.drew ?_) | (with_reducible refine Below.setCell ?_ ?_ _) | (with_reducible refine Below.trans ?_ (Below.mono (by assumption) ?_)) | (with_reducible exact Nat.le_refl _) | omega | (simp only [World.size_alloc, World.size_setCell, World.size_drew]; omega) | (simp; omega) | (simp; done))); done)))
        (first | (go_at_call 45; (with_reducible refine (T.call _ ?_).mono ?_); (next => exact LitsAt.below hL6 (And.left (by assumption))); rintro e w7 ⟨⟨b7, rfl, ho⟩, hb⟩; have K7 : Hid (LitsAt w7 b7 l) := ho.lits; have hbs := hb.size; clear ho; (try simp only [World.size_alloc, World.size_setCell, World.size_drew] at hbs)) | (go_at_call 46; (with_reducible refine ((EP.out _ _ _ _).call _ ?_ ?_).mono ?_); (next => exact LitsAt.below hK6 (And.left (by assumption))); (next => exact K7.out); rintro e w8 ⟨rfl, hb⟩; have hbs := hb.size; (try simp only [World.size_alloc, World.size_setCell, World.size_drew] at hbs)))
      all_goals
        rename_i hHeld
        have hb8 := hHeld.1
        clear hHeld
        go_wp2_with fail
        go_meet
        exact ⟨rfl, hb8⟩
    case rest =>
      obtain ⟨rfl, hb⟩ := hcut
      have C9 : Hid (Ctx w wc w.heap.size n a cap l) := C6.out.below hb
      have A9 : Hid (SymRow wc g3 s) := A6.out.below hb
      have X9 : Hid (PVar wc x y x n b4 l.length l) := X6.out.below hb
      have G9 : Hid (SymRow wc g5 s) := G6.out.below hb
      have M9 : Hid (SymPart wc g5 s.length 0 1) := SymPart.below M6.out hb
      clear hb C6 A6 X6 G6 M6 p0 p1 x0 x1 hL6 hK6 hB6 hz6 l6 m6
      (have x0 := Blk.cellAt (i := 0) X9.out.blk rfl; have x1 := Blk.cellAt (i := 1) X9.out.blk rfl; simp only [List.getElem_toArray, List.getElem_cons_zero, List.getElem_cons_succ] at x0 x1)
      go_wp2_with fail
      refine ((markA (l := l) hlen).call _ X9.out.own (Nat.le_trans X9.out.hi (Nat.le_of_lt X9.out.lt)) X9.out.le).mono ?_
      rintro e w10 ⟨rfl, hm, hwr⟩
      have C10 : Hid (Ctx w w10 w.heap.size n a cap l) := C9.out.wrote HR.out hwr (by omega)
      have A10 : Hid (SymRow w10 g3 s) := SymRow.wrote A9.out hwr (.inl hg3)
      have G10 : Hid (SymRow w10 g5 s) := SymRow.wrote G9.out hwr (.inr (by omega))
      have M10 : Hid (SymPart w10 g5 s.length 0 1) := SymPart.wrote M9.out hwr (.inr (by omega))
      clear hm hwr C9 A9 X9 G9 M9 x0 x1
      have hn1 : ¬ (1 + 3 * (l.length : Int)) < 0 := by omega
      have hn2 : decide ((1 + 3 * (l.length : Int)) < 0) = false := by simpa using hn1
      go_wp2_with fail
      refine ((ES.out _ _ _ _).call _ G10.out A10.out).mono ?_
      rintro e w11 ⟨rfl, hb⟩
      have C11 : Hid (Ctx w w11 w.heap.size n a cap l) := C10.out.below hb
      have A11 : Hid (SymRow w11 g3 s) := A10.out.below hb
      have M11 : Hid (SymPart w11 g5 s.length 0 1) := SymPart.below M10.out hb
      clear hb C10 A10 G10 M10 hn1 hn2
      go_wp2_with fail
      refine ((MS.out _ _).call _ M11.out).mono ?_
      rintro e w12 ⟨rfl, hp, hg⟩
      have C12 : Hid (Ctx w w12 w.heap.size n a cap l) := Ctx.grown C11.out HR.out hg (by omega)
      have A12 : Hid (SymRow w12 g3 s) := SymRow.wrote A11.out (wrote_of_grown (N := g5) (M := g5 + 1) hg (Nat.le_refl _) (by omega)) (.inl (by omega))
      have M12 : Hid (SymMarks w12 g5 s.length 1) := hp.marks
      clear hp hg C11 A11 M11
      go_wp2_with fail
      refine ((HS.out _ _).call _ M12.out).mono ?_
      rintro e w13 ⟨rfl, hb⟩
      have C13 : Hid (Ctx w w13 w.heap.size n a cap l) := C12.out.below hb
      have A13 : Hid (SymRow w13 g3 s) := A12.out.below hb
      have M13 : Hid (SymMarks w13 g5 s.length 1) := M12.out.below hb
      clear hb C12 A12 M12
      have hn1 : ¬ (1 + 2 * (s.length : Int)) < 0 := by omega
      have hn2 : decide ((1 + 2 * (s.length : Int)) < 0) = false := by simpa using hn1
      (have p0 := Blk.cellAt (i := 0) C13.out.blk rfl; have p1 := Blk.cellAt (i := 1) C13.out.blk rfl; simp only [List.getElem_toArray, List.getElem_cons_zero, List.getElem_cons_succ] at p0 p1)
      go_wp2_with fail
      refine (T.call _ C13.out.row).mono ?_
      rintro e w14 ⟨⟨b14, rfl, ho⟩, hb⟩
      have C14 : Hid (Ctx w w14 w.heap.size n a cap l) := C13.out.below hb
      have A14 : Hid (SymRow w14 g3 s) := A13.out.below hb
      have M14 : Hid (SymMarks w14 g5 s.length 1) := M13.out.below hb
      have K14 : Hid (LitsAt w14 b14 l) := ho.lits
      clear hb ho C13 A13 M13 p0 p1
      go_wp2_with fail
      refine ((HSI.out _ _).call _ K14.out).mono ?_
      rintro e w15 ⟨⟨g15, c15, ⟨rfl, hown⟩⟩, hb⟩
      have B15 : Hid (Below w.heap.size w w15) := C14.out.bel.trans (hb.mono C14.out.bel.size)
      have A15 : Hid (SymRow w15 g3 s) := A14.out.below hb
      have M15 : Hid (SymMarks w15 g5 s.length 1) := M14.out.below hb
      have K15 : Hid (SymRow w15 g15 s) := symRow_of hown rfl
      clear hb hown C14 A14 M14 K14
      have s15 := B15.out.size
      go_wp2_with fail
      refine ((ES.out _ _ _ _).call _ K15.out A15.out).mono ?_
      rintro e w16 ⟨rfl, hb⟩
      have B16 : Hid (Below w.heap.size w w16) := B15.out.trans (hb.mono s15)
      have M16 : Hid (SymMarks w16 g5 s.length 1) := M15.out.below hb
      clear hb A15 M15 K15 B15 s15
      have s16 := B16.out.size
      go_wp2_with fail
      refine ((HS.out _ _).call _ M16.out).mono ?_
      rintro e w17 ⟨rfl, hb⟩
      have B17 : Hid (Below w.heap.size w w17) := B16.out.trans (hb.mono s16)
      clear hb B16 M16
      go_wp2
      go_ret
      exact ⟨rfl, B17.out⟩
  · have Z := szPic_no (n := n) (a := a) (cap := cap) (len := l.length) (left := 1048576) (by omega) (by omega) (by omega)
    clear hrow hw
    go_enter Try.func14, Try.ntmps14
    go_wp2_with fail
    refine (Z.call _).mono ?_
    rintro e w1 ⟨rfl, hb⟩
    have HB : Hid (Below w.heap.size w w1) := by
      show Below w.heap.size w w1
      exact Below.trans (by (repeat' (first | (with_reducible exact Below.refl _ _) | (with_reducible assumption) | (with_reducible refine Below.alloc ?_ ?_ _) | (with_reducible refine Below.drew ?_) | (with_reducible refine Below.setCell ?_ ?_ _) | (with_reducible refine Below.trans ?_ (Below.mono (by assumption) ?_)) | (with_reducible exact Nat.le_refl _) | omega | (simp only [World.size_alloc, World.size_setCell, World.size_drew]; omega) | (simp; omega) | (simp; done)))) (hb.mono (by simp))
    clear hb
    go_wp2
    all_goals (go_ret; exact ⟨rfl, HB.out⟩)
end Go.Proofs.Ytlnikapkheldeaa.wFnExactSymsOfPicture
