/-
  The call of FnSymText returns true and writes nothing that was there.
-/
import Derived.Test.YticknelhfeeejaaDoorYtwo
import Derived.Deep.DeepCutAuto
import Derived.Deep.RegionHeld3
namespace Go.Proofs.YticknelhfeeejaaDoor.wFnSymText
open Go.ChangeShapes Go.WideShapes Go.ChangeAt Go.RowKit Go.Joins 
set_option linter.unusedSimpArgs false
set_option linter.unusedVariables false
set_option maxRecDepth 100000

structure ParI (s : ByteArray) (t : Int) (f ok : Bool) : Prop where
  call : ∀ w : World, Calls Tryd.prog 7 #[.string s] w fun e w' => e = .returned (.tuple #[.agg #[.int .i64 t, .bool f], .bool ok]) ∧ Below w.heap.size w w'
structure IsI (t : Int) (f b : Bool) : Prop where
  call : ∀ w : World, Calls Tryd.prog 9 #[.agg #[.int .i64 t, .bool f]] w fun e w' => e = .returned (.bool b) ∧ Below w.heap.size w w'
structure IsS (t : Int) (f b : Bool) : Prop where
  call : ∀ w : World, Calls Tryd.prog 10 #[.agg #[.int .i64 t, .bool f]] w fun e w' => e = .returned (.bool b) ∧ Below w.heap.size w w'

/-- A text is read one way. -/
theorem parse_as {s : ByteArray} {t : Int} {f ok : Bool} (h : Reads s t f ok) : ParI s t f ok := ⟨fun w => by
  refine (parseSym_i s w).mono ?_
  rintro e w1 ⟨t2, f2, ok2, ⟨rfl, hr⟩, hb⟩
  obtain ⟨rfl, rfl, rfl⟩ := h.one hr
  exact ⟨rfl, hb⟩⟩

/-- A symmetry held against itself, field by field. -/
theorem run_eq_sym (t : Int) (f : Bool) (w : World) :
    (Op.equalIn 10000 25 (.agg #[.int .i64 t, .bool f]) (.agg #[.int .i64 t, .bool f])).run Tryd.prog w = .ok true w := by
  have u := Tryd.underlying3
  have u2 := Tryd.underlying4
  have a24 := Tryd.isAgg3
  have z24 := Tryd.sizeOf3
  have a25 := Tryd.isAgg4
  have z25 := Tryd.sizeOf4
  have hS : Tryd.prog.underlying 25 = some (.struct (Tryd.prog.fieldsOf 25)) := by kernel_rfl
  have hp : Tryd.prog.stoodInHeld 25 = false := by kernel_rfl
  rw [show (10000 : Nat) = 9999 + 1 from rfl, run_equalIn_agg w 9999 25 _ _ hS hp]
  simp only [Program.fieldsOf, Tryd.underlying25]
  go_simp

set_option maxHeartbeats 1000000 in
theorem walk (a : Option Addr) (len cap : Nat) (bs : List Int) (w : World) (hrow : ByteRow w w.heap.size a len bs) :
    Calls Tryd.prog 3 #[.slice a len cap] w fun e w' => e = .returned (.bool true) ∧ Below w.heap.size w w' := by
  have HR : Hid (ByteRow w w.heap.size a len bs) := hrow
  clear hrow
  by_cases hl : len ≤ 4096
  · go_enter Tryd.func3, Tryd.ntmps3
    go_wp2_with fail
    refine (big_no _ _ _ _ hl).mono ?_
    rintro e w0 ⟨rfl, rfl⟩
    go_wp2_with fail
    refine (drawFormatSym_s a len cap bs _ ((HR.out.of (by (repeat' (first | (with_reducible exact Below.refl _ _) | (with_reducible assumption) | (with_reducible refine Below.alloc ?_ ?_ _) | (with_reducible refine Below.drew ?_) | (with_reducible refine Below.setCell ?_ ?_ _) | (with_reducible refine Below.trans ?_ (Below.mono (by assumption) ?_)) | (with_reducible exact Nat.le_refl _) | omega | (simp only [World.size_alloc, World.size_setCell, World.size_drew]; omega) | (simp; omega) | (simp; done))))).mono (by simp)) hl).mono ?_
    rintro e w1 ⟨t, f, ⟨rfl, hb⟩⟩
    have hn : w.heap.size ≤ w1.heap.size := hb.size
    obtain ⟨hc, hf⟩ := bcell hb; have HL := keepL (by (repeat (first | (with_reducible assumption) | (with_reducible apply AllLt.alloc) | (with_reducible apply AllLt.setCell) | (with_reducible apply AllLt.drew) | (with_reducible exact AllLt.nil _)))) hb; have hq := HL; simp only [AllLt, and_true, World.size_alloc, World.size_setCell, World.size_drew] at hq; have hbs := hb.size; try simp only [World.size_alloc, World.size_setCell, World.size_drew] at hbs
    obtain ⟨t2, f2, ok, hr⟩ := Reads.any (textS t f)
    have KF : ForI t f (textS t f) := ⟨fun w => formatSym_i _ _ w⟩
    have KP : ParI (textS t f) t2 f2 ok := parse_as hr
    have KI : IsI t f (isSymB t) := ⟨fun w => isSym_i _ _ w⟩
    have KS : IsS t f (isSymB t) := ⟨fun w => isSym_s _ _ w⟩
    obtain ⟨h1, h2⟩ := reads_text hr
    clear hr
    rw [← h1] at KI KS h2
    have H2 : Hid (ok = true → t2 = t ∧ f2 = f) := h2
    clear h1 h2
    generalize textS t f = x at KF KP
    go_wp2_with fail
    refine (KF.call _).mono ?_
    rintro e w2 ⟨rfl, hb2⟩
    have hb := hb2
    obtain ⟨hc, hf⟩ := bcell hb; have HL := keepL (by (repeat (first | (with_reducible assumption) | (with_reducible apply AllLt.alloc) | (with_reducible apply AllLt.setCell) | (with_reducible apply AllLt.drew) | (with_reducible exact AllLt.nil _)))) hb; have hq := HL; simp only [AllLt, and_true, World.size_alloc, World.size_setCell, World.size_drew] at hq; have hbs := hb.size; try simp only [World.size_alloc, World.size_setCell, World.size_drew] at hbs
    go_wp2_with fail
    refine (KP.call _).mono ?_
    rintro e w3 ⟨rfl, hb3⟩
    have hb := hb3
    obtain ⟨hc, hf⟩ := bcell hb; have HL := keepL (by (repeat (first | (with_reducible assumption) | (with_reducible apply AllLt.alloc) | (with_reducible apply AllLt.setCell) | (with_reducible apply AllLt.drew) | (with_reducible exact AllLt.nil _)))) hb; have hq := HL; simp only [AllLt, and_true, World.size_alloc, World.size_setCell, World.size_drew] at hq; have hbs := hb.size; try simp only [World.size_alloc, World.size_setCell, World.size_drew] at hbs
    have hB : Below w.heap.size w (w3.alloc (.cells #[.int .i64 t2, .bool f2] 25)) := by (repeat' (first | (with_reducible exact Below.refl _ _) | (with_reducible assumption) | (with_reducible refine Below.alloc ?_ ?_ _) | (with_reducible refine Below.drew ?_) | (with_reducible refine Below.setCell ?_ ?_ _) | (with_reducible refine Below.trans ?_ (Below.mono (by assumption) ?_)) | (with_reducible exact Nat.le_refl _) | omega | (simp only [World.size_alloc, World.size_setCell, World.size_drew]; omega) | (simp; omega) | (simp; done)))
    have B1 : Blk (w1.alloc (.cells #[.int .i64 t, .bool f] 25)) w1.heap.size #[.int .i64 t, .bool f] 25 := Blk.new _ _ _
    have B2 := (Blk.belowAt hb3 (Blk.belowAt hb2 B1)).alloc (o := .cells #[.int .i64 t2, .bool f2] 25)
    have B3 : Blk (w3.alloc (.cells #[.int .i64 t2, .bool f2] 25)) w3.heap.size #[.int .i64 t2, .bool f2] 25 := Blk.new _ _ _
    have c0 := Blk.cellAt (i := 0) B2 rfl
    have c1 := Blk.cellAt (i := 1) B2 rfl
    have d0 := Blk.cellAt (i := 0) B3 rfl
    have d1 := Blk.cellAt (i := 1) B3 rfl
    have l2 := B2.lt
    have l3 := B3.lt
    simp only [List.getElem_toArray, List.getElem_cons_zero, List.getElem_cons_succ] at c0 c1 d0 d1
    clear B1 B2 B3 hb hc hf HL hq hbs
    clear hb hc hf HL hq hbs
    clear hb hc hf HL hq hbs
    go_wp2_with fail
    generalize w3.alloc (.cells #[.int .i64 t2, .bool f2] 25) = W at hB c0 c1 d0 d1 l2 l3 ⊢
    generalize w3.heap.size = n3 at d0 d1 l3 ⊢
    generalize w1.heap.size = n1 at c0 c1 l2 hn ⊢
    go_cut [23] (fun s wx => s = .bool false ∧ Below w.heap.size w wx ∧ n1 < wx.heap.size ∧ n3 < wx.heap.size ∧ wx.cell? ⟨n1, 0, Option.none⟩ = some (.int .i64 (t)) ∧ wx.cell? ⟨n1, 1, Option.none⟩ = some (.bool (f)) ∧ wx.cell? ⟨n3, 0, Option.none⟩ = some (.int .i64 (t2)) ∧ wx.cell? ⟨n3, 1, Option.none⟩ = some (.bool (f2)))
    case first =>
      go_region_held3 (fun wx => Below w.heap.size w wx ∧ n1 < wx.heap.size ∧ n3 < wx.heap.size ∧ wx.cell? ⟨n1, 0, Option.none⟩ = some (.int .i64 (t)) ∧ wx.cell? ⟨n1, 1, Option.none⟩ = some (.bool (f)) ∧ wx.cell? ⟨n3, 0, Option.none⟩ = some (.int .i64 (t2)) ∧ wx.cell? ⟨n3, 1, Option.none⟩ = some (.bool (f2)))
        (((repeat' apply And.intro) <;> first | (with_reducible assumption) | (((repeat (first | (with_reducible assumption) | (with_reducible exact cNewAt (by first | rfl | (simp only [World.size_alloc, World.size_setCell, World.size_drew]; done) | omega) rfl) | (with_reducible exact sNewAt (by first | rfl | (simp only [World.size_alloc, World.size_setCell, World.size_drew]; done) | omega) rfl) | (simp; done) | (with_reducible apply cAlloc) | (with_reducible apply cDrew) | (with_reducible refine cSet (by dsimp only; omega) ?_) | (with_reducible refine cSetOff (by dsimp only; omega) ?_) | (with_reducible apply cSame) | (with_reducible refine cBelow (by assumption) ?_) | (with_reducible apply sAlloc) | (with_reducible apply sDrew) | (with_reducible refine sBelow (by assumption) ?_) | (with_reducible refine sSet (by dsimp only; omega) ?_))); first | done | (simp [*]; done)); done) | (simp only [World.size_alloc, World.size_setCell, World.size_drew]; omega) | omega | (go_keep; done) | ((repeat' (first | (with_reducible exact Below.refl _ _) | (with_reducible assumption) | (with_reducible refine Below.alloc ?_ ?_ _) | (with_reducible refine Below.drew ?_) | (with_reducible refine Below.setCell ?_ ?_ _) | (with_reducible refine Below.trans ?_ (Below.mono (by assumption) ?_)) | (with_reducible exact Nat.le_refl _) | omega | (simp only [World.size_alloc, World.size_setCell, World.size_drew]; omega) | (simp; omega) | (simp; done))); done)))
        (first | (go_at_call 9; (with_reducible refine (KI.call _).mono ?_); rintro e w4 ⟨rfl, hb⟩; obtain ⟨hc, hf⟩ := bcell hb; have HL := keepL (by (repeat (first | (with_reducible assumption) | (with_reducible apply AllLt.alloc) | (with_reducible apply AllLt.setCell) | (with_reducible apply AllLt.drew) | (with_reducible exact AllLt.nil _)))) hb; have hq := HL; simp only [AllLt, and_true, World.size_alloc, World.size_setCell, World.size_drew] at hq; have hbs := hb.size; try simp only [World.size_alloc, World.size_setCell, World.size_drew] at hbs) | (go_at_call 10; (with_reducible refine (KS.call _).mono ?_); rintro e w4 ⟨rfl, hb⟩; obtain ⟨hc, hf⟩ := bcell hb; have HL := keepL (by (repeat (first | (with_reducible assumption) | (with_reducible apply AllLt.alloc) | (with_reducible apply AllLt.setCell) | (with_reducible apply AllLt.drew) | (with_reducible exact AllLt.nil _)))) hb; have hq := HL; simp only [AllLt, and_true, World.size_alloc, World.size_setCell, World.size_drew] at hq; have hbs := hb.size; try simp only [World.size_alloc, World.size_setCell, World.size_drew] at hbs))
      all_goals (go_wp2_with fail; go_meet; refine ⟨by cases ok <;> rfl, ?_⟩; ((repeat' apply And.intro) <;> first | (with_reducible assumption) | (((repeat (first | (with_reducible assumption) | (with_reducible exact cNewAt (by first | rfl | (simp only [World.size_alloc, World.size_setCell, World.size_drew]; done) | omega) rfl) | (with_reducible exact sNewAt (by first | rfl | (simp only [World.size_alloc, World.size_setCell, World.size_drew]; done) | omega) rfl) | (simp; done) | (with_reducible apply cAlloc) | (with_reducible apply cDrew) | (with_reducible refine cSet (by dsimp only; omega) ?_) | (with_reducible refine cSetOff (by dsimp only; omega) ?_) | (with_reducible apply cSame) | (with_reducible refine cBelow (by assumption) ?_) | (with_reducible apply sAlloc) | (with_reducible apply sDrew) | (with_reducible refine sBelow (by assumption) ?_) | (with_reducible refine sSet (by dsimp only; omega) ?_))); first | done | (simp [*]; done)); done) | (simp only [World.size_alloc, World.size_setCell, World.size_drew]; omega) | omega | (go_keep; done) | ((repeat' (first | (with_reducible exact Below.refl _ _) | (with_reducible assumption) | (with_reducible refine Below.alloc ?_ ?_ _) | (with_reducible refine Below.drew ?_) | (with_reducible refine Below.setCell ?_ ?_ _) | (with_reducible refine Below.trans ?_ (Below.mono (by assumption) ?_)) | (with_reducible exact Nat.le_refl _) | omega | (simp only [World.size_alloc, World.size_setCell, World.size_drew]; omega) | (simp; omega) | (simp; done))); done)))
    case rest =>
      obtain ⟨rfl, hB, l2, l3, c0, c1, d0, d1⟩ := hcut
      cases ok
      · go_wp2_with (go_at_call 9; (with_reducible refine (KI.call _).mono ?_); rintro e w5 ⟨rfl, hb⟩; obtain ⟨hc, hf⟩ := bcell hb; have HL := keepL (by (repeat (first | (with_reducible assumption) | (with_reducible apply AllLt.alloc) | (with_reducible apply AllLt.setCell) | (with_reducible apply AllLt.drew) | (with_reducible exact AllLt.nil _)))) hb; have hq := HL; simp only [AllLt, and_true, World.size_alloc, World.size_setCell, World.size_drew] at hq; have hbs := hb.size; try simp only [World.size_alloc, World.size_setCell, World.size_drew] at hbs)
        have hB5 : Below w.heap.size w w5 := by (repeat' (first | (with_reducible exact Below.refl _ _) | (with_reducible assumption) | (with_reducible refine Below.alloc ?_ ?_ _) | (with_reducible refine Below.drew ?_) | (with_reducible refine Below.setCell ?_ ?_ _) | (with_reducible refine Below.trans ?_ (Below.mono (by assumption) ?_)) | (with_reducible exact Nat.le_refl _) | omega | (simp only [World.size_alloc, World.size_setCell, World.size_drew]; omega) | (simp; omega) | (simp; done)))
        have hs5 := hB5.size
        refine (drawParseSym_s a len cap bs _ ((HR.out.of hB5).mono hs5) hl).mono ?_
        rintro e w6 ⟨s, ⟨rfl, hb6⟩⟩
        have hB6 : Below w.heap.size w w6 := by (repeat' (first | (with_reducible exact Below.refl _ _) | (with_reducible assumption) | (with_reducible refine Below.alloc ?_ ?_ _) | (with_reducible refine Below.drew ?_) | (with_reducible refine Below.setCell ?_ ?_ _) | (with_reducible refine Below.trans ?_ (Below.mono (by assumption) ?_)) | (with_reducible exact Nat.le_refl _) | omega | (simp only [World.size_alloc, World.size_setCell, World.size_drew]; omega) | (simp; omega) | (simp; done)))
        have hs6 := hB6.size
        obtain ⟨u, g, is, hr⟩ := Reads.any s
        have KP2 : ParI s u g is := parse_as hr
        have HH : Hid (Reads s u g is) := hr
        clear hr
        go_wp2_with fail
        refine (KP2.call _).mono ?_
        rintro e w7 ⟨rfl, hb7⟩
        have hB7 : Below w.heap.size w w7 := by (repeat' (first | (with_reducible exact Below.refl _ _) | (with_reducible assumption) | (with_reducible refine Below.alloc ?_ ?_ _) | (with_reducible refine Below.drew ?_) | (with_reducible refine Below.setCell ?_ ?_ _) | (with_reducible refine Below.trans ?_ (Below.mono (by assumption) ?_)) | (with_reducible exact Nat.le_refl _) | omega | (simp only [World.size_alloc, World.size_setCell, World.size_drew]; omega) | (simp; omega) | (simp; done)))
        have hs7 := hB7.size
        rcases HH.out with ⟨_, rfl, rfl, rfl⟩ | ⟨k, _, _, hh, rfl, rfl, rfl⟩
        · clear HH
          go_wp2
          go_returns; exact ⟨rfl, by (repeat' (first | (with_reducible exact Below.refl _ _) | (with_reducible assumption) | (with_reducible refine Below.alloc ?_ ?_ _) | (with_reducible refine Below.drew ?_) | (with_reducible refine Below.setCell ?_ ?_ _) | (with_reducible refine Below.trans ?_ (Below.mono (by assumption) ?_)) | (with_reducible exact Nat.le_refl _) | omega | (simp only [World.size_alloc, World.size_setCell, World.size_drew]; omega) | (simp; omega) | (simp; done)))⟩
        · clear HH
          have KF2 : ForI ((k : Int) % 4) (decide (4 ≤ (k : Int))) (textS ((k : Int) % 4) (decide (4 ≤ (k : Int)))) := ⟨fun w => formatSym_i _ _ w⟩
          have he : ((textS ((k : Int) % 4) (decide (4 ≤ (k : Int)))).toList == s.toList) = true := hh
          clear hh KP2
          generalize textS ((k : Int) % 4) (decide (4 ≤ (k : Int))) = y at KF2 he
          generalize (k : Int) % 4 = u at KF2 ⊢
          generalize decide (4 ≤ (k : Int)) = g at KF2 ⊢
          go_wp2_with (go_at_call 8; (with_reducible refine (KF2.call _).mono ?_); rintro e w8 ⟨rfl, hb8⟩)
          go_returns; exact ⟨rfl, by (repeat' (first | (with_reducible exact Below.refl _ _) | (with_reducible assumption) | (with_reducible refine Below.alloc ?_ ?_ _) | (with_reducible refine Below.drew ?_) | (with_reducible refine Below.setCell ?_ ?_ _) | (with_reducible refine Below.trans ?_ (Below.mono (by assumption) ?_)) | (with_reducible exact Nat.le_refl _) | omega | (simp only [World.size_alloc, World.size_setCell, World.size_drew]; omega) | (simp; omega) | (simp; done)))⟩
      · obtain ⟨rfl, rfl⟩ := H2.out rfl
        have hE := fun w => run_eq_sym t2 f2 w
        go_wp2_with (go_at_call 9; (with_reducible refine (KI.call _).mono ?_); rintro e w5 ⟨rfl, hb⟩; obtain ⟨hc, hf⟩ := bcell hb; have HL := keepL (by (repeat (first | (with_reducible assumption) | (with_reducible apply AllLt.alloc) | (with_reducible apply AllLt.setCell) | (with_reducible apply AllLt.drew) | (with_reducible exact AllLt.nil _)))) hb; have hq := HL; simp only [AllLt, and_true, World.size_alloc, World.size_setCell, World.size_drew] at hq; have hbs := hb.size; try simp only [World.size_alloc, World.size_setCell, World.size_drew] at hbs)
        have hB5 : Below w.heap.size w w5 := by (repeat' (first | (with_reducible exact Below.refl _ _) | (with_reducible assumption) | (with_reducible refine Below.alloc ?_ ?_ _) | (with_reducible refine Below.drew ?_) | (with_reducible refine Below.setCell ?_ ?_ _) | (with_reducible refine Below.trans ?_ (Below.mono (by assumption) ?_)) | (with_reducible exact Nat.le_refl _) | omega | (simp only [World.size_alloc, World.size_setCell, World.size_drew]; omega) | (simp; omega) | (simp; done)))
        have hs5 := hB5.size
        refine (drawParseSym_s a len cap bs _ ((HR.out.of hB5).mono hs5) hl).mono ?_
        rintro e w6 ⟨s, ⟨rfl, hb6⟩⟩
        have hB6 : Below w.heap.size w w6 := by (repeat' (first | (with_reducible exact Below.refl _ _) | (with_reducible assumption) | (with_reducible refine Below.alloc ?_ ?_ _) | (with_reducible refine Below.drew ?_) | (with_reducible refine Below.setCell ?_ ?_ _) | (with_reducible refine Below.trans ?_ (Below.mono (by assumption) ?_)) | (with_reducible exact Nat.le_refl _) | omega | (simp only [World.size_alloc, World.size_setCell, World.size_drew]; omega) | (simp; omega) | (simp; done)))
        have hs6 := hB6.size
        obtain ⟨u, g, is, hr⟩ := Reads.any s
        have KP2 : ParI s u g is := parse_as hr
        have HH : Hid (Reads s u g is) := hr
        clear hr
        go_wp2_with fail
        refine (KP2.call _).mono ?_
        rintro e w7 ⟨rfl, hb7⟩
        have hB7 : Below w.heap.size w w7 := by (repeat' (first | (with_reducible exact Below.refl _ _) | (with_reducible assumption) | (with_reducible refine Below.alloc ?_ ?_ _) | (with_reducible refine Below.drew ?_) | (with_reducible refine Below.setCell ?_ ?_ _) | (with_reducible refine Below.trans ?_ (Below.mono (by assumption) ?_)) | (with_reducible exact Nat.le_refl _) | omega | (simp only [World.size_alloc, World.size_setCell, World.size_drew]; omega) | (simp; omega) | (simp; done)))
        have hs7 := hB7.size
        rcases HH.out with ⟨_, rfl, rfl, rfl⟩ | ⟨k, _, _, hh, rfl, rfl, rfl⟩
        · clear HH
          go_wp2
          go_returns; exact ⟨rfl, by (repeat' (first | (with_reducible exact Below.refl _ _) | (with_reducible assumption) | (with_reducible refine Below.alloc ?_ ?_ _) | (with_reducible refine Below.drew ?_) | (with_reducible refine Below.setCell ?_ ?_ _) | (with_reducible refine Below.trans ?_ (Below.mono (by assumption) ?_)) | (with_reducible exact Nat.le_refl _) | omega | (simp only [World.size_alloc, World.size_setCell, World.size_drew]; omega) | (simp; omega) | (simp; done)))⟩
        · clear HH
          have KF2 : ForI ((k : Int) % 4) (decide (4 ≤ (k : Int))) (textS ((k : Int) % 4) (decide (4 ≤ (k : Int)))) := ⟨fun w => formatSym_i _ _ w⟩
          have he : ((textS ((k : Int) % 4) (decide (4 ≤ (k : Int)))).toList == s.toList) = true := hh
          clear hh KP2
          generalize textS ((k : Int) % 4) (decide (4 ≤ (k : Int))) = y at KF2 he
          generalize (k : Int) % 4 = u at KF2 ⊢
          generalize decide (4 ≤ (k : Int)) = g at KF2 ⊢
          go_wp2_with (go_at_call 8; (with_reducible refine (KF2.call _).mono ?_); rintro e w8 ⟨rfl, hb8⟩)
          go_returns; exact ⟨rfl, by (repeat' (first | (with_reducible exact Below.refl _ _) | (with_reducible assumption) | (with_reducible refine Below.alloc ?_ ?_ _) | (with_reducible refine Below.drew ?_) | (with_reducible refine Below.setCell ?_ ?_ _) | (with_reducible refine Below.trans ?_ (Below.mono (by assumption) ?_)) | (with_reducible exact Nat.le_refl _) | omega | (simp only [World.size_alloc, World.size_setCell, World.size_drew]; omega) | (simp; omega) | (simp; done)))⟩
  · go_enter Tryd.func3, Tryd.ntmps3
    go_wp2_with fail
    refine (big_yes _ _ _ _ hl).mono ?_
    rintro e w0 ⟨rfl, rfl⟩
    go_wp2
    all_goals (go_returns; exact ⟨rfl, by (repeat' (first | (with_reducible exact Below.refl _ _) | (with_reducible assumption) | (with_reducible refine Below.alloc ?_ ?_ _) | (with_reducible refine Below.drew ?_) | (with_reducible refine Below.setCell ?_ ?_ _) | (with_reducible refine Below.trans ?_ (Below.mono (by assumption) ?_)) | (with_reducible exact Nat.le_refl _) | omega | (simp only [World.size_alloc, World.size_setCell, World.size_drew]; omega) | (simp; omega) | (simp; done)))⟩)
end Go.Proofs.YticknelhfeeejaaDoor.wFnSymText
