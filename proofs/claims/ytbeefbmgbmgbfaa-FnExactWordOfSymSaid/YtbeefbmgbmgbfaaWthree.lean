/-
  A word of mirrors as the model reads it.
-/
import Derived.Test.YtbeefbmgbmgbfaaWone
import Derived.Deep.RegionWith
namespace Go.Proofs.Ytbeefbmgbmgbfaa
open Go.ChangeShapes Go.WideShapes Go.ChangeAt Go.RowKit Go.Joins 
set_option linter.unusedSimpArgs false
set_option linter.unusedVariables false
theorem l1In_q (x lo hi : Int) (w : World) :
    Calls Try.prog 62 #[.int .i64 x, .int .i64 lo, .int .i64 hi] w fun e w' => e = .returned (.bool (inB x lo hi)) ∧ w = w' := by
  by_cases h : lo ≤ x
  · by_cases h' : x ≤ hi
    · rw [inB_yes h h']
      go_enter Try.func62, Try.ntmps62
      go_wp2
      go_ret
      exact ⟨rfl, rfl⟩
    · rw [inB_no (fun q => h' q.2)]
      go_enter Try.func62, Try.ntmps62
      go_wp2
      go_ret
      exact ⟨rfl, rfl⟩
  · rw [inB_no (fun q => h q.1)]
    go_enter Try.func62, Try.ntmps62
    go_wp2
    go_ret
    exact ⟨rfl, rfl⟩

theorem l1Mirror_s (kind x : Int) (w : World) :
    Calls Try.prog 75 #[.int .i64 kind, .int .i64 x] w fun e w' => e = .returned (.tuple #[.agg #[.int .i64 ((mirr kind x).getD (0, false)).1, .bool ((mirr kind x).getD (0, false)).2], .bool (mirr kind x).isSome]) ∧ Below w.heap.size w w' := by
  by_cases x0 : x = 0
  · subst x0
    by_cases hk : 1 ≤ kind ∧ kind ≤ 3
    · have e : mirr kind 0 = some (0, true) := by simp [mirr, hk]
      rw [e]
      have hI := inB_yes hk.1 hk.2
      go_enter Try.func75, Try.ntmps75
      go_wp2_with (go_at_call 62; refine (l1In_q _ _ _ _).mono ?_; rintro e w1 ⟨rfl, rfl⟩)
      go_returns; exact ⟨rfl, by (repeat' (first | (with_reducible exact Below.refl _ _) | (with_reducible assumption) | (with_reducible refine Below.alloc ?_ ?_ _) | (with_reducible refine Below.drew ?_) | (with_reducible refine Below.setCell ?_ ?_ _) | (with_reducible refine Below.trans ?_ (Below.mono (by assumption) ?_)) | (with_reducible exact Nat.le_refl _) | omega | (simp only [World.size_alloc, World.size_setCell, World.size_drew]; omega) | (simp; omega) | (simp; done)))⟩
    · have e : mirr kind 0 = Option.none := by simp [mirr, hk]
      rw [e]
      have hI := inB_no hk
      go_enter Try.func75, Try.ntmps75
      go_wp2_with (go_at_call 62; refine (l1In_q _ _ _ _).mono ?_; rintro e w1 ⟨rfl, rfl⟩)
      go_returns; exact ⟨rfl, by (repeat' (first | (with_reducible exact Below.refl _ _) | (with_reducible assumption) | (with_reducible refine Below.alloc ?_ ?_ _) | (with_reducible refine Below.drew ?_) | (with_reducible refine Below.setCell ?_ ?_ _) | (with_reducible refine Below.trans ?_ (Below.mono (by assumption) ?_)) | (with_reducible exact Nat.le_refl _) | omega | (simp only [World.size_alloc, World.size_setCell, World.size_drew]; omega) | (simp; omega) | (simp; done)))⟩
  · by_cases x1 : x = 1
    · subst x1
      by_cases k2 : kind = 2
      · subst k2
        have e : mirr 2 1 = some (2, true) := by simp [mirr]
        rw [e]
        go_enter Try.func75, Try.ntmps75
        go_wp2
        go_returns; exact ⟨rfl, by (repeat' (first | (with_reducible exact Below.refl _ _) | (with_reducible assumption) | (with_reducible refine Below.alloc ?_ ?_ _) | (with_reducible refine Below.drew ?_) | (with_reducible refine Below.setCell ?_ ?_ _) | (with_reducible refine Below.trans ?_ (Below.mono (by assumption) ?_)) | (with_reducible exact Nat.le_refl _) | omega | (simp only [World.size_alloc, World.size_setCell, World.size_drew]; omega) | (simp; omega) | (simp; done)))⟩
      · by_cases k3 : kind = 3
        · subst k3
          have e : mirr 3 1 = some (1, true) := by simp [mirr]
          rw [e]
          go_enter Try.func75, Try.ntmps75
          go_wp2
          go_returns; exact ⟨rfl, by (repeat' (first | (with_reducible exact Below.refl _ _) | (with_reducible assumption) | (with_reducible refine Below.alloc ?_ ?_ _) | (with_reducible refine Below.drew ?_) | (with_reducible refine Below.setCell ?_ ?_ _) | (with_reducible refine Below.trans ?_ (Below.mono (by assumption) ?_)) | (with_reducible exact Nat.le_refl _) | omega | (simp only [World.size_alloc, World.size_setCell, World.size_drew]; omega) | (simp; omega) | (simp; done)))⟩
        · have e : mirr kind 1 = Option.none := by simp [mirr, k2, k3]
          rw [e]
          have q2 : (kind == 2) = false := by simpa using k2
          have q3 : (kind == 3) = false := by simpa using k3
          clear k2 k3 e x0
          go_enter Try.func75, Try.ntmps75
          go_wp2
          go_returns; exact ⟨rfl, by (repeat' (first | (with_reducible exact Below.refl _ _) | (with_reducible assumption) | (with_reducible refine Below.alloc ?_ ?_ _) | (with_reducible refine Below.drew ?_) | (with_reducible refine Below.setCell ?_ ?_ _) | (with_reducible refine Below.trans ?_ (Below.mono (by assumption) ?_)) | (with_reducible exact Nat.le_refl _) | omega | (simp only [World.size_alloc, World.size_setCell, World.size_drew]; omega) | (simp; omega) | (simp; done)))⟩
    · have e : mirr kind x = Option.none := by simp [mirr, x0, x1]
      rw [e]
      have q0 : (x == 0) = false := by simpa using x0
      have q1 : (x == 1) = false := by simpa using x1
      clear x0 x1 e
      go_enter Try.func75, Try.ntmps75
      go_wp2
      go_returns; exact ⟨rfl, by (repeat' (first | (with_reducible exact Below.refl _ _) | (with_reducible assumption) | (with_reducible refine Below.alloc ?_ ?_ _) | (with_reducible refine Below.drew ?_) | (with_reducible refine Below.setCell ?_ ?_ _) | (with_reducible refine Below.trans ?_ (Below.mono (by assumption) ?_)) | (with_reducible exact Nat.le_refl _) | omega | (simp only [World.size_alloc, World.size_setCell, World.size_drew]; omega) | (simp; omega) | (simp; done)))⟩

/-- What the model's loop over a word answers. -/
def l1WordR (kind : Int) (z : List Int) : (Int × Bool) × Bool :=
  match wordFrom kind (0, false) z with
  | some p => (p, decide (z.length ≤ 24) && inB kind 0 3)
  | Option.none => ((0, false), false)

set_option maxHeartbeats 4000000 in
set_option maxRecDepth 1000000 in
theorem l1Word_s (kind : Int) (g cap : Nat) (z : List Int) (w : World) (hz : IntRow w g z) (hn : z.length ≤ 1048576) :
    Calls Try.prog 65 #[.int .i64 kind, .slice (some ⟨g, 0, Option.none⟩) z.length cap] w fun e w' => e = .returned (.tuple #[.agg #[.int .i64 (l1WordR kind z).1.1, .bool (l1WordR kind z).1.2], .bool (l1WordR kind z).2]) ∧ Below w.heap.size w w' := by
  generalize hR : l1WordR kind z = R
  have HR : Hid (l1WordR kind z = R) := hR
  clear hR
  have HZ : Hid (IntRow w g z) := hz
  clear hz
  go_enter Try.func65, Try.ntmps65
  go_wp2
  go_loopw [14] (fun i wr => ∃ (k : Nat) (p : Int × Bool), k ≤ z.length ∧ i = .int .i64 k ∧ wordFrom kind (0, false) (z.take k) = some p ∧ Blk wr (w.heap.size + 1) #[.int .i64 p.1, .bool p.2] 25 ∧ Blk wr w.heap.size #[.int .i64 0, .bool false] 25 ∧ Below w.heap.size w wr)
      (fun i _ => z.length - (intOf i).toNat)
  case atStart =>
    refine ⟨0, (0, false), by omega, rfl, rfl, ?_, (Blk.new _ _ _).alloc, by (repeat' (first | (with_reducible exact Below.refl _ _) | (with_reducible assumption) | (with_reducible refine Below.alloc ?_ ?_ _) | (with_reducible refine Below.drew ?_) | (with_reducible refine Below.setCell ?_ ?_ _) | (with_reducible refine Below.trans ?_ (Below.mono (by assumption) ?_)) | (with_reducible exact Nat.le_refl _) | omega | (simp only [World.size_alloc, World.size_setCell, World.size_drew]; omega) | (simp; omega) | (simp; done)))⟩
    have := Blk.new (w.alloc (.cells #[.int .i64 0, .bool false] 25)) #[.int .i64 0, .bool false] 25
    simpa using this
  case round =>
    obtain ⟨k, p, hk, rfl, hp, hB7, hB4, hbel⟩ := hrel
    have HP : Hid (wordFrom kind (0, false) (z.take k) = some p) := hp
    clear hp
    have c70 : wr.cell? ⟨w.heap.size + 1, 0, Option.none⟩ = some (.int .i64 p.1) := hB7.cell 0
    have c71 : wr.cell? ⟨w.heap.size + 1, 1, Option.none⟩ = some (.bool p.2) := hB7.cell 1
    have c40 : wr.cell? ⟨w.heap.size, 0, Option.none⟩ = some (.int .i64 0) := hB4.cell 0
    have c41 : wr.cell? ⟨w.heap.size, 1, Option.none⟩ = some (.bool false) := hB4.cell 1
    have f70 := hB7.free 0
    have f71 := hB7.free 1
    have f40 := hB4.free 0
    have f41 := hB4.free 1
    have hl7 := hB7.lt
    have hl4 := hB4.lt
    have HB7 : Hid (Blk wr (w.heap.size + 1) #[.int .i64 p.1, .bool p.2] 25) := hB7
    have HB4 : Hid (Blk wr w.heap.size #[.int .i64 0, .bool false] 25) := hB4
    clear hB7 hB4
    by_cases hlt : k < z.length
    · have hx := (HZ.out).below hbel k hlt
      generalize hxe : z.getD k 0 = x at hx
      have HXE : Hid (z.getD k 0 = x) := hxe
      clear hxe
      cases hm : mirr kind x with
      | some q =>
        have HS : Hid (wordFrom kind (0, false) (z.take (k + 1)) = some (thenP p q)) := by
          show wordFrom kind (0, false) (z.take (k + 1)) = some (thenP p q)
          rw [take_snoc_getD z k hlt, wordFrom_snoc, HP.out, HXE.out, hm]
          rfl
        have hpr := wordFrom_sym (by decide) (by decide) HP.out
        have hqr := mirr_sym hm
        have CM : ∀ W, Calls Try.prog 75 #[.int .i64 kind, .int .i64 x] W fun e w' => e = .returned (.tuple #[.agg #[.int .i64 q.1, .bool q.2], .bool true]) ∧ Below W.heap.size W w' := fun W => by
          have := l1Mirror_s kind x W
          rw [hm] at this
          exact this
        clear hm
        go_wp2_with (first | ((go_at_call 75; refine (CM _).mono ?_; rintro e w1 ⟨rfl, hb⟩; obtain ⟨hc, hf⟩ := bcell hb; have HL := keepL (by (repeat (first | (with_reducible assumption) | (with_reducible apply AllLt.alloc) | (with_reducible apply AllLt.setCell) | (with_reducible apply AllLt.drew) | (with_reducible exact AllLt.nil _)))) hb; have hq := HL; simp only [AllLt, and_true, World.size_alloc, World.size_setCell, World.size_drew] at hq; have hbs := hb.size; try simp only [World.size_alloc, World.size_setCell, World.size_drew] at hbs); have hl77 : w.heap.size + 1 < w1.heap.size := (by omega); have hl44 : w.heap.size < w1.heap.size := (by omega)) | (go_at_call 63; refine (l1Then_s _ _ _ _ _ hpr.1 hpr.2 hqr.1 hqr.2).mono ?_; rintro e w2 ⟨rfl, hb2⟩; obtain ⟨hc, hf⟩ := bcell hb2))
        have hB7 := HB7.out.below hb
        have hB4 := HB4.out.below hb
        have hB7' : Blk ((w2.setCell ⟨w.heap.size + 1, 0, Option.none⟩ (.int .i64 (thenT p.1 q.1 q.2))).setCell ⟨w.heap.size + 1, 1, Option.none⟩ (.bool (thenF p.1 q.1 p.2 q.2))) (w.heap.size + 1) #[.int .i64 (thenT p.1 q.1 q.2), .bool (thenF p.1 q.1 p.2 q.2)] 25 := ((hB7.alloc.below hb2).set).set
        have hB4' : Blk ((w2.setCell ⟨w.heap.size + 1, 0, Option.none⟩ (.int .i64 (thenT p.1 q.1 q.2))).setCell ⟨w.heap.size + 1, 1, Option.none⟩ (.bool (thenF p.1 q.1 p.2 q.2))) w.heap.size #[.int .i64 0, .bool false] 25 := ((hB4.alloc.below hb2).other (by dsimp only; omega)).other (by dsimp only; omega)
        have hds := hbel.size
        go_roundw
        case rel => exact ⟨k + 1, thenP p q, by omega, by go_num, by rw [HS.out], hB7', hB4', by (repeat' (first | (with_reducible exact Below.refl _ _) | (with_reducible assumption) | (with_reducible refine Below.alloc ?_ ?_ _) | (with_reducible refine Below.drew ?_) | (with_reducible refine Below.setCell ?_ ?_ _) | (with_reducible refine Below.trans ?_ (Below.mono (by assumption) ?_)) | (with_reducible exact Nat.le_refl _) | omega | (simp only [World.size_alloc, World.size_setCell, World.size_drew]; omega) | (simp; omega) | (simp; done)))⟩
        case measure => simp [intOf]; omega
      | none =>
        have e : R = ((0, false), false) := by
          rw [← HR.out]
          have h0 : wordFrom kind (0, false) (z.take (k + 1)) = Option.none := by
            rw [take_snoc_getD z k hlt, wordFrom_snoc, HP.out, HXE.out, hm]
            rfl
          unfold l1WordR
          rw [wordFrom_none h0]
        subst e
        have CM : ∀ W, Calls Try.prog 75 #[.int .i64 kind, .int .i64 x] W fun e w' => e = .returned (.tuple #[.agg #[.int .i64 0, .bool false], .bool false]) ∧ Below W.heap.size W w' := fun W => by
          have := l1Mirror_s kind x W
          rw [hm] at this
          exact this
        clear hm
        go_wp2_with ((go_at_call 75; refine (CM _).mono ?_; rintro e w1 ⟨rfl, hb⟩; obtain ⟨hc, hf⟩ := bcell hb; have HL := keepL (by (repeat (first | (with_reducible assumption) | (with_reducible apply AllLt.alloc) | (with_reducible apply AllLt.setCell) | (with_reducible apply AllLt.drew) | (with_reducible exact AllLt.nil _)))) hb; have hq := HL; simp only [AllLt, and_true, World.size_alloc, World.size_setCell, World.size_drew] at hq; have hbs := hb.size; try simp only [World.size_alloc, World.size_setCell, World.size_drew] at hbs); have hl77 : w.heap.size + 1 < w1.heap.size := (by omega); have hl44 : w.heap.size < w1.heap.size := (by omega))
        have hds := hbel.size
        exact bodyPost_ret (v := .tuple #[.agg #[.int .i64 0, .bool false], .bool false]) (by simp [results, Try.results65, go_sem, *]) rfl ⟨rfl, by (repeat' (first | (with_reducible exact Below.refl _ _) | (with_reducible assumption) | (with_reducible refine Below.alloc ?_ ?_ _) | (with_reducible refine Below.drew ?_) | (with_reducible refine Below.setCell ?_ ?_ _) | (with_reducible refine Below.trans ?_ (Below.mono (by assumption) ?_)) | (with_reducible exact Nat.le_refl _) | omega | (simp only [World.size_alloc, World.size_setCell, World.size_drew]; omega) | (simp; omega) | (simp; done)))⟩
    · have hkn : k = z.length := by omega
      subst hkn
      have e : R = (p, decide (z.length ≤ 24) && inB kind 0 3) := by
        rw [← HR.out]
        have h0 := HP.out
        rw [List.take_length] at h0
        unfold l1WordR
        rw [h0]
      have hds := hbel.size
      by_cases h24 : z.length ≤ 24
      · have e2 : R = (p, inB kind 0 3) := by rw [e]; simp [h24]
        clear e
        subst e2
        clear HB7 HB4
        have hd2 : ((z.length : Int) ≤ 24) := by omega
        go_wp2_with fail
        go_region_with (go_at_call 62; refine (l1In_q _ _ _ _).mono ?_; rintro e w1 ⟨rfl, rfl⟩)
        all_goals (go_wp2; exact bodyPost_ret (v := .tuple #[.agg #[.int .i64 p.1, .bool p.2], .bool (inB kind 0 3)]) (by simp [results, Try.results65, go_sem, *]) rfl ⟨rfl, by (repeat' (first | (with_reducible exact Below.refl _ _) | (with_reducible assumption) | (with_reducible refine Below.alloc ?_ ?_ _) | (with_reducible refine Below.drew ?_) | (with_reducible refine Below.setCell ?_ ?_ _) | (with_reducible refine Below.trans ?_ (Below.mono (by assumption) ?_)) | (with_reducible exact Nat.le_refl _) | omega | (simp only [World.size_alloc, World.size_setCell, World.size_drew]; omega) | (simp; omega) | (simp; done)))⟩)
      · have e2 : R = (p, false) := by rw [e]; simp [h24]
        clear e
        subst e2
        clear HB7 HB4
        have hd2 : decide ((z.length : Int) ≤ 24) = false := by simp; omega
        have hd3 : decide (z.length ≤ 24) = false := by simp; omega
        have hd4 : ¬ ((z.length : Int) ≤ 24) := by omega
        have hd5 : (24 : Int) < (z.length : Int) := by omega
        go_wp2_with fail
        go_region
        all_goals (go_wp2; exact bodyPost_ret (v := .tuple #[.agg #[.int .i64 p.1, .bool p.2], .bool false]) (by simp [results, Try.results65, go_sem, *]) rfl ⟨rfl, by (repeat' (first | (with_reducible exact Below.refl _ _) | (with_reducible assumption) | (with_reducible refine Below.alloc ?_ ?_ _) | (with_reducible refine Below.drew ?_) | (with_reducible refine Below.setCell ?_ ?_ _) | (with_reducible refine Below.trans ?_ (Below.mono (by assumption) ?_)) | (with_reducible exact Nat.le_refl _) | omega | (simp only [World.size_alloc, World.size_setCell, World.size_drew]; omega) | (simp; omega) | (simp; done)))⟩)

theorem wordR_of (kind : Int) (z : List Int) : wordR kind z = if (l1WordR kind z).2 then l1WordR kind z else ((0, false), false) := by
  unfold wordR l1WordR inB
  cases wordFrom kind (0, false) z with
  | none => simp
  | some p =>
    by_cases h1 : 0 ≤ kind <;> by_cases h2 : kind ≤ 3 <;> by_cases h3 : z.length ≤ 24 <;> simp [h1, h2, h3]

theorem symOfWord_s (kind : Int) (g cap : Nat) (z : List Int) (w : World) (hz : IntRow w g z) (hn : z.length ≤ 1048576) :
    Calls Try.prog 39 #[.int .i64 kind, .slice (some ⟨g, 0, Option.none⟩) z.length cap] w fun e w' => e = .returned (.tuple #[.agg #[.int .i64 (wordR kind z).1.1, .bool (wordR kind z).1.2], .bool (wordR kind z).2]) ∧ Below w.heap.size w w' := by
  have C : ∀ W, IntRow W g z → Calls Try.prog 65 #[.int .i64 kind, .slice (some ⟨g, 0, Option.none⟩) z.length cap] W fun e w' => e = .returned (.tuple #[.agg #[.int .i64 (l1WordR kind z).1.1, .bool (l1WordR kind z).1.2], .bool (l1WordR kind z).2]) ∧ Below W.heap.size W w' := fun W h => l1Word_s kind g cap z W h hn
  have hg : z = [] ∨ g < w.heap.size := by
    cases z with
    | nil => exact .inl rfl
    | cons x l => exact .inr (cell_lt (hz 0 (by simp)))
  rw [wordR_of]
  generalize l1WordR kind z = q at C
  obtain ⟨⟨t, f⟩, b⟩ := q
  have hz1 : IntRow (w.alloc (.cells #[.int .i64 0, .bool false] 25)) g z := fun k hk => cAlloc (hz k hk)
  have C1 := C _ hz1
  clear C hz1 hz
  cases b with
  | true =>
    go_enter Try.func39, Try.ntmps39
    go_wp2_with fail
    refine C1.mono ?_
    rintro e w1 ⟨rfl, hb⟩
    obtain ⟨hc, hf⟩ := bcell hb; have HL := keepL (by (repeat (first | (with_reducible assumption) | (with_reducible apply AllLt.alloc) | (with_reducible apply AllLt.setCell) | (with_reducible apply AllLt.drew) | (with_reducible exact AllLt.nil _)))) hb; have hq := HL; simp only [AllLt, and_true, World.size_alloc, World.size_setCell, World.size_drew] at hq; have hbs := hb.size; try simp only [World.size_alloc, World.size_setCell, World.size_drew] at hbs
    go_wp2
    exact bodyPost_ret (v := .tuple #[.agg #[.int .i64 t, .bool f], .bool true]) (by simp [results, Try.results39, go_sem, *]) rfl ⟨rfl, by (repeat' (first | (with_reducible exact Below.refl _ _) | (with_reducible assumption) | (with_reducible refine Below.alloc ?_ ?_ _) | (with_reducible refine Below.drew ?_) | (with_reducible refine Below.setCell ?_ ?_ _) | (with_reducible refine Below.trans ?_ (Below.mono (by assumption) ?_)) | (with_reducible exact Nat.le_refl _) | omega | (simp only [World.size_alloc, World.size_setCell, World.size_drew]; omega) | (simp; omega) | (simp; done)))⟩
  | false =>
    go_enter Try.func39, Try.ntmps39
    go_wp2_with fail
    refine C1.mono ?_
    rintro e w1 ⟨rfl, hb⟩
    obtain ⟨hc, hf⟩ := bcell hb; have HL := keepL (by (repeat (first | (with_reducible assumption) | (with_reducible apply AllLt.alloc) | (with_reducible apply AllLt.setCell) | (with_reducible apply AllLt.drew) | (with_reducible exact AllLt.nil _)))) hb; have hq := HL; simp only [AllLt, and_true, World.size_alloc, World.size_setCell, World.size_drew] at hq; have hbs := hb.size; try simp only [World.size_alloc, World.size_setCell, World.size_drew] at hbs
    go_wp2
    exact bodyPost_ret (v := .tuple #[.agg #[.int .i64 0, .bool false], .bool false]) (by simp [results, Try.results39, go_sem, *]) rfl ⟨rfl, by (repeat' (first | (with_reducible exact Below.refl _ _) | (with_reducible assumption) | (with_reducible refine Below.alloc ?_ ?_ _) | (with_reducible refine Below.drew ?_) | (with_reducible refine Below.setCell ?_ ?_ _) | (with_reducible refine Below.trans ?_ (Below.mono (by assumption) ?_)) | (with_reducible exact Nat.le_refl _) | omega | (simp only [World.size_alloc, World.size_setCell, World.size_drew]; omega) | (simp; omega) | (simp; done)))⟩
end Go.Proofs.Ytbeefbmgbmgbfaa
