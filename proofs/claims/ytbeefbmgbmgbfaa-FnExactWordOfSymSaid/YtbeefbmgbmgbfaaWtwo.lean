/-
  A word of mirrors as the program reads it.
-/
import Derived.Test.YtbeefbmgbmgbfaaWone
namespace Go.Proofs.Ytbeefbmgbmgbfaa
open Go.ChangeShapes Go.WideShapes Go.ChangeAt Go.RowKit Go.Joins 
set_option linter.unusedSimpArgs false
set_option linter.unusedVariables false
set_option maxHeartbeats 4000000 in
set_option maxRecDepth 1000000 in
theorem symOfWord_i (kind : Int) (g cap : Nat) (z : List Int) (w : World) (hz : IntRow w g z) (hn : z.length ≤ 1048576) :
    Calls Try.prog 24 #[.int .i64 kind, .slice (some ⟨g, 0, Option.none⟩) z.length cap] w fun e w' => e = .returned (.tuple #[.agg #[.int .i64 (wordR kind z).1.1, .bool (wordR kind z).1.2], .bool (wordR kind z).2]) ∧ Below w.heap.size w w' := by
  generalize hR : wordR kind z = R
  have HR : Hid (wordR kind z = R) := hR
  clear hR
  by_cases hpre : (0 ≤ kind ∧ kind ≤ 3) ∧ z.length ≤ 24
  · obtain ⟨hkind, h24⟩ := hpre
    have hI := inB_yes hkind.1 hkind.2
    have HZ : Hid (IntRow w g z) := hz
    clear hz
    go_enter Try.func24, Try.ntmps24
    go_wp2_with (first | (go_at_call 56; refine (isKind_i _ _).mono ?_; rintro e w1 ⟨rfl, rfl⟩) | (go_at_call 57; refine (mirrorsOf_i _ _).mono ?_; rintro e w1 ⟨gm, rfl, hmir, hgm, hgm2, hb⟩; obtain ⟨hc, hf⟩ := bcell hb; have HL := keepL (by (repeat (first | (with_reducible assumption) | (with_reducible apply AllLt.alloc) | (with_reducible apply AllLt.setCell) | (with_reducible apply AllLt.drew) | (with_reducible exact AllLt.nil _)))) hb; have hq := HL; simp only [AllLt, and_true, World.size_alloc, World.size_setCell, World.size_drew] at hq; have hbs := hb.size; try simp only [World.size_alloc, World.size_setCell, World.size_drew] at hbs))
    have hw1 : Blk w1 w.heap.size #[.int .i64 0, .bool false] 25 := (Blk.new w _ _).below hb
    have hbw : Below w.heap.size w w1 := by (repeat' (first | (with_reducible exact Below.refl _ _) | (with_reducible assumption) | (with_reducible refine Below.alloc ?_ ?_ _) | (with_reducible refine Below.drew ?_) | (with_reducible refine Below.setCell ?_ ?_ _) | (with_reducible refine Below.trans ?_ (Below.mono (by assumption) ?_)) | (with_reducible exact Nat.le_refl _) | omega | (simp only [World.size_alloc, World.size_setCell, World.size_drew]; omega) | (simp; omega) | (simp; done)))
    simp only [World.size_alloc] at hgm
    go_loopw [24] (fun i wr => ∃ (k : Nat) (p : Int × Bool), k ≤ z.length ∧ i = .int .i64 k ∧ wordFrom kind (0, false) (z.take k) = some p ∧ Blk wr w1.heap.size #[.int .i64 p.1, .bool p.2] 25 ∧ Blk wr w.heap.size #[.int .i64 0, .bool false] 25 ∧ SymRow wr gm (mirL kind) ∧ Below w.heap.size w wr)
      (fun i _ => z.length - (intOf i).toNat)
    case atStart => exact ⟨0, (0, false), by omega, rfl, rfl, Blk.new _ _ _, hw1.alloc, hmir.alloc, by (repeat' (first | (with_reducible exact Below.refl _ _) | (with_reducible assumption) | (with_reducible refine Below.alloc ?_ ?_ _) | (with_reducible refine Below.drew ?_) | (with_reducible refine Below.setCell ?_ ?_ _) | (with_reducible refine Below.trans ?_ (Below.mono (by assumption) ?_)) | (with_reducible exact Nat.le_refl _) | omega | (simp only [World.size_alloc, World.size_setCell, World.size_drew]; omega) | (simp; omega) | (simp; done)))⟩
    case round =>
      obtain ⟨k, p, hk, rfl, hp, hB7, hB4, hM, hbel⟩ := hrel
      have HP : Hid (wordFrom kind (0, false) (z.take k) = some p) := hp
      clear hp
      by_cases hlt : k < z.length
      · have hx := (HZ.out).below hbel k hlt
        generalize hxe : z.getD k 0 = x at hx
        have c70 : wr.cell? ⟨w1.heap.size, 0, Option.none⟩ = some (.int .i64 p.1) := hB7.cell 0
        have c71 : wr.cell? ⟨w1.heap.size, 1, Option.none⟩ = some (.bool p.2) := hB7.cell 1
        have c40 : wr.cell? ⟨w.heap.size, 0, Option.none⟩ = some (.int .i64 0) := hB4.cell 0
        have c41 : wr.cell? ⟨w.heap.size, 1, Option.none⟩ = some (.bool false) := hB4.cell 1
        have f70 := hB7.free 0
        have f71 := hB7.free 1
        have f40 := hB4.free 0
        have f41 := hB4.free 1
        have hl7 := hB7.lt
        have hl4 := hB4.lt
        by_cases hin : 0 ≤ x ∧ x < ((mirL kind).length : Int)
        · have HS : Hid (wordFrom kind (0, false) (z.take (k + 1)) = some (thenP p ((mirL kind).getD x.toNat (0, false)))) := by
            show wordFrom kind (0, false) (z.take (k + 1)) = some (thenP p ((mirL kind).getD x.toNat (0, false)))
            rw [take_snoc_getD z k hlt, wordFrom_snoc, HP.out, hxe, mirr_eq, if_pos hin]
            rfl
          obtain ⟨hx0, hx1⟩ := hin
          have hxn : x.toNat < (mirL kind).length := by omega
          obtain ⟨m0, m1⟩ := hM x.toNat hxn
          have HM : Hid (SymRow wr gm (mirL kind)) := hM
          have HB7 : Hid (Blk wr w1.heap.size #[.int .i64 p.1, .bool p.2] 25) := hB7
          have HB4 : Hid (Blk wr w.heap.size #[.int .i64 0, .bool false] 25) := hB4
          have HXE : Hid (z.getD k 0 = x) := hxe
          clear hM hB7 hB4 hxe
          generalize hq : (mirL kind).getD x.toNat (0, false) = q at m0 m1 HS
          have HQ : Hid ((mirL kind).getD x.toNat (0, false) = q) := hq
          clear hq
          go_wp2_with fail
          go_still_tail 5, (by kernel_rfl)
          change wpList _ _ _ _ _ wr.drew
          have hd : Below w.heap.size w wr.drew := hbel.drew
          have HB7d : Hid (Blk wr.drew w1.heap.size #[.int .i64 p.1, .bool p.2] 25) := HB7.out.drew
          have HB4d : Hid (Blk wr.drew w.heap.size #[.int .i64 0, .bool false] 25) := HB4.out.drew
          have HMd : Hid (SymRow wr.drew gm (mirL kind)) := HM.out
          generalize wr.drew = wx at hd HB7d HB4d HMd ⊢
          clear c70 c71 c40 c41 f70 f71 f40 f41 hl7 hl4 m0 m1 hx hbel HB7 HB4 HM
          have c70 : wx.cell? ⟨w1.heap.size, 0, Option.none⟩ = some (.int .i64 p.1) := HB7d.out.cell 0
          have c71 : wx.cell? ⟨w1.heap.size, 1, Option.none⟩ = some (.bool p.2) := HB7d.out.cell 1
          have f70 := HB7d.out.free 0
          have f71 := HB7d.out.free 1
          have hl7 := HB7d.out.lt
          go_wp2_with (go_at_call 17; refine (thenSym_i _ _ _ _ _).mono ?_; rintro e w2 ⟨rfl, hb2⟩; obtain ⟨hc, hf⟩ := bcell hb2)
          have hB7 : Blk ((w2.setCell ⟨w1.heap.size, 0, Option.none⟩ (.int .i64 (thenT p.1 q.1 q.2))).setCell ⟨w1.heap.size, 1, Option.none⟩ (.bool (thenF p.1 q.1 p.2 q.2))) w1.heap.size #[.int .i64 (thenT p.1 q.1 q.2), .bool (thenF p.1 q.1 p.2 q.2)] 25 := ((HB7d.out.below hb2).set).set
          have hB4 : Blk ((w2.setCell ⟨w1.heap.size, 0, Option.none⟩ (.int .i64 (thenT p.1 q.1 q.2))).setCell ⟨w1.heap.size, 1, Option.none⟩ (.bool (thenF p.1 q.1 p.2 q.2))) w.heap.size #[.int .i64 0, .bool false] 25 := ((HB4d.out.below hb2).other (by dsimp only; omega)).other (by dsimp only; omega)
          have hM : SymRow ((w2.setCell ⟨w1.heap.size, 0, Option.none⟩ (.int .i64 (thenT p.1 q.1 q.2))).setCell ⟨w1.heap.size, 1, Option.none⟩ (.bool (thenF p.1 q.1 p.2 q.2))) gm (mirL kind) := ((HMd.out.below hb2).set (by dsimp only; omega)).set (by dsimp only; omega)
          have hds := hd.size
          go_roundw
          case rel => exact ⟨k + 1, thenP p q, by omega, by go_num, by rw [HS.out], hB7, hB4, hM, by (repeat' (first | (with_reducible exact Below.refl _ _) | (with_reducible assumption) | (with_reducible refine Below.alloc ?_ ?_ _) | (with_reducible refine Below.drew ?_) | (with_reducible refine Below.setCell ?_ ?_ _) | (with_reducible refine Below.trans ?_ (Below.mono (by assumption) ?_)) | (with_reducible exact Nat.le_refl _) | omega | (simp only [World.size_alloc, World.size_setCell, World.size_drew]; omega) | (simp; omega) | (simp; done)))⟩
          case measure => simp [intOf]; omega
        · have e : R = ((0, false), false) := by
            rw [← HR.out]
            have h0 : wordFrom kind (0, false) (z.take (k + 1)) = Option.none := by
              rw [take_snoc_getD z k hlt, wordFrom_snoc, HP.out, hxe, mirr_eq, if_neg hin]
              rfl
            unfold wordR
            rw [if_pos ⟨hkind.1, hkind.2, h24⟩, wordFrom_none h0]
          subst e
          clear hM hB7 hB4 hxe
          rcases (by omega : x < 0 ∨ (0 ≤ x ∧ ((mirL kind).length : Int) ≤ x)) with h | ⟨h, h'⟩
          · go_wp2
            exact bodyPost_ret (v := .tuple #[.agg #[.int .i64 0, .bool false], .bool false]) (by simp [results, Try.results24, go_sem, *]) rfl ⟨rfl, by (repeat' (first | (with_reducible exact Below.refl _ _) | (with_reducible assumption) | (with_reducible refine Below.alloc ?_ ?_ _) | (with_reducible refine Below.drew ?_) | (with_reducible refine Below.setCell ?_ ?_ _) | (with_reducible refine Below.trans ?_ (Below.mono (by assumption) ?_)) | (with_reducible exact Nat.le_refl _) | omega | (simp only [World.size_alloc, World.size_setCell, World.size_drew]; omega) | (simp; omega) | (simp; done)))⟩
          · go_wp2
            exact bodyPost_ret (v := .tuple #[.agg #[.int .i64 0, .bool false], .bool false]) (by simp [results, Try.results24, go_sem, *]) rfl ⟨rfl, by (repeat' (first | (with_reducible exact Below.refl _ _) | (with_reducible assumption) | (with_reducible refine Below.alloc ?_ ?_ _) | (with_reducible refine Below.drew ?_) | (with_reducible refine Below.setCell ?_ ?_ _) | (with_reducible refine Below.trans ?_ (Below.mono (by assumption) ?_)) | (with_reducible exact Nat.le_refl _) | omega | (simp only [World.size_alloc, World.size_setCell, World.size_drew]; omega) | (simp; omega) | (simp; done)))⟩
      · have hkn : k = z.length := by omega
        have e : R = (p, true) := by
          rw [← HR.out]
          have h0 := HP.out
          rw [hkn, List.take_length] at h0
          unfold wordR
          rw [if_pos ⟨hkind.1, hkind.2, h24⟩, h0]
        subst e
        have c70 : wr.cell? ⟨w1.heap.size, 0, Option.none⟩ = some (.int .i64 p.1) := hB7.cell 0
        have c71 : wr.cell? ⟨w1.heap.size, 1, Option.none⟩ = some (.bool p.2) := hB7.cell 1
        have c40 : wr.cell? ⟨w.heap.size, 0, Option.none⟩ = some (.int .i64 0) := hB4.cell 0
        have c41 : wr.cell? ⟨w.heap.size, 1, Option.none⟩ = some (.bool false) := hB4.cell 1
        have f40 := hB4.free 0
        have f41 := hB4.free 1
        clear hM hB7 hB4
        subst hkn
        go_wp2
        exact bodyPost_ret (v := .tuple #[.agg #[.int .i64 p.1, .bool p.2], .bool true]) (by simp [results, Try.results24, go_sem, *]) rfl ⟨rfl, by (repeat' (first | (with_reducible exact Below.refl _ _) | (with_reducible assumption) | (with_reducible refine Below.alloc ?_ ?_ _) | (with_reducible refine Below.drew ?_) | (with_reducible refine Below.setCell ?_ ?_ _) | (with_reducible refine Below.trans ?_ (Below.mono (by assumption) ?_)) | (with_reducible exact Nat.le_refl _) | omega | (simp only [World.size_alloc, World.size_setCell, World.size_drew]; omega) | (simp; omega) | (simp; done)))⟩
  · have e : R = ((0, false), false) := by
      rw [← HR.out]
      unfold wordR
      rw [if_neg (fun h => hpre ⟨⟨h.1, h.2.1⟩, h.2.2⟩)]
    subst e
    by_cases hk : 0 ≤ kind ∧ kind ≤ 3
    · have hI := inB_yes hk.1 hk.2
      have h25 : 24 < z.length := by omega
      clear hz
      go_enter Try.func24, Try.ntmps24
      go_wp2_with (first | (go_at_call 56; refine (isKind_i _ _).mono ?_; rintro e w1 ⟨rfl, rfl⟩))
      exact bodyPost_ret (v := .tuple #[.agg #[.int .i64 0, .bool false], .bool false]) (by simp [results, Try.results24, go_sem, *]) rfl ⟨rfl, by (repeat' (first | (with_reducible exact Below.refl _ _) | (with_reducible assumption) | (with_reducible refine Below.alloc ?_ ?_ _) | (with_reducible refine Below.drew ?_) | (with_reducible refine Below.setCell ?_ ?_ _) | (with_reducible refine Below.trans ?_ (Below.mono (by assumption) ?_)) | (with_reducible exact Nat.le_refl _) | omega | (simp only [World.size_alloc, World.size_setCell, World.size_drew]; omega) | (simp; omega) | (simp; done)))⟩
    · have hI := inB_no hk
      clear hz
      go_enter Try.func24, Try.ntmps24
      go_wp2_with (first | (go_at_call 56; refine (isKind_i _ _).mono ?_; rintro e w1 ⟨rfl, rfl⟩))
      exact bodyPost_ret (v := .tuple #[.agg #[.int .i64 0, .bool false], .bool false]) (by simp [results, Try.results24, go_sem, *]) rfl ⟨rfl, by (repeat' (first | (with_reducible exact Below.refl _ _) | (with_reducible assumption) | (with_reducible refine Below.alloc ?_ ?_ _) | (with_reducible refine Below.drew ?_) | (with_reducible refine Below.setCell ?_ ?_ _) | (with_reducible refine Below.trans ?_ (Below.mono (by assumption) ?_)) | (with_reducible exact Nat.le_refl _) | omega | (simp only [World.size_alloc, World.size_setCell, World.size_drew]; omega) | (simp; omega) | (simp; done)))⟩
end Go.Proofs.Ytbeefbmgbmgbfaa
