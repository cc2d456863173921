/-
  The call of FnOrbit returns true and writes nothing that was there.
-/
import Derived.Test.YtjkcmcpgppfhhaaOe
import Derived.Test.YtjkcmcpgppfhhaaOi
import Derived.Test.YtjkcmcpgppfhhaaOg
import Derived.Test.YtjkcmcpgppfhhaaFg
import Derived.Deep.RegionHeld3
namespace Go.Proofs.Ytjkcmcpgppfhhaa.wFnOrbit
open Go.ChangeShapes Go.WideShapes Go.ChangeAt Go.RowKit Go.Joins
set_option linter.unusedSimpArgs false
set_option linter.unusedVariables false
set_option maxRecDepth 100000
attribute [local go_sem] store_f
open Ieee

set_option maxHeartbeats 16000000 in
theorem walk (a : Option Addr) (len cap : Nat) (bs : List Int) (w : World) (hrow : ByteRow w w.heap.size a len bs) :
    Calls Try.prog 5 #[.slice a len cap] w fun e w' => e = .returned (.bool true) ∧ Below w.heap.size w w' := by
  by_cases hl : len ≤ 4096
  · go_enter Try.func5, Try.ntmps5
    go_wp2_with fail
    refine (big_no _ _ _ _ hl).mono ?_
    rintro e w0 ⟨rfl, rfl⟩
    go_wp2_with fail
    refine (drawPlace_s a len cap bs _ hrow hl).mono ?_
    rintro e w1 ⟨kind, x, y, ⟨rfl, hkk, hx, hy, hb1⟩⟩
    have hrg := syms_range (kind : Int) (by omega) (by omega)
    have hsz := symsTo_le (kind : Int) 8
    have SM : SymsM (kind : Int) (symsTo kind 8) := ⟨fun w => symsOf_i kind w⟩
    have PY : PtYes x y := ⟨fun w => isPoint_yes x y w (ok_in hx) (ok_in hy)⟩
    have AA := acts_of hrg hx hy
    have ZZ := eqz_of hx hy
    have KP := keep_pos (kind := kind) (by omega) (by omega) (ptOf hx hy)
    have OC : Hid (∀ m : List PtW, m.Nodup → (∀ q, q ∈ m ↔ q ∈ imgs (symsTo kind 8) (ptOf hx hy)) → m.length * (keepL' (symsTo kind 8) (ptOf hx hy)).length = (symsTo kind 8).length) := fun m hn hm => orbit_count (by omega) (by omega) (ptOf hx hy) hn hm
    have KE : Hid (∀ j, j < (keepL' (symsTo kind 8) (ptOf hx hy)).length → (keepL' (symsTo kind 8) (ptOf hx hy)).getD j (0, false) ∈ symsTo kind 8 ∧ actP ((keepL' (symsTo kind 8) (ptOf hx hy)).getD j (0, false)) (ptOf hx hy) = ptOf hx hy) := fun j hj => by
      have hm := getD_memS hj
      obtain ⟨h1, h2⟩ := List.mem_filter.1 hm
      exact ⟨h1, of_decide_eq_true h2⟩
    have AL : Hid (∀ s ∈ symsTo kind 8, ActM s.1 s.2 x y (actP s (ptOf hx hy)).1.1 (actP s (ptOf hx hy)).1.2) := fun s hs => actM_of hx hy (hrg s hs)
    have hkle : (keepL' (symsTo kind 8) (ptOf hx hy)).length ≤ (symsTo kind 8).length := by unfold keepL'; exact List.length_filter_le _ _
    have QQ : ((FloatKind.f32.format.order (ptOf hx hy).1.1 x == some .eq) && (FloatKind.f32.format.order (ptOf hx hy).1.2 y == some .eq)) = true := by rw [ZZ.eq]; simp
    have CO : Hid (∀ w, Calls Try.prog 16 #[.int .i64 (kind : Int), .complex .f32 x y] w fun e w' => Orbit w e w' (imgs (symsTo kind 8) (ptOf hx hy))) := fun w => orbitOf_i ⟨fun H => sort_m H⟩ SM hsz PY AA w
    have CK : Hid (∀ w, Calls Try.prog 17 #[.int .i64 (kind : Int), .complex .f32 x y] w fun e w' => ∃ g cap, e = .returned (.slice (some ⟨g, 0, Option.none⟩) (keepL' (symsTo kind 8) (ptOf hx hy)).length cap) ∧ w'.ownsRow w.heap.size 25 2 (.slice (some ⟨g, 0, Option.none⟩) (keepL' (symsTo kind 8) (ptOf hx hy)).length cap) (keepL' (symsTo kind 8) (ptOf hx hy)).length (symCells (keepL' (symsTo kind 8) (ptOf hx hy))) ∧ Below w.heap.size w w') := fun w => keepersOf_i SM hsz PY AA ZZ w
    generalize ptOf hx hy = p at *
    generalize (kind : Int) = kd at *
    generalize symsTo kd 8 = l at *
    generalize keepL' l p = ks at *
    have HP : Hid (∀ s : Int × Bool, actP s p = p → ActM s.1 s.2 x y (actP s p).1.1 (actP s p).1.2 → ActM s.1 s.2 x y p.1.1 p.1.2) := fun s hs h => by rw [hs] at h; exact h
    generalize p.1.1 = px at *
    generalize p.1.2 = py at *
    have QH : Hid (((FloatKind.f32.format.order px x == some .eq) && (FloatKind.f32.format.order py y == some .eq)) = true) := QQ
    have hop : ∀ w, (binOp .neq 28 (.complex .f32 px py) (.complex .f32 x y)).run Try.prog w = .ok (.bool false) w := fun w => by rw [run_neq_complex, QH.out]; rfl
    have s1 := hb1.size
    have B1 : Hid (Below w.heap.size w w1) := hb1
    have HPOS : Hid (0 < ks.length) := KP
    clear hb1 hrow QQ QH ZZ AA hrg KP PY
    go_wp2_with fail
    refine (CO.out _).mono ?_
    rintro e w2 ⟨go, co, m, rfl, HO⟩
    have hml := HO.len
    rw [imgs_len] at hml
    have hcount := OC.out m HO.nodup HO.mem
    have HC : Hid (m.length * ks.length = l.length) := hcount
    have hb2 := HO.below
    have s2 := hb2.size
    have B2 : Hid (Below w.heap.size w w2) := B1.out.trans (hb2.mono s1)
    clear hb2 hcount HO OC CO B1
    go_wp2_with fail
    refine (CK.out _).mono ?_
    rintro e w3 ⟨gk, ck, rfl, own, hb3⟩
    have s3 := hb3.size
    have B3 : Hid (Below w.heap.size w w3) := B2.out.trans (hb3.mono (by omega))
    have HS : Hid (SymRow w3 gk ks) := symRow_of own rfl
    have hgk := (own.lt _ rfl).2
    clear own hb3 CK B2
    go_wp2_with fail
    go_loopw [7] (fun i wr => ∃ j : Nat, j ≤ ks.length ∧ i = .int .i64 j ∧ SymRow wr gk ks ∧ gk < wr.heap.size ∧ Below w.heap.size w wr) (fun i _ => ks.length - (intOf i).toNat)
    case atStart => exact ⟨0, by omega, rfl, HS.out, hgk, B3.out⟩
    case round =>
      obtain ⟨j, hj, rfl, hS, hgl, hbel⟩ := hrel
      have HR : Hid (SymRow wr gk ks) := hS
      have HB : Hid (Below w.heap.size w wr) := hbel
      have hbs := hbel.size
      by_cases hlt : j < ks.length
      · obtain ⟨hmem, hfix⟩ := KE.out j hlt
        have HM := HP.out _ hfix (AL.out _ hmem)
        obtain ⟨c0, c1⟩ := hS j hlt
        clear hS hbel hfix
        generalize ks.getD j (0, false) = s at hmem HM c0 c1
        obtain ⟨t, f⟩ := s
        simp only [] at c0 c1
        have HME : Hid ((t, f) ∈ l) := hmem
        have hj0 : (0 : Int) ≤ (j : Int) := by omega
        have hj1 : (j : Int) < (ks.length : Int) := by omega
        clear hmem
        obtain ⟨wq, hwq⟩ : ∃ wq : World, wq = wr := ⟨_, rfl⟩
        have hq0 : Below wq.heap.size wq wr := by rw [hwq]; exact Below.refl _ _
        have hqs : wq.heap.size ≤ wr.heap.size := by rw [hwq]; exact Nat.le_refl _
        have HRQ : Hid (SymRow wq gk ks) := by rw [hwq]; exact HR.out
        have HBQ : Hid (Below w.heap.size w wq) := by rw [hwq]; exact HB.out
        have hgq : gk < wq.heap.size := by rw [hwq]; exact hgl
        have hws : w.heap.size ≤ wq.heap.size := by rw [hwq]; exact hbs
        clear hwq HR HB
        go_wp2_with fail
        go_region_held3 (fun wx => Below wq.heap.size wq wx ∧ wq.heap.size ≤ wx.heap.size ∧ gk < wx.heap.size ∧ wx.cell? ⟨gk, j * 2, Option.none⟩ = some (.int .i64 t) ∧ wx.cell? ⟨gk, j * 2 + 1, Option.none⟩ = some (.bool f))
          (((repeat' apply And.intro) <;> first | (with_reducible assumption) | (((repeat (first | (with_reducible assumption) | (with_reducible exact cNewAt (by first | rfl | (simp only [World.size_alloc, World.size_setCell, World.size_drew]; done) | omega) rfl) | (with_reducible exact sNewAt (by first | rfl | (simp only [World.size_alloc, World.size_setCell, World.size_drew]; done) | omega) rfl) | (simp; done) | (with_reducible apply cAlloc) | (with_reducible apply cDrew) | (with_reducible refine cSet (by dsimp only; omega) ?_) | (with_reducible refine cSetOff (by dsimp only; omega) ?_) | (with_reducible apply cSame) | (with_reducible refine cBelow (by assumption) ?_) | (with_reducible apply sAlloc) | (with_reducible apply sDrew) | (with_reducible refine sBelow (by assumption) ?_) | (with_reducible refine sSet (by dsimp only; omega) ?_))); first | done | (simp [*]; done)); done) | (simp only [World.size_alloc, World.size_setCell, World.size_drew]; omega) | omega | (go_keep; done) | ((repeat' (first | (with_reducible exact Below.refl _ _) | (with_reducible assumption) | (with_reducible refine Below.alloc ?_ ?_ _) | (with_reducible refine Below.drew ?_) | (with_reducible refine Below.setCell ?_ ?_ _) | (with_reducible refine Below.trans ?_ (Below.mono (by assumption) ?_)) | (with_reducible exact Nat.le_refl _) | omega | (simp only [World.size_alloc, World.size_setCell, World.size_drew]; omega) | (simp; omega) | (simp; done))); done)))
          (first | (go_at_call 11; (with_reducible refine (HM.call _).mono ?_); rintro e w4 ⟨rfl, hb⟩; obtain ⟨hc, hf⟩ := bcell hb; have HL := keepL (by (repeat (first | (with_reducible assumption) | (with_reducible apply AllLt.alloc) | (with_reducible apply AllLt.setCell) | (with_reducible apply AllLt.drew) | (with_reducible exact AllLt.nil _)))) hb; have hq := HL; simp only [AllLt, and_true, World.size_alloc, World.size_setCell, World.size_drew] at hq; have hbs := hb.size; try simp only [World.size_alloc, World.size_setCell, World.size_drew] at hbs) | (go_at_call 15; (with_reducible refine (SM.call _).mono ?_); rintro e w5 ⟨gs, cs, rfl, own, hb⟩; have HSY : Hid (SymRow w5 gs l) := symRow_of own rfl; clear own; obtain ⟨hc, hf⟩ := bcell hb; have HL := keepL (by (repeat (first | (with_reducible assumption) | (with_reducible apply AllLt.alloc) | (with_reducible apply AllLt.setCell) | (with_reducible apply AllLt.drew) | (with_reducible exact AllLt.nil _)))) hb; have hq := HL; simp only [AllLt, and_true, World.size_alloc, World.size_setCell, World.size_drew] at hq; have hbs := hb.size; try simp only [World.size_alloc, World.size_setCell, World.size_drew] at hbs) | (go_at_call 14; (with_reducible refine (has_yes l gs l.length cs t f _ rfl (by omega) HSY.out HME.out).mono ?_); rintro e w6 ⟨rfl, hb⟩; obtain ⟨hc, hf⟩ := bcell hb; have HL := keepL (by (repeat (first | (with_reducible assumption) | (with_reducible apply AllLt.alloc) | (with_reducible apply AllLt.setCell) | (with_reducible apply AllLt.drew) | (with_reducible exact AllLt.nil _)))) hb; have hq := HL; simp only [AllLt, and_true, World.size_alloc, World.size_setCell, World.size_drew] at hq; have hbs := hb.size; try simp only [World.size_alloc, World.size_setCell, World.size_drew] at hbs))
        all_goals
          have HZ : Hid (Below wq.heap.size wq w6) := And.left (by assumption)
          have hz6 := HZ.out.size
          clear hbs HSY hq0
          go_wp2
          go_roundw
          case rel => exact ⟨j + 1, by omega, by go_num, HRQ.out.below HZ.out, by omega, HBQ.out.trans (HZ.out.mono hws)⟩
          case measure => simp [intOf]; omega
      · have hjk : j = ks.length := by omega
        subst hjk
        clear hS hbel HR
        have hmul : (m.length : Int) * (ks.length : Int) = (l.length : Int) := by rw [← HC.out]; simp
        have hpos := HPOS.out
        have hn0 : (0 : Int) ≤ (l.length : Int) := by omega
        go_wp2_with fail
        refine (SM.call _).mono ?_
        rintro e w4 ⟨gs, cs, rfl, own, hb4⟩
        have HB4 : Hid (Below w.heap.size w w4) := HB.out.trans (hb4.mono hbs)
        clear own hb4
        go_wp2
        go_ret
        exact ⟨rfl, HB4.out⟩
  · go_enter Try.func5, Try.ntmps5
    go_wp2_with fail
    refine (big_yes _ _ _ _ hl).mono ?_
    rintro e w0 ⟨rfl, rfl⟩
    go_wp2
    all_goals (go_returns; exact ⟨rfl, by (repeat' (first | (with_reducible exact Below.refl _ _) | (with_reducible assumption) | (with_reducible refine Below.alloc ?_ ?_ _) | (with_reducible refine Below.drew ?_) | (with_reducible refine Below.setCell ?_ ?_ _) | (with_reducible refine Below.trans ?_ (Below.mono (by assumption) ?_)) | (with_reducible exact Nat.le_refl _) | omega | (simp only [World.size_alloc, World.size_setCell, World.size_drew]; omega) | (simp; omega) | (simp; done)))⟩)
end Go.Proofs.Ytjkcmcpgppfhhaa.wFnOrbit
