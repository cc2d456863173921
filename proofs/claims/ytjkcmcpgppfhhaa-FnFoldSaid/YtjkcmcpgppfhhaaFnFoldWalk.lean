/-
  The call of FnFold returns true and writes nothing that was there.
-/
import Derived.Test.YtjkcmcpgppfhhaaOe
import Derived.Test.YtjkcmcpgppfhhaaOk
import Derived.Test.YtjkcmcpgppfhhaaOg
import Derived.Test.YtjkcmcpgppfhhaaFg
import Derived.Deep.RegionHeld3
namespace Go.Proofs.Ytjkcmcpgppfhhaa.wFnFold
open Go.ChangeShapes Go.WideShapes Go.ChangeAt Go.RowKit Go.Joins
set_option linter.unusedSimpArgs false
set_option linter.unusedVariables false
set_option maxRecDepth 100000
attribute [local go_sem] store_f
open Ieee

theorem first_some {P : Int × Bool → Bool} : ∀ {l : List (Int × Bool)}, (∃ s ∈ l, P s = true) → ∃ n, n < l.length ∧ P (l.getD n (0, false)) = true ∧ ∀ j, j < n → P (l.getD j (0, false)) = false
  | [], h => by obtain ⟨s, hs, _⟩ := h; cases hs
  | a :: l, h => by
    cases ha : P a with
    | true => exact ⟨0, by simp, by simpa using ha, fun j hj => by omega⟩
    | false =>
      have h2 : ∃ s ∈ l, P s = true := by
        obtain ⟨s, hs, hp⟩ := h
        rcases List.mem_cons.1 hs with rfl | hs
        · rw [ha] at hp; cases hp
        · exact ⟨s, hs, hp⟩
      obtain ⟨n, h1, h3, h4⟩ := first_some h2
      refine ⟨n + 1, by simpa using h1, by simpa using h3, fun j hj => ?_⟩
      rcases j with _ | j
      · simpa using ha
      · simpa using h4 j (by omega)
theorem first_of {kind : Int} (h0 : 0 ≤ kind) (h3 : kind ≤ 3) (p : PtW) : ∃ n, First kind (symsTo kind 8) p n := by
  obtain ⟨n, a, b, c⟩ := first_some (P := fun s => wed kind (actP s p)) (wed_some h0 h3 p)
  exact ⟨n, ⟨a, b, c⟩⟩

/-- What the law asks of one image: its fold, whether it lies in the wedge, and whether it is the fold. -/
structure Img (kind : Int) (a b : Nat) (q1 q2 : Nat) (t : Int) (f c : Bool) : Prop where
  fold : FoldM kind q1 q2 a b t f
  wed : WedM kind q1 q2 c
  eq : ∀ w, (binOp .eql 28 (.complex .f32 q1 q2) (.complex .f32 a b)).run Try.prog w = .ok (.bool c) w

set_option maxHeartbeats 16000000 in
theorem walk (a : Option Addr) (len cap : Nat) (bs : List Int) (w : World) (hrow : ByteRow w w.heap.size a len bs) :
    Calls Try.prog 4 #[.slice a len cap] w fun e w' => e = .returned (.bool true) ∧ Below w.heap.size w w' := by
  by_cases hl : len ≤ 4096
  · go_enter Try.func4, Try.ntmps4
    go_wp2_with fail
    refine (big_no _ _ _ _ hl).mono ?_
    rintro e w0 ⟨rfl, rfl⟩
    go_wp2_with fail
    refine (drawPlace_s a len cap bs _ hrow hl).mono ?_
    rintro e w1 ⟨kind, x, y, ⟨rfl, hkk, hx, hy, hb1⟩⟩
    have k0 : (0 : Int) ≤ (kind : Int) := by omega
    have k3 : (kind : Int) ≤ 3 := by omega
    have hrg := syms_range (kind : Int) k0 k3
    have hsz := symsTo_le (kind : Int) 8
    have SM : SymsM (kind : Int) (symsTo kind 8) := ⟨fun w => symsOf_i kind w⟩
    have PY : PtYes x y := ⟨fun w => isPoint_yes x y w (ok_in hx) (ok_in hy)⟩
    have AA := acts_of hrg hx hy
    have WW : ∀ p, Weds kind (symsTo kind 8) p := fun p => ⟨fun k hk => inWedge_p k0 k3 _⟩
    obtain ⟨n, FN⟩ := first_of k0 k3 (ptOf hx hy)
    have FM := foldPoint_i SM hsz PY AA (WW _) FN
    have hmem := getD_memS FN.lt
    have AM := actM_of hx hy (hrg _ hmem)
    have WM := inWedge_p k0 k3 (actP ((symsTo kind 8).getD n (0, false)) (ptOf hx hy))
    rw [FN.yes] at WM
    have QF : Hid (∀ q, q ∈ imgs (symsTo kind 8) (ptOf hx hy) → ∃ t f c, Img kind (actP ((symsTo kind 8).getD n (0, false)) (ptOf hx hy)).1.1 (actP ((symsTo kind 8).getD n (0, false)) (ptOf hx hy)).1.2 q.1.1 q.1.2 t f c) := fun q hq => by
      obtain ⟨nq, FQ⟩ := first_of k0 k3 q
      have FMq := foldPoint_i SM hsz ⟨fun w => isPoint_yes _ _ w (ok_in q.2.1.ok) (ok_in q.2.2.ok)⟩ (acts_pt hrg q) (WW _) FQ
      rw [fold_same k0 k3 (ptOf hx hy) q hq hmem (getD_memS FQ.lt) FN.yes FQ.yes] at FMq
      have hw := inWedge_p k0 k3 q
      rw [wed_iff k0 k3 (ptOf hx hy) q hq hmem FN.yes] at hw
      exact ⟨_, _, _, FMq, hw, fun w => by rw [run_eql_complex, eq_points]⟩
    have EA : Hid ((FloatKind.f32.format.order (actP ((symsTo kind 8).getD n (0, false)) (ptOf hx hy)).1.1 (actP ((symsTo kind 8).getD n (0, false)) (ptOf hx hy)).1.1 == some .eq) = true) := order_self (actP ((symsTo kind 8).getD n (0, false)) (ptOf hx hy)).2.1.cl.fin
    have EB : Hid ((FloatKind.f32.format.order (actP ((symsTo kind 8).getD n (0, false)) (ptOf hx hy)).1.2 (actP ((symsTo kind 8).getD n (0, false)) (ptOf hx hy)).1.2 == some .eq) = true) := order_self (actP ((symsTo kind 8).getD n (0, false)) (ptOf hx hy)).2.2.cl.fin
    have CO : Hid (∀ w, Calls Try.prog 16 #[.int .i64 (kind : Int), .complex .f32 x y] w fun e w' => Orbit w e w' (imgs (symsTo kind 8) (ptOf hx hy))) := fun w => orbitOf_i ⟨fun H => sort_m H⟩ SM hsz PY AA w
    have NE : Hid (actP ((symsTo kind 8).getD n (0, false)) (ptOf hx hy) ∈ imgs (symsTo kind 8) (ptOf hx hy)) := List.mem_map.2 ⟨_, hmem, rfl⟩
    have hil : (imgs (symsTo kind 8) (ptOf hx hy)).length ≤ 8 := by rw [imgs_len]; exact hsz
    clear PY AA WW FN hrg k0 k3
    generalize imgs (symsTo kind 8) (ptOf hx hy) = il at *
    generalize actP ((symsTo kind 8).getD n (0, false)) (ptOf hx hy) = wp at *
    generalize (symsTo kind 8).getD n (0, false) = s at *
    obtain ⟨t, f⟩ := s
    simp only [] at FM AM hmem
    generalize (kind : Int) = kd at *
    generalize symsTo kd 8 = l at *
    have HPOS : Hid (∀ m : List PtW, (∀ q, q ∈ m ↔ q ∈ il) → 0 < m.length) := fun m hm => List.length_pos_of_mem ((hm wp).2 NE.out)
    generalize wp.1.1 = pa at *
    generalize wp.1.2 = pb at *
    have HME : Hid ((t, f) ∈ l) := hmem
    have hop : ∀ w, (binOp .neq 28 (.complex .f32 pa pb) (.complex .f32 pa pb)).run Try.prog w = .ok (.bool false) w := fun w => by rw [run_neq_complex, EA.out, EB.out]; rfl
    have s1 := hb1.size
    have B1 : Hid (Below w.heap.size w w1) := hb1
    clear hb1 hrow EA EB NE hmem
    go_wp2_with fail
    refine (FM.call _).mono ?_
    rintro e w2 ⟨rfl, hb2⟩
    have s2 := hb2.size
    have B2 : Hid (Below w.heap.size w w2) := B1.out.trans (hb2.mono s1)
    clear hb2 B1
    go_wp2_with fail
    generalize hX : w2.alloc (.cells #[.int .i64 t, .bool f] 25) = X
    have D : Blk X w2.heap.size #[.int .i64 t, .bool f] 25 := by rw [← hX]; exact Blk.new _ _ _
    have HBX : Hid (Below w.heap.size w X) := by rw [← hX]; exact B2.out.alloc (by omega) _
    have sX : X.heap.size = w2.heap.size + 1 := by rw [← hX]; simp
    clear hX B2
    have c0 := Blk.cellAt (i := 0) D rfl
    have c1 := Blk.cellAt (i := 1) D rfl
    have lX := D.lt
    simp only [List.getElem_toArray, List.getElem_cons_zero, List.getElem_cons_succ] at c0 c1
    clear D
    have hX0 : Below X.heap.size X X := Below.refl _ _
    have hX1 : X.heap.size ≤ X.heap.size := Nat.le_refl _
    have hwX : w.heap.size ≤ X.heap.size := by omega
    generalize w2.heap.size = n2 at *
    go_region_held3 (fun wx => Below X.heap.size X wx ∧ X.heap.size ≤ wx.heap.size ∧ n2 < wx.heap.size ∧ wx.cell? ⟨n2, 0, Option.none⟩ = some (.int .i64 (t)) ∧ wx.cell? ⟨n2, 1, Option.none⟩ = some (.bool (f)))
      (((repeat' apply And.intro) <;> first | (with_reducible assumption) | (((repeat (first | (with_reducible assumption) | (with_reducible exact cNewAt (by first | rfl | (simp only [World.size_alloc, World.size_setCell, World.size_drew]; done) | omega) rfl) | (with_reducible exact sNewAt (by first | rfl | (simp only [World.size_alloc, World.size_setCell, World.size_drew]; done) | omega) rfl) | (simp; done) | (with_reducible apply cAlloc) | (with_reducible apply cDrew) | (with_reducible refine cSet (by dsimp only; omega) ?_) | (with_reducible refine cSetOff (by dsimp only; omega) ?_) | (with_reducible apply cSame) | (with_reducible refine cBelow (by assumption) ?_) | (with_reducible apply sAlloc) | (with_reducible apply sDrew) | (with_reducible refine sBelow (by assumption) ?_) | (with_reducible refine sSet (by dsimp only; omega) ?_))); first | done | (simp [*]; done)); done) | (simp only [World.size_alloc, World.size_setCell, World.size_drew]; omega) | omega | (go_keep; done) | ((repeat' (first | (with_reducible exact Below.refl _ _) | (with_reducible assumption) | (with_reducible refine Below.alloc ?_ ?_ _) | (with_reducible refine Below.drew ?_) | (with_reducible refine Below.setCell ?_ ?_ _) | (with_reducible refine Below.trans ?_ (Below.mono (by assumption) ?_)) | (with_reducible exact Nat.le_refl _) | omega | (simp only [World.size_alloc, World.size_setCell, World.size_drew]; omega) | (simp; omega) | (simp; done))); done)))
      (first | (go_at_call 11; (with_reducible refine (AM.call _).mono ?_); rintro e w6 ⟨rfl, hb⟩; obtain ⟨hc, hf⟩ := bcell hb; have HL := keepL (by (repeat (first | (with_reducible assumption) | (with_reducible apply AllLt.alloc) | (with_reducible apply AllLt.setCell) | (with_reducible apply AllLt.drew) | (with_reducible exact AllLt.nil _)))) hb; have hq := HL; simp only [AllLt, and_true, World.size_alloc, World.size_setCell, World.size_drew] at hq; have hbs := hb.size; try simp only [World.size_alloc, World.size_setCell, World.size_drew] at hbs) | (go_at_call 13; (with_reducible refine (WM.call _).mono ?_); rintro e w3 ⟨rfl, rfl⟩) | (go_at_call 15; (with_reducible refine (SM.call _).mono ?_); rintro e w4 ⟨gs, cs, rfl, own, hb⟩; have HSY : Hid (SymRow w4 gs l) := symRow_of own rfl; clear own; obtain ⟨hc, hf⟩ := bcell hb; have HL := keepL (by (repeat (first | (with_reducible assumption) | (with_reducible apply AllLt.alloc) | (with_reducible apply AllLt.setCell) | (with_reducible apply AllLt.drew) | (with_reducible exact AllLt.nil _)))) hb; have hq := HL; simp only [AllLt, and_true, World.size_alloc, World.size_setCell, World.size_drew] at hq; have hbs := hb.size; try simp only [World.size_alloc, World.size_setCell, World.size_drew] at hbs) | (go_at_call 14; (with_reducible refine (has_yes l gs l.length cs t f _ rfl (by omega) HSY.out HME.out).mono ?_); rintro e w5 ⟨rfl, hb⟩; obtain ⟨hc, hf⟩ := bcell hb; have HL := keepL (by (repeat (first | (with_reducible assumption) | (with_reducible apply AllLt.alloc) | (with_reducible apply AllLt.setCell) | (with_reducible apply AllLt.drew) | (with_reducible exact AllLt.nil _)))) hb; have hq := HL; simp only [AllLt, and_true, World.size_alloc, World.size_setCell, World.size_drew] at hq; have hbs := hb.size; try simp only [World.size_alloc, World.size_setCell, World.size_drew] at hbs))
    all_goals
      have HZ : Hid (Below X.heap.size X w6) := And.left (by assumption)
      have hz6 := HZ.out.size
      have HB6 : Hid (Below w.heap.size w w6) := HBX.out.trans (HZ.out.mono hwX)
      have s6 : w.heap.size ≤ w6.heap.size := HB6.out.size
      rename_i hHeld
      clear hHeld hX0 hX1 HSY c0 c1
      go_wp2_with fail
      refine (CO.out _).mono ?_
      rintro e w7 ⟨go, co, m, rfl, HO⟩
      have hml := HO.len
      have HB7 : Hid (Below w.heap.size w w7) := HB6.out.trans (HO.below.mono s6)
      have hmpos := HPOS.out m HO.mem
      have HRow : Hid (∀ k, k < m.length → w7.cell? ⟨go, k, Option.none⟩ = some (encP (m.getD k default))) := HO.holds
      have hgo := HO.lt
      have HQ : Hid (∀ k, k < m.length → ∃ t f c, Img kd pa pb (m.getD k default).1.1 (m.getD k default).1.2 t f c) := fun k hk => QF.out _ ((HO.mem _).1 (by simp [List.getD, hk]))
      clear HO CO HPOS QF
      have s7 := HB7.out.size
      go_wp2_with fail
      go_loopw [9] (fun i wr => ∃ j : Nat, j ≤ m.length ∧ i = .int .i64 j ∧ Below w7.heap.size w7 wr) (fun i _ => m.length - (intOf i).toNat)
      case atStart => exact ⟨0, by omega, rfl, Below.refl _ _⟩
      case round =>
        obtain ⟨j, hj, rfl, hbel⟩ := hrel
        have HB : Hid (Below w7.heap.size w7 wr) := hbel
        have hbs := hbel.size
        have HBW : Hid (Below w.heap.size w wr) := HB7.out.trans (hbel.mono s7)
        by_cases hlt : j < m.length
        · obtain ⟨t2, f2, c, IM⟩ := HQ.out j hlt
          have c0 : wr.cell? ⟨go, j, Option.none⟩ = some (.complex .f32 (m.getD j default).1.1 (m.getD j default).1.2) := cBelow hbel (HRow.out j hlt)
          generalize (m.getD j default).1.1 = q1 at IM c0
          generalize (m.getD j default).1.2 = q2 at IM c0
          have hj0 : (0 : Int) ≤ (j : Int) := by omega
          have hj1 : (j : Int) < (m.length : Int) := by omega
          have heq := IM.eq
          have HCI : Hid (wr.cell? ⟨go, j, Option.none⟩ = some (.complex .f32 q1 q2)) := c0
          clear hbel
          go_wp2_with fail
          refine (IM.fold.call _).mono ?_
          rintro e w8 ⟨rfl, hb8⟩
          have s8 := hb8.size
          have HB8 : Hid (Below w7.heap.size w7 w8) := HB.out.trans (hb8.mono hbs)
          have HC8 : Hid (w8.cell? ⟨go, j, Option.none⟩ = some (.complex .f32 q1 q2)) := cBelow hb8 HCI.out
          clear c0 hb8 HCI HB
          go_wp2_with fail
          generalize hY : w8.alloc (.cells #[.int .i64 t2, .bool f2] 25) = Y
          have HBY : Below w7.heap.size w7 Y := by rw [← hY]; exact HB8.out.alloc (by omega) _
          have c8 : Y.cell? ⟨go, j, Option.none⟩ = some (.complex .f32 q1 q2) := by rw [← hY]; exact cAlloc HC8.out
          have sY : w7.heap.size ≤ Y.heap.size := HBY.size
          clear hY HB8 HC8
          cases c
          all_goals
            go_region_held3 (fun wx => Below w7.heap.size w7 wx ∧ w7.heap.size ≤ wx.heap.size ∧ wx.cell? ⟨go, j, Option.none⟩ = some (.complex .f32 q1 q2))
              (((repeat' apply And.intro) <;> first | (with_reducible assumption) | (((repeat (first | (with_reducible assumption) | (with_reducible exact cNewAt (by first | rfl | (simp only [World.size_alloc, World.size_setCell, World.size_drew]; done) | omega) rfl) | (with_reducible exact sNewAt (by first | rfl | (simp only [World.size_alloc, World.size_setCell, World.size_drew]; done) | omega) rfl) | (simp; done) | (with_reducible apply cAlloc) | (with_reducible apply cDrew) | (with_reducible refine cSet (by dsimp only; omega) ?_) | (with_reducible refine cSetOff (by dsimp only; omega) ?_) | (with_reducible apply cSame) | (with_reducible refine cBelow (by assumption) ?_) | (with_reducible apply sAlloc) | (with_reducible apply sDrew) | (with_reducible refine sBelow (by assumption) ?_) | (with_reducible refine sSet (by dsimp only; omega) ?_))); first | done | (simp [*]; done)); done) | (simp only [World.size_alloc, World.size_setCell, World.size_drew]; omega) | omega | (go_keep; done) | ((repeat' (first | (with_reducible exact Below.refl _ _) | (with_reducible assumption) | (with_reducible refine Below.alloc ?_ ?_ _) | (with_reducible refine Below.drew ?_) | (with_reducible refine Below.setCell ?_ ?_ _) | (with_reducible refine Below.trans ?_ (Below.mono (by assumption) ?_)) | (with_reducible exact Nat.le_refl _) | omega | (simp only [World.size_alloc, World.size_setCell, World.size_drew]; omega) | (simp; omega) | (simp; done))); done)))
              (first | (go_at_call 13; (with_reducible refine (IM.wed.call _).mono ?_); rintro e w9 ⟨rfl, rfl⟩))
            all_goals
              rename_i hHeld
              clear hHeld heq
              have HBZ : Hid (Below w7.heap.size w7 Y.drew) := HBY.drew
              go_wp2
              go_roundw
              case rel => exact ⟨j + 1, by omega, by go_num, HBZ.out⟩
              case measure => simp [intOf]; omega
        · have hjm : j = m.length := by omega
          subst hjm
          clear hbel
          go_wp2
          go_ret
          exact ⟨rfl, HBW.out⟩
  · go_enter Try.func4, Try.ntmps4
    go_wp2_with fail
    refine (big_yes _ _ _ _ hl).mono ?_
    rintro e w0 ⟨rfl, rfl⟩
    go_wp2
    all_goals (go_returns; exact ⟨rfl, by (repeat' (first | (with_reducible exact Below.refl _ _) | (with_reducible assumption) | (with_reducible refine Below.alloc ?_ ?_ _) | (with_reducible refine Below.drew ?_) | (with_reducible refine Below.setCell ?_ ?_ _) | (with_reducible refine Below.trans ?_ (Below.mono (by assumption) ?_)) | (with_reducible exact Nat.le_refl _) | omega | (simp only [World.size_alloc, World.size_setCell, World.size_drew]; omega) | (simp; omega) | (simp; done)))⟩)
end Go.Proofs.Ytjkcmcpgppfhhaa.wFnFold
