/-
  The call of FnClosed returns true and writes nothing that was there.
-/
import Derived.Test.YtbeefbmgbmgbfaaFone
import Derived.Test.YtbeefbmgbmgbfaaDtwo
import Derived.Test.YtbeefbmgbmgbfaaWtwo
import Derived.Deep.RegionWith
namespace Go.Proofs.Ytbeefbmgbmgbfaa.wFnClosed
open Go.ChangeShapes Go.WideShapes Go.ChangeAt Go.RowKit Go.Joins 
set_option linter.unusedSimpArgs false
set_option linter.unusedVariables false

theorem getD_mem {l : List (Int × Bool)} {k : Nat} (h : k < l.length) : l.getD k (0, false) ∈ l := by simp [List.getD, h]

set_option maxHeartbeats 8000000 in
set_option maxRecDepth 1000000 in
theorem walk (a : Option Addr) (len cap : Nat) (bs : List Int) (w : World) (hrow : ByteRow w w.heap.size a len bs) :
    Calls Try.prog 4 #[.slice a len cap] w fun e w' => e = .returned (.bool true) ∧ Below w.heap.size w w' := by
  by_cases hlen : len ≤ 4096
  · go_enter Try.func4, Try.ntmps4
    go_wp2_with fail
    refine (big_no _ _ _ _ hlen).mono ?_
    rintro e w0 ⟨rfl, rfl⟩
    go_wp2_with fail
    refine (drawWords_s a len cap bs _ hrow hlen).mono ?_
    rintro e w1 ⟨kind, u, v, gu, cu, gv, cv, rfl, hk0, hk3, hlu, hlv, hu8, hv8, ru, rv, hb1⟩
    have hk3' : kind < 4 := by omega
    clear rv hlv hrow
    have hcount := syms_count kind hk0 hk3
    have hwf := wordFrom_letters kind hk0 hk3 u (0, false) (syms_mirr kind hk0 hk3).1 hlu
    have hcl := syms_closed kind hk0 hk3
    have hbk := syms_back kind hk0 hk3
    have hrg := syms_range kind hk0 hk3
    have hsz := symsTo_le kind 8
    have CS : ∀ W, Calls Try.prog 21 #[.int .i64 kind] W fun e w' => ∃ g cap, e = .returned (.slice (some ⟨g, 0, Option.none⟩) (symsTo kind 8).length cap) ∧ w'.ownsRow W.heap.size 25 2 (.slice (some ⟨g, 0, Option.none⟩) (symsTo kind 8).length cap) (symsTo kind 8).length (symCells (symsTo kind 8)) ∧ Below W.heap.size W w' := fun W => symsOf_i kind W
    generalize symsTo kind 8 = l at hcount hwf hcl hbk hrg hsz CS
    have HCL : Hid (∀ p ∈ l, ∀ q ∈ l, thenP p q ∈ l) := hcl
    have HBK : Hid (∀ p ∈ l, (backT p.1 p.2, backF p.1 p.2) ∈ l) := hbk
    have HRG : Hid (∀ p ∈ l, isSymB p.1 = true) := hrg
    have HCN : Hid (l.length = [1, 2, 4, 8].getD kind.toNat 0) := hcount
    obtain ⟨r, hr, hrl⟩ := hwf
    have HWR : Hid (wordR kind u = (r, true)) := by
      show wordR kind u = (r, true)
      unfold wordR
      rw [if_pos ⟨hk0, hk3, by omega⟩, hr]
    have HU : Hid (IntRow w1 gu u) := ru
    have HB1 : Hid (Below w.heap.size w w1) := hb1
    have s1 := hb1.size
    clear hcl hbk hrg hcount hr hlu ru hb1
    go_wp2_with fail
    refine (CS _).mono ?_
    rintro e w2 ⟨g, cg, rfl, own, hb2⟩
    have HS2 : Hid (SymRow w2 g l) := symRow_of own rfl
    have HU2 : Hid (IntRow w2 gu u) := HU.out.below hb2
    have HB2 : Hid (Below w.heap.size w w2) := HB1.out.trans (hb2.mono s1)
    clear own HU HB1 CS hb2
    go_wp2_with fail
    go_loopw [7] (fun i wr => ∃ k : Nat, k ≤ l.length ∧ i = .int .i64 k ∧ SymRow wr g l ∧ IntRow wr gu u ∧ Below w.heap.size w wr) (fun i _ => l.length - (intOf i).toNat)
    case atStart => exact ⟨0, by omega, rfl, HS2.out, HU2.out, HB2.out⟩
    case round =>
      obtain ⟨k, hk, rfl, hS, hU, hbel⟩ := hrel
      have HS : Hid (SymRow wr g l) := hS
      have HUU : Hid (IntRow wr gu u) := hU
      have HB : Hid (Below w.heap.size w wr) := hbel
      have hbs := hbel.size
      clear hS hU hbel
      by_cases hlt : k < l.length
      · have hpm := getD_mem hlt
        go_wp2_with fail
        obtain ⟨wo, hwo⟩ : ∃ wo : World, wo = wr := ⟨_, rfl⟩
        go_loopw [8] (fun i wq => ∃ j : Nat, j ≤ l.length ∧ i = .int .i64 j ∧ SymRow wq g l ∧ IntRow wq gu u ∧ Below w.heap.size w wq) (fun i _ => l.length - (intOf i).toNat)
        case atStart => exact ⟨0, by omega, rfl, HS.out, HUU.out, HB.out⟩
        case round =>
          obtain ⟨j, hj, rfl, hS, hU, hbel⟩ := hrel
          have HS3 : Hid (SymRow wr g l) := hS
          have HU3 : Hid (IntRow wr gu u) := hU
          have HB3 : Hid (Below w.heap.size w wr) := hbel
          have hbs3 := hbel.size
          clear hS hU hbel
          by_cases hjt : j < l.length
          · have hqm := getD_mem hjt
            obtain ⟨p0, p1⟩ := HS3.out k hlt
            obtain ⟨q0, q1⟩ := HS3.out j hjt
            generalize hp : l.getD k (0, false) = p at hpm p0 p1
            generalize hq : l.getD j (0, false) = q at hqm q0 q1
            clear hp hq
            have HT : Hid ((thenT p.1 q.1 q.2, thenF p.1 q.1 p.2 q.2) ∈ l) := HCL.out p hpm q hqm
            go_wp2_with fail
            go_region_with (first | (go_at_call 17; refine (thenSym_i _ _ _ _ _).mono ?_; rintro e w5 ⟨rfl, hb5⟩; have HS5 : Hid (SymRow w5 g l) := (show SymRow wr.drew g l from HS3.out).below hb5; have HU5 : Hid (IntRow w5 gu u) := (show IntRow wr.drew gu u from HU3.out).below hb5; have HB5 : Hid (Below w.heap.size w w5) := HB3.out.drew.trans (hb5.mono hbs3); have hd5 := HB5.out.size; clear hb5) | (go_at_call 22; refine (has_yes l g _ _ _ _ _ rfl (by omega) HS5.out HT.out).mono ?_; rintro e w6 ⟨rfl, hb6⟩; have HS6 : Hid (SymRow w6 g l) := HS5.out.below hb6; have HU6 : Hid (IntRow w6 gu u) := HU5.out.below hb6; have HB6 : Hid (Below w.heap.size w w6) := HB5.out.trans (hb6.mono hd5); clear hb6))
            all_goals
              go_wp2
              go_roundw
              case rel => exact ⟨j + 1, by omega, by go_num, HS6.out, HU6.out, HB6.out⟩
              case measure => simp [intOf]; omega
          · obtain ⟨p0, p1⟩ := HS3.out k hlt
            generalize hp : l.getD k (0, false) = p at hpm p0 p1
            clear hp
            have HT : Hid ((backT p.1 p.2, backF p.1 p.2) ∈ l) := HBK.out p hpm
            have hsy := HRG.out p hpm
            have hjl : ¬ (j : Int) < (l.length : Int) := by omega
            go_wp2_with fail
            refine (backSym_i _ _ _).mono ?_
            rintro e w5 ⟨rfl, hb5⟩
            have HS5 : Hid (SymRow w5 g l) := HS3.out.below hb5
            have HU5 : Hid (IntRow w5 gu u) := HU3.out.below hb5
            have HB5 : Hid (Below w.heap.size w w5) := HB3.out.trans (hb5.mono hbs3)
            have hd5 := HB5.out.size
            clear hb5 p0 p1
            go_wp2_with fail
            refine (has_yes l g _ _ _ _ _ rfl (by omega) HS5.out HT.out).mono ?_
            rintro e w6 ⟨rfl, hb6⟩
            have HS6 : Hid (SymRow w6 g l) := HS5.out.below hb6
            have HU6 : Hid (IntRow w6 gu u) := HU5.out.below hb6
            have HB6 : Hid (Below w.heap.size w w6) := HB5.out.trans (hb6.mono hd5)
            have hd6 := HB6.out.size
            clear hb6
            have hpm2 := getD_mem hlt
            obtain ⟨p0, p1⟩ := HS6.out k hlt
            generalize hp : l.getD k (0, false) = p2 at hpm2 p0 p1
            clear hp
            have hsy2 := HRG.out p2 hpm2
            go_wp2_with fail
            refine (isSym_i _ _ _).mono ?_
            rintro e w7 ⟨rfl, hb7⟩
            have HS7 : Hid (SymRow w7 g l) := HS6.out.below hb7
            have HU7 : Hid (IntRow w7 gu u) := HU6.out.below hb7
            have HB7 : Hid (Below w.heap.size w w7) := HB6.out.trans (hb7.mono hd6)
            clear hb7 p0 p1
            go_wp2
            go_roundw
            case rel => exact ⟨k + 1, by omega, by go_num, HS7.out, HU7.out, HB7.out⟩
            case measure => simp [intOf]; omega
      · have hkn : k = l.length := by omega
        have hkl : ¬ (k : Int) < (l.length : Int) := by omega
        go_wp2_with fail
        have CW := symOfWord_i kind gu cu u wr HUU.out (by omega)
        rw [HWR.out] at CW
        refine CW.mono ?_
        rintro e w5 ⟨rfl, hb5⟩
        have HS5 : Hid (SymRow w5 g l) := HS.out.below hb5
        have HB5 : Hid (Below w.heap.size w w5) := HB.out.trans (hb5.mono hbs)
        have hd5 := HB5.out.size
        clear hb5
        go_wp2_with fail
        refine (has_yes l g _ _ _ _ _ rfl (by omega) HS5.out.alloc hrl).mono ?_
        rintro e w6 ⟨rfl, hb6⟩
        have HB6 : Hid (Below w.heap.size w w6) := (HB5.out.alloc hd5 _).trans (hb6.mono (by simp; omega))
        have hd6 := HB6.out.size
        clear hb6
        have hB6 := HB6.out
        rcases (by omega : kind = 0 ∨ kind = 1 ∨ kind = 2 ∨ kind = 3) with rfl | rfl | rfl | rfl
        all_goals
          have hc := HCN.out
          simp at hc
          have hci : (l.length : Int) = _ := congrArg Nat.cast hc
          simp only [hc] at *
          go_wp2
          go_returns
          exact ⟨rfl, by (repeat' (first | (with_reducible exact Below.refl _ _) | (with_reducible assumption) | (with_reducible refine Below.alloc ?_ ?_ _) | (with_reducible refine Below.drew ?_) | (with_reducible refine Below.setCell ?_ ?_ _) | (with_reducible refine Below.trans ?_ (Below.mono (by assumption) ?_)) | (with_reducible exact Nat.le_refl _) | omega | (simp only [World.size_alloc, World.size_setCell, World.size_drew]; omega) | (simp; omega) | (simp; done)))⟩
  · go_enter Try.func4, Try.ntmps4
    go_wp2_with fail
    refine (big_yes _ _ _ _ hlen).mono ?_
    rintro e w0 ⟨rfl, rfl⟩
    go_wp2
    go_returns; exact ⟨rfl, by (repeat' (first | (with_reducible exact Below.refl _ _) | (with_reducible assumption) | (with_reducible refine Below.alloc ?_ ?_ _) | (with_reducible refine Below.drew ?_) | (with_reducible refine Below.setCell ?_ ?_ _) | (with_reducible refine Below.trans ?_ (Below.mono (by assumption) ?_)) | (with_reducible exact Nat.le_refl _) | omega | (simp only [World.size_alloc, World.size_setCell, World.size_drew]; omega) | (simp; omega) | (simp; done)))⟩
end Go.Proofs.Ytbeefbmgbmgbfaa.wFnClosed
