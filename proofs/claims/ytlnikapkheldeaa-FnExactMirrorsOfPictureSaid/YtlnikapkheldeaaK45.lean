/-
  Texts of this proof, joined: En, Sfive.
-/
import Derived.Test.YtlnikapkheldeaaK44
import Derived.Test.YtlnikapkheldeaaK16
import Derived.Test.YtlnikapkheldeaaK17
import Derived.Deep.RegionHeld3
import Derived.Deep.RegionWith
import Derived.Deep.DeepCutAuto
import Derived.Test.YtlnikapkheldeaaK02
import Derived.Test.YtlnikapkheldeaaK12
import Derived.StillTailTactics
/-
  MirrorsOfPicture of the model.
-/
namespace Go.Proofs.Ytlnikapkheldeaa
open Go.ChangeShapes Go.WideShapes Go.ChangeAt Go.RowKit Go.Joins
set_option linter.unusedSimpArgs false
set_option linter.unusedVariables false
set_option maxRecDepth 100000
attribute [local go_sem] store_f
open Ieee

/-- The greatest of the first j kinds that P says yes to. -/
def bestTo (P : Int → Bool) : Nat → Int
  | 0 => -1
  | j + 1 => if P (j : Int) then (j : Int) else bestTo P j
theorem best_mir (P : Int → Bool) : bestTo P 4 = mirN P := by
  unfold mirN bestTo bestTo bestTo bestTo bestTo
  cases h3 : P 3 <;> cases h2 : P 2 <;> cases h1 : P 1 <;> cases h0 : P 0 <;> simp_all
/-- Has a picture all symmetries of a kind? -/
def allOf (n : Int) (l : List Lit) (k : Int) : Bool := picB n l && (symsTo k 8).all (keepsB n.toNat l)
theorem syms_sub : ∀ k : Fin 4, (∀ p ∈ symsTo (k.val : Int) 8, p ∈ symsTo 3 8) ∧ symsTo (k.val : Int) 8 ≠ [] := by decide +kernel
theorem mirN_congr {P Q : Int → Bool} (h : ∀ k : Nat, k < 4 → P k = Q k) : mirN P = mirN Q := by
  have h0 := h 0 (by omega)
  have h1 := h 1 (by omega)
  have h2 := h 2 (by omega)
  have h3 := h 3 (by omega)
  rw [← best_mir, ← best_mir]
  unfold bestTo bestTo bestTo bestTo bestTo
  rw [h0, h1, h2, h3]
theorem hasAll_allOf (n : Int) (l : List Lit) (k : Nat) (hk : k < 4) : hasAll ((symsTo 3 8).filter fun p => picB n l && keepsB n.toNat l p) (k : Int) = allOf n l k := by
  obtain ⟨hs, hne⟩ := syms_sub ⟨k, hk⟩
  dsimp only at hs hne
  unfold hasAll allOf
  rw [Bool.eq_iff_iff, List.all_eq_true, Bool.and_eq_true, List.all_eq_true]
  constructor
  · intro h
    have h2 : ∀ p ∈ symsTo (k : Int) 8, picB n l = true ∧ keepsB n.toNat l p = true := fun p hp => by
      have h3 := of_decide_eq_true (h p hp)
      have h4 := (List.mem_filter.1 h3).2
      simpa using h4
    obtain ⟨p, hp⟩ := List.exists_mem_of_ne_nil _ hne
    exact ⟨(h2 p hp).1, fun q hq => (h2 q hq).2⟩
  · rintro ⟨h1, h2⟩ p hp
    refine decide_eq_true (List.mem_filter.2 ⟨hs p hp, ?_⟩)
    rw [h1, h2 p hp]; rfl

structure MirZ (n : Int) (a : Option Addr) (cap : Nat) (l : List Lit) (m : Int) : Prop where
  call : ∀ w : World, LitsAt w a l → Calls Try.prog 59 #[.agg #[.int .i64 n, .slice a l.length cap]] w fun e w' => e = .returned (.int .i64 m) ∧ Below w.heap.size w w'
/-- What a round for one symmetry rests on. -/
structure RoundM (n : Int) (a : Option Addr) (cap : Nat) (l : List Lit) (p : Bool) (t : Int) (f : Bool) (q : Bool) : Prop where
  keep : p = true → ∃ m, KeepZ n a cap l t f m q
theorem all_take {α : Type} (P : α → Bool) (z : α) {l : List α} {j : Nat} (h : j < l.length) : (l.take (j + 1)).all P = ((l.take j).all P && P (l.getD j z)) := by
  have e : l.getD j z = l[j] := by simp [List.getD, h]
  rw [List.take_succ_eq_append_getElem h, List.all_append, e]
  simp

set_option maxHeartbeats 32000000 in
theorem mirZ_of {n : Int} {a : Option Addr} {cap : Nat} {l : List Lit} {pb : Bool} {Q : Int × Bool → Bool} (IP : PicS n a cap l pb)
    (HK : Hid (∀ k : Nat, k < 4 → ∀ j, j < (symsTo (k : Int) 8).length → RoundM n a cap l pb ((symsTo (k : Int) 8).getD j (0, false)).1 ((symsTo (k : Int) 8).getD j (0, false)).2 (Q ((symsTo (k : Int) 8).getD j (0, false))))) :
    MirZ n a cap l (bestTo (fun k => pb && (symsTo k 8).all Q) 4) := ⟨fun w hrow => by
  have HR : Hid (LitsAt w a l) := hrow
  have HB4 : Hid (∀ k : Nat, bestTo (fun k => pb && (symsTo k 8).all Q) (k + 1) = if (pb && (symsTo (k : Int) 8).all Q) then (k : Int) else bestTo (fun k => pb && (symsTo k 8).all Q) k) := fun k => rfl
  have H0 : Hid (bestTo (fun k => pb && (symsTo k 8).all Q) 0 = -1) := rfl
  generalize bestTo (fun k => pb && (symsTo k 8).all Q) = best at HB4 H0 ⊢
  clear hrow
  go_enter Try.func59, Try.ntmps59
  go_wp2_with fail
  generalize hW : w.alloc (.cells #[.int .i64 n, .slice a l.length cap] 37) = X
  have P0 : Hid (PicBox X w.heap.size n a cap l) := by rw [← hW]; exact ⟨Blk.new _ _ _, HR.out.alloc⟩
  have HB0 : Hid (Below w.heap.size w X) := by rw [← hW]; show Below w.heap.size w _; (repeat' (first | (with_reducible exact Below.refl _ _) | (with_reducible assumption) | (with_reducible refine Below.alloc ?_ ?_ _) | (with_reducible refine Below.drew ?_) | (with_reducible refine Below.setCell ?_ ?_ _) | (with_reducible refine Below.trans ?_ (Below.mono (by assumption) ?_)) | (with_reducible exact Nat.le_refl _) | omega | (simp only [World.size_alloc, World.size_setCell, World.size_drew]; omega) | (simp; omega) | (simp; done)))
  clear hW
  go_loopw [3, 4] (fun v i wr => ∃ k : Nat, k ≤ 4 ∧ i = .int .i64 k ∧ v = .int .i64 (best k) ∧ PicBox wr w.heap.size n a cap l ∧ Below w.heap.size w wr) (fun _ i _ => 4 - (intOf i).toNat)
  case atStart => exact ⟨0, by omega, rfl, by rw [H0.out], P0.out, HB0.out⟩
  case round =>
    obtain ⟨k, hk, rfl, rfl, hP, hbel⟩ := hrel
    have P1 : Hid (PicBox wr w.heap.size n a cap l) := hP
    have B1 : Hid (Below w.heap.size w wr) := hbel
    clear hP hbel P0 HB0
    by_cases hlt : k < 4
    · have hk3 : (k : Int) ≤ 3 := by omega
      have HKK : Hid (∀ j, j < (symsTo (k : Int) 8).length → RoundM n a cap l pb ((symsTo (k : Int) 8).getD j (0, false)).1 ((symsTo (k : Int) 8).getD j (0, false)).2 (Q ((symsTo (k : Int) 8).getD j (0, false)))) := HK.out k hlt
      have HBK := HB4.out k
      have HT : Hid (∀ j, j < (symsTo (k : Int) 8).length → (pb && ((symsTo (k : Int) 8).take (j + 1)).all Q) = ((pb && ((symsTo (k : Int) 8).take j).all Q) && Q ((symsTo (k : Int) 8).getD j (0, false)))) := fun j hj => by
        rw [all_take Q (0, false) hj, Bool.and_assoc]
      have HE : Hid ((pb && ((symsTo (k : Int) 8).take (symsTo (k : Int) 8).length).all Q) = (pb && (symsTo (k : Int) 8).all Q)) := by rw [List.take_length]; rfl
      have HZ : Hid ((pb && ((symsTo (k : Int) 8).take 0).all Q) = pb) := by simp [Hid]
      have hs8 := symsTo_le (k : Int) 8
      have SY := fun w => symsOf_s (k : Int) w
      generalize hA : (fun j : Nat => (pb && ((symsTo (k : Int) 8).take j).all Q)) = A
      have HT' : Hid (∀ j, j < (symsTo (k : Int) 8).length → A (j + 1) = (A j && Q ((symsTo (k : Int) 8).getD j (0, false)))) := by rw [← hA]; exact HT.out
      have HE' : Hid (A (symsTo (k : Int) 8).length = (pb && (symsTo (k : Int) 8).all Q)) := by rw [← hA]; exact HE.out
      have HZ' : Hid (A 0 = pb) := by rw [← hA]; exact HZ.out
      have HP' : Hid (∀ j, A j = true → pb = true) := by
        rw [← hA]
        intro j h
        simp only [Bool.and_eq_true] at h
        exact h.1
      clear hA HT HE HZ
      generalize (pb && (symsTo (k : Int) 8).all Q) = ba at HBK HE'
      have HBKH : Hid (best (k + 1) = if ba then (k : Int) else best k) := HBK
      clear HBK
      generalize symsTo (k : Int) 8 = s at *
      (have p0 := Blk.cellAt (i := 0) P1.out.blk rfl; have p1 := Blk.cellAt (i := 1) P1.out.blk rfl; simp only [List.getElem_toArray, List.getElem_cons_zero, List.getElem_cons_succ] at p0 p1)
      go_wp2_with fail
      refine (IP.call _ P1.out.row).mono ?_
      rintro e w2 ⟨rfl, hb⟩
      have P2 : Hid (PicBox w2 w.heap.size n a cap l) := P1.out.below hb
      have B2 : Hid (Below w.heap.size w w2) := B1.out.trans (hb.mono B1.out.size)
      clear hb P1 B1 p0 p1
      go_wp2_with fail
      refine (SY _).mono ?_
      rintro e w3 ⟨gs, cs, rfl, own, hb⟩
      have S3 : Hid (SymRow w3 gs s) := symRow_of own rfl
      have P3 : Hid (PicBox w3 w.heap.size n a cap l) := P2.out.below hb
      have B3 : Hid (Below w.heap.size w w3) := B2.out.trans (hb.mono B2.out.size)
      clear hb own P2 B2 SY
      go_wp2_with fail
      obtain ⟨wo, hwo⟩ : ∃ wo : World, wo = wr := ⟨_, rfl⟩
      go_loopw [5, 17] (fun v i wq => ∃ j : Nat, j ≤ s.length ∧ i = .int .i64 j ∧ v = .bool (A j) ∧ Below w3.heap.size w3 wq) (fun _ i _ => s.length - (intOf i).toNat)
      case atStart => exact ⟨0, by omega, rfl, by rw [HZ'.out], Below.refl _ _⟩
      case round =>
        obtain ⟨j, hj, rfl, rfl, hbel⟩ := hrel
        have HB5 : Hid (Below w3.heap.size w3 wr) := hbel
        have hbs5 := hbel.size
        by_cases hjt : j < s.length
        · obtain ⟨c0, c1⟩ := (S3.out.below hbel) j hjt
          have P5 : Hid (PicBox wr w.heap.size n a cap l) := P3.out.below hbel
          have K := HKK.out j hjt
          have HTJ := HT'.out j hjt
          have HPJ := HP'.out j
          generalize s.getD j (0, false) = p at K HTJ c0 c1
          generalize Q p = q at K HTJ
          generalize A j = aj at HTJ HPJ ⊢
          obtain ⟨t, f⟩ := p
          simp only [] at c0 c1 K
          have HTH : Hid (A (j + 1) = (aj && q)) := HTJ
          have hj0 : (0 : Int) ≤ (j : Int) := by omega
          have hj1 : (j : Int) < (s.length : Int) := by omega
          clear hbel HTJ
          go_wp2_with fail
          generalize hV : wr.alloc (.cells #[.int .i64 t, .bool f] 25) = V
          have N0 : Blk V wr.heap.size #[.int .i64 t, .bool f] 25 := by rw [← hV]; exact Blk.new _ _ _
          have PV : Hid (PicBox V w.heap.size n a cap l) := by rw [← hV]; exact ⟨P5.out.blk.alloc, P5.out.row.alloc⟩
          have BV : Hid (Below w3.heap.size w3 V) := by rw [← hV]; exact HB5.out.alloc hbs5 _
          have hBV : Below V.heap.size V V := Below.refl _ _
          (have n0 := Blk.cellAt (i := 0) N0 rfl; have n1 := Blk.cellAt (i := 1) N0 rfl; simp only [List.getElem_toArray, List.getElem_cons_zero, List.getElem_cons_succ] at n0 n1)
          (have p0 := Blk.cellAt (i := 0) PV.out.blk rfl; have p1 := Blk.cellAt (i := 1) PV.out.blk rfl; simp only [List.getElem_toArray, List.getElem_cons_zero, List.getElem_cons_succ] at p0 p1)
          have hRV := PV.out.row
          have lN := N0.lt
          have lP : w.heap.size < V.heap.size := PV.out.blk.lt
          have lV := Nat.le_refl V.heap.size
          clear hV c0 c1 P5 N0 HB5
          generalize wr.heap.size = ng at *
          cases aj
          · go_region
            all_goals
              have B9 : Hid (Below w3.heap.size w3 V.drew) := BV.out.drew
              clear n0 n1 p0 p1 hRV hBV PV BV K
              go_wp2
              go_roundw
              case rel => exact ⟨j + 1, by omega, by go_num, by rw [HTH.out]; rfl, B9.out⟩
              case measure => simp [intOf]; omega
          · obtain ⟨m, KM⟩ := K.keep (HPJ rfl)
            clear HPJ K
            go_region_held3 (fun wx => Below V.heap.size V wx ∧ V.heap.size ≤ wx.heap.size ∧ ng < wx.heap.size ∧ w.heap.size < wx.heap.size ∧ wx.cell? ⟨ng, 0, Option.none⟩ = some (.int .i64 (t)) ∧ wx.cell? ⟨ng, 1, Option.none⟩ = some (.bool (f)) ∧ wx.cell? ⟨w.heap.size, 0, Option.none⟩ = some (.int .i64 n) ∧ wx.cell? ⟨w.heap.size, 1, Option.none⟩ = some (.slice a l.length cap))
              (((repeat' apply And.intro) <;> first | (with_reducible assumption) | ((repeat (first | (with_reducible assumption) | (with_reducible exact And.left (by assumption)) | (with_reducible exact And.left (And.right (by assumption))) | (with_reducible exact And.left (And.right (And.right (by assumption)))) | (with_reducible refine LitsAt.drew ?_) | (with_reducible refine LitsAt.below ?_ hb) | (with_reducible refine LitsAt.alloc ?_))); done) | (((repeat (first | (with_reducible assumption) | (with_reducible exact cNewAt (by first | rfl | (simp only [World.size_alloc, World.size_setCell, World.size_drew]; done) | omega) rfl) | (with_reducible exact sNewAt (by first | rfl | (simp only [World.size_alloc, World.size_setCell, World.size_drew]; done) | omega) rfl) | (simp; done) | (with_reducible apply cAlloc) | (with_reducible apply cDrew) | (with_reducible refine cSet (by dsimp only; omega) ?_) | (with_reducible refine cSetOff (by dsimp only; omega) ?_) | (with_reducible apply cSame) | (with_reducible refine cBelow (by assumption) ?_) | (with_reducible apply sAlloc) | (with_reducible apply sDrew) | (with_reducible refine sBelow (by assumption) ?_) | (with_reducible refine sSet (by dsimp only; omega) ?_))); first | done | (simp [*]; done)); done) | (simp only [World.size_alloc, World.size_setCell, World.size_drew]; omega) | omega | (go_keep; done) | ((repeat' (first | (with_reducible exact Below.refl _ _) | (with_reducible assumption) | (with_reducible refine Below.alloc ?_ ?_ _) | (with_reducible refine Below.drew ?_) | (with_reducible refine Below.setCell ?_ ?_ _) | (with_reducible refine Below.trans ?_ (Below.mono (by assumption) ?_)) | (with_reducible exact Nat.le_refl _) | omega | (simp only [World.size_alloc, World.size_setCell, World.size_drew]; omega) | (simp; omega) | (simp; done))); done)))
              (first | (go_at_call 51; (with_reducible refine (KM.act.call _ ?_).mono ?_); (next => exact LitsAt.below hRV (And.left (by assumption))); rintro e w5 ⟨b5, c5, ⟨rfl, ho, hb⟩⟩; have K5 : Hid (LitsAt w5 b5 m) := ho.lits; clear ho; have hbs := hb.size; (try simp only [World.size_alloc, World.size_setCell, World.size_drew] at hbs)) | (go_at_call 54; (with_reducible refine ((KM.same _ _).call _ K5.out ?_).mono ?_); (next => exact LitsAt.below hRV (And.left (by assumption))); rintro e w6 ⟨rfl, hb⟩; have hbs := hb.size; (try simp only [World.size_alloc, World.size_setCell, World.size_drew] at hbs)))
            all_goals
              rename_i hHeld
              have B9 : Hid (Below w3.heap.size w3 w6) := BV.out.trans (hHeld.1.mono BV.out.size)
              clear hHeld n0 n1 p0 p1 hRV hBV PV BV
              go_wp2
              go_roundw
              case rel => exact ⟨j + 1, by omega, by go_num, by rw [HTH.out]; rfl, B9.out⟩
              case measure => simp [intOf]; omega
        · have hjm : j = s.length := by omega
          subst hjm
          have P6 : Hid (PicBox wr w.heap.size n a cap l) := P3.out.below hbel
          have B6 : Hid (Below w.heap.size w wr) := B3.out.trans (hbel.mono B3.out.size)
          have HEE := HE'.out
          generalize A s.length = fa at HEE ⊢
          subst HEE
          clear hbel HB5
          cases fa
          · have hb0 : best (k + 1) = best k := by have h := HBKH.out; simpa using h
            go_wp2
            go_roundw
            case rel => exact ⟨k + 1, by omega, by go_num, by rw [hb0], P6.out, B6.out⟩
            case measure => simp [intOf]; omega
          · have hb0 : best (k + 1) = (k : Int) := by have h := HBKH.out; simpa using h
            go_wp2
            go_roundw
            case rel => exact ⟨k + 1, by omega, by go_num, by rw [hb0], P6.out, B6.out⟩
            case measure => simp [intOf]; omega
    · have hkm : k = 4 := by omega
      subst hkm
      go_wp2
      go_ret
      exact ⟨rfl, B1.out⟩⟩
theorem mirZ {n : Int} {a : Option Addr} {cap : Nat} {l : List Lit} (hw : ∀ c ∈ l, c.W) : MirZ n a cap l (mirN (allOf n l)) := by
  have h := mirZ_of (Q := keepsB n.toNat l) (picS n a cap hw) (fun k hk j hj => ⟨fun hp => by
    obtain ⟨u, rfl, h1, h8, hl, _⟩ := pic_cases hp
    obtain ⟨t, ht, h4⟩ := symsTo_in (k : Int) ((symsTo (k : Int) 8).getD j (0, false)) (by simp [List.getD, hj])
    have e : keepsB (u : Int).toNat l ((symsTo (k : Int) 8).getD j (0, false)) = colsEq (actCols u t ((symsTo (k : Int) 8).getD j (0, false)).2 l) l := by
      unfold keepsB; rw [ht]; rfl
    rw [e, ht]
    refine ⟨_, actX_yes _ h4 hp hw, fun g cp => ?_⟩
    have hbl : (actCols u t ((symsTo (k : Int) 8).getD j (0, false)).2 l).length ≤ 1000000000 := by
      have : u * u ≤ 8 * 8 := Nat.mul_le_mul h8 h8
      rw [act_len]
      omega
    have h := sameZ (n := (u : Int)) (a := g) (ca := cp) (m := (u : Int)) (b := a) (cb := cap) (k := l) hbl
    simpa using h⟩)
  rw [best_mir] at h
  exact h
theorem mir_both (n : Int) {l : List Lit} (hw : ∀ c ∈ l, c.W) : ∃ m : Int, (∀ a cap, MirM n a cap l m) ∧ (∀ a cap, MirZ n a cap l m) := by
  refine ⟨mirN (allOf n l), fun a cap => ?_, fun a cap => mirZ hw⟩
  have hS : ∀ a cap, PicSymsM n a cap l ((symsTo 3 8).filter fun p => picB n l && keepsB n.toNat l p) := fun a cap => by
    by_cases hp : picB n l = true
    · obtain ⟨u, rfl, _⟩ := pic_cases hp
      have h := picSymsM (a := a) (cap := cap) hp
      rw [hp]
      simpa [picSyms] using h
    · have hp' : picB n l = false := by simpa using hp
      have e : (symsTo 3 8).filter (fun p => false && keepsB n.toNat l p) = [] := by
        rw [List.filter_eq_nil_iff]
        intro p _ h
        simp at h
      rw [hp', e]
      exact picSymsM_no hp'
  have h1 := List.length_filter_le (fun p => picB n l && keepsB n.toNat l p) (symsTo 3 8)
  have h2 := symsTo_le 3 8
  have h := mirM (hS a cap) (by omega)
  rwa [mirN_congr (hasAll_allOf n l)] at h
end Go.Proofs.Ytlnikapkheldeaa

/-
  Two lists of symmetries compared, marked, and held against the marks.
-/
namespace Go.Proofs.Ytlnikapkheldeaa
open Go.ChangeShapes Go.WideShapes Go.ChangeAt Go.RowKit Go.Joins 
set_option linter.unusedSimpArgs false
set_option linter.unusedVariables false
set_option maxHeartbeats 1600000 in
set_option maxRecDepth 1000000 in
theorem eqSymS_same (l : List (Int × Bool)) (ga gb n ca cb : Nat) (w : World) (hn : l.length = n) (hsm : n ≤ 1000000) (ha : SymRow w ga l) (hbr : SymRow w gb l) :
    Calls Try.prog 56 #[.slice (some ⟨ga, 0, Option.none⟩) n ca, .slice (some ⟨gb, 0, Option.none⟩) n cb] w fun e w' => e = .returned (.bool true) ∧ Below w.heap.size w w' := by
  have HA : Hid (SymRow w ga l) := ha
  have HB : Hid (SymRow w gb l) := hbr
  clear ha hbr
  go_enter Try.func56, Try.ntmps56
  go_wp2
  go_loopw [5] (fun i wr => ∃ k : Nat, k ≤ n ∧ i = .int .i64 k ∧ Below w.heap.size w wr) (fun i _ => n - (intOf i).toNat)
  case atStart => exact ⟨0, by omega, rfl, Below.refl _ _⟩
  case round =>
    obtain ⟨k, hk, rfl, hbel⟩ := hrel
    by_cases hlt : k < n
    · have hA := (HA.out).below hbel k (by omega)
      have hB := (HB.out).below hbel k (by omega)
      obtain ⟨a0, a1⟩ := hA
      obtain ⟨b0, b1⟩ := hB
      go_wp2_with fail
      go_still_tail 8, (by kernel_rfl)
      change wpList _ _ _ _ _ wr.drew
      have hd : Below w.heap.size w wr.drew := hbel.drew
      have hds := hd.size
      generalize wr.drew = wx at hd hds ⊢
      go_wp2_with ((go_at_call 122; refine (eqSym_same _ _ _).mono ?_; rintro e w1 ⟨rfl, hb⟩; obtain ⟨hc, hf⟩ := bcell hb; have HL := keepL (by (repeat (first | (with_reducible assumption) | (with_reducible apply AllLt.alloc) | (with_reducible apply AllLt.setCell) | (with_reducible apply AllLt.drew) | (with_reducible exact AllLt.nil _)))) hb; have hq := HL; simp only [AllLt, and_true, World.size_alloc, World.size_setCell, World.size_drew] at hq; have hbs := hb.size; try simp only [World.size_alloc, World.size_setCell, World.size_drew] at hbs))
      go_roundw
      case rel => exact ⟨k + 1, by omega, by go_num, by (repeat' (first | (with_reducible exact Below.refl _ _) | (with_reducible assumption) | (with_reducible refine Below.alloc ?_ ?_ _) | (with_reducible refine Below.drew ?_) | (with_reducible refine Below.setCell ?_ ?_ _) | (with_reducible refine Below.trans ?_ (Below.mono (by assumption) ?_)) | (with_reducible exact Nat.le_refl _) | omega | (simp only [World.size_alloc, World.size_setCell, World.size_drew]; omega) | (simp; omega) | (simp; done)))⟩
      case measure => simp [intOf]; omega
    · have hkn : k = n := by omega
      subst hkn
      go_wp2
      go_returns; exact ⟨rfl, by (repeat' (first | (with_reducible exact Below.refl _ _) | (with_reducible assumption) | (with_reducible refine Below.alloc ?_ ?_ _) | (with_reducible refine Below.drew ?_) | (with_reducible refine Below.setCell ?_ ?_ _) | (with_reducible refine Below.trans ?_ (Below.mono (by assumption) ?_)) | (with_reducible exact Nat.le_refl _) | omega | (simp only [World.size_alloc, World.size_setCell, World.size_drew]; omega) | (simp; omega) | (simp; done)))⟩

/-- What a marked list of n symmetries holds, the marks counted from m. -/
def SymMarks (W : World) (g n : Nat) (m : Int) : Prop :=
  ∀ k : Nat, k < n → W.cell? ⟨g, k * 2, Option.none⟩ = some (.int .i64 (m + 2 * (k : Int))) ∧ W.cell? ⟨g, k * 2 + 1, Option.none⟩ = some (.bool ((m + 2 * (k : Int) + 1) % 3 == 0))
theorem SymMarks.below {W w1 : World} {g n : Nat} {m : Int} (h : SymMarks W g n m) (hb : Below W.heap.size W w1) : SymMarks w1 g n m :=
  fun k hk => ⟨cBelow hb (h k hk).1, cBelow hb (h k hk).2⟩

/-- A block of cells, not frozen, with room for n symmetries, of which the first k are marked. -/
def SymPart (W : World) (g n k : Nat) (m : Int) : Prop :=
  ∃ cur, W.heap[g]? = some (.cells cur 25 (0, 0)) ∧ n * 2 ≤ cur.size ∧
    ∀ j : Nat, j < k → cur[j * 2]? = some (.int .i64 (m + 2 * (j : Int))) ∧ cur[j * 2 + 1]? = some (.bool ((m + 2 * (j : Int) + 1) % 3 == 0))

theorem SymPart.step {W : World} {g n k : Nat} {m : Int} (h : SymPart W g n k m) (hk : k < n) :
    SymPart ((W.setCell ⟨g, k * 2, Option.none⟩ (.int .i64 (m + 2 * (k : Int)))).setCell ⟨g, k * 2 + 1, Option.none⟩ (.bool ((m + 2 * (k : Int) + 1) % 3 == 0))) g n (k + 1) m := by
  obtain ⟨cur, hb, hs, hm⟩ := h
  refine ⟨_, block_setCell (block_setCell hb _) _, by simpa using hs, fun j hj => ?_⟩
  simp only [Array.getElem?_setIfInBounds, Array.size_setIfInBounds]
  by_cases e : j = k
  · subst e
    simp
    omega
  · obtain ⟨h1, h2⟩ := hm j (by omega)
    have e1 : ¬ k * 2 + 1 = j * 2 := by omega
    have e2 : ¬ k * 2 = j * 2 := by omega
    have e3 : ¬ k * 2 + 1 = j * 2 + 1 := by omega
    have e4 : ¬ k * 2 = j * 2 + 1 := by omega
    simp only [e1, e2, e3, e4, if_false, ite_false]
    exact ⟨h1, h2⟩

set_option maxHeartbeats 1600000 in
set_option maxRecDepth 1000000 in
theorem markSymS_any (g n c : Nat) (m : Int) (w : World) (hsm : n ≤ 1000000) (hm0 : 0 ≤ m) (hm1 : m ≤ 1000000) (hp : SymPart w g n 0 m) :
    Calls Try.prog 57 #[.slice (some ⟨g, 0, Option.none⟩) n c, .int .i64 m] w fun e w' => e = .returned (.int .i64 (m + 2 * (n : Int))) ∧ SymPart w' g n n m ∧ w.grownBy w' (some g) := by
  go_enter Try.func57, Try.ntmps57
  go_wp2
  go_loopw [1, 5] (fun q i wr => ∃ k : Nat, k ≤ n ∧ i = .int .i64 k ∧ q = .int .i64 (m + 2 * (k : Int)) ∧ SymPart wr g n k m ∧ w.grownBy wr (some g)) (fun _ i _ => n - (intOf i).toNat)
  case atStart => exact ⟨0, by omega, rfl, by simp, hp, grownBy_refl _ _⟩
  case round =>
    obtain ⟨k, hk, rfl, rfl, hpart, hgr⟩ := hrel
    by_cases hlt : k < n
    · have hst := hpart.step hlt
      obtain ⟨cur, hb, hs, hm⟩ := hpart
      have hx0 : ∃ x0, wr.cell? ⟨g, k * 2, Option.none⟩ = some x0 := by rw [cell_of_block hb]; exact ⟨_, Array.getElem?_eq_getElem (by omega)⟩
      have hx1 : ∃ x1, wr.cell? ⟨g, k * 2 + 1, Option.none⟩ = some x1 := by rw [cell_of_block hb]; exact ⟨_, Array.getElem?_eq_getElem (by omega)⟩
      obtain ⟨x0, hx0⟩ := hx0
      obtain ⟨x1, hx1⟩ := hx1
      have hf0 := unfrozen_of_block hb (k * 2)
      have hf1 := unfrozen_of_block hb (k * 2 + 1)
      have HG : Hid (w.grownBy wr (some g)) := hgr
      have HS : Hid (SymPart ((wr.setCell ⟨g, k * 2, Option.none⟩ (.int .i64 (m + 2 * (k : Int)))).setCell ⟨g, k * 2 + 1, Option.none⟩ (.bool ((m + 2 * (k : Int) + 1) % 3 == 0))) g n (k + 1) m) := hst
      clear hb hm hs hgr hst
      go_wp2
      go_roundw
      case rel => exact ⟨k + 1, by omega, by go_num, by first | (go_num; done) | (simp; omega), HS.out, grownBy_set (grownBy_set HG.out)⟩
      case measure => simp [intOf]; omega
    · have hkn : k = n := by omega
      subst hkn
      go_wp2
      go_ret
      exact ⟨rfl, hpart, hgr⟩

theorem SymPart.marks {W : World} {g n : Nat} {m : Int} (h : SymPart W g n n m) : SymMarks W g n m := by
  obtain ⟨cur, hb, hs, hm⟩ := h
  intro k hk
  rw [cell_of_block hb, cell_of_block hb]
  exact hm k hk

set_option maxHeartbeats 1600000 in
set_option maxRecDepth 1000000 in
theorem heldSymS_any (g n c : Nat) (m : Int) (w : World) (hsm : n ≤ 1000000) (hm0 : 0 ≤ m) (hm1 : m ≤ 1000000) (hp : SymMarks w g n m) :
    Calls Try.prog 58 #[.slice (some ⟨g, 0, Option.none⟩) n c, .int .i64 m] w fun e w' => e = .returned (.int .i64 (m + 2 * (n : Int))) ∧ Below w.heap.size w w' := by
  have HP : Hid (SymMarks w g n m) := hp
  clear hp
  go_enter Try.func58, Try.ntmps58
  go_wp2
  go_loop [1, 5] (fun q i => ∃ k : Nat, k ≤ n ∧ i = .int .i64 k ∧ q = .int .i64 (m + 2 * (k : Int))) (fun _ i => n - (intOf i).toNat)
  case atStart => exact ⟨0, by omega, rfl, by simp⟩
  case round =>
    obtain ⟨k, hk, rfl, rfl⟩ := hrel
    by_cases hlt : k < n
    · obtain ⟨h0, h1⟩ := HP.out k hlt
      go_wp2
      go_round
      case rel => exact ⟨k + 1, by omega, by go_num, by first | (go_num; done) | (simp; omega)⟩
      case measure => simp [intOf]; omega
    · have hkn : k = n := by omega
      subst hkn
      go_wp2
      go_returns; exact ⟨rfl, by (repeat' (first | (with_reducible exact Below.refl _ _) | (with_reducible assumption) | (with_reducible refine Below.alloc ?_ ?_ _) | (with_reducible refine Below.drew ?_) | (with_reducible refine Below.setCell ?_ ?_ _) | (with_reducible refine Below.trans ?_ (Below.mono (by assumption) ?_)) | (with_reducible exact Nat.le_refl _) | omega | (simp only [World.size_alloc, World.size_setCell, World.size_drew]; omega) | (simp; omega) | (simp; done)))⟩
end Go.Proofs.Ytlnikapkheldeaa
