/-
  Texts of this proof, joined: Tbn, Tbo.
-/
import Derived.Test.YtekkgpanmccdgaaK23
import Derived.Deep.RegionHeld3
import Derived.Deep.DeepCutAuto
import Derived.Test.YtekkgpanmccdgaaK21
/-
  The model counts bounces: BouncesOf.
-/
namespace Go.Proofs.Ytekkgpanmccdgaa
open Go.ChangeShapes Go.WideShapes Go.ChangeAt Go.RowKit Go.Joins
set_option linter.unusedSimpArgs false
set_option linter.unusedVariables false
set_option maxRecDepth 100000
attribute [local go_sem] store_f
open Ieee Go.Lib
attribute [local go_sem] store_c

/-- How the model sees whether a bead bounces. -/
structure HitIs (kind : Int) (g1 g2 : Nat) (b : Bw) (x y z1 z2 a1 a2 : Nat) (t : Int) (f : Bool) : Prop where
  j1 : JoinS b.v1 b.v2 g1 g2 x y
  j2 : JoinS b.a1 b.a2 x y z1 z2
  fold : FoldMS kind z1 z2 a1 a2 t f
/-- What counting of the model rests on. -/
structure CountsS (kind : Int) (g1 g2 ls n N : Nat) (L : Nat → List Bw) : Prop where
  few : N ≤ 8
  less : n ≤ 64
  len : ∀ j, j ≤ n → (L j).length = N
  run : RunM 25 kind g1 g2 ls n N (L 0) (L n)
  step : ∀ j, j < n → StepM 70 kind g1 g2 ls N (L j) (L (j + 1))
  hit : ∀ j, j < n → ∀ k, k < N → ∃ x y z1 z2 a1 a2 t f, HitIs kind g1 g2 ((L j).getD k default) x y z1 z2 a1 a2 t f
structure BnsM (kind : Int) (g1 g2 ls n N : Nat) (L : List Bw) : Prop where
  call : ∀ (w : World) (a : Option Addr) (cap : Nat), BwIn w a L → Calls Try.prog 28 #[.agg #[.int .i64 kind, .complex .f32 g1 g2, .float .f32 ls, .slice a N cap], .int .i64 n] w fun e w' => ∃ v, e = .returned (.tuple #[v, .bool true]) ∧ Below w.heap.size w w'

theorem BwIn.ints {W w1 : World} {a : Option Addr} {L : List Bw} {o N : Nat} {f : Nat → Nat} (h : BwIn W a L) (hI : IntsAt W o N f) (hN : L.length = N) (hg : W.grownBy w1 (some o)) : BwIn w1 a L := by
  by_cases h0 : 0 < N
  · exact h.grownAt hg (hI.cell h0)
  · exact .inl (List.eq_nil_of_length_eq_zero (by omega))
theorem grown_below {W w1 w2 : World} {o : Nat} (h : W.grownBy w1 (some o)) (hb : Below w1.heap.size w1 w2) : W.grownBy w2 (some o) :=
  grownBy_trans h ⟨hb.os, hb.tape, hb.output, hb.size, fun i hi _ => hb.block i hi⟩

set_option maxHeartbeats 32000000 in
theorem bnsM {kind : Int} {g1 g2 ls n N : Nat} {L : Nat → List Bw} (K : CountsS kind g1 g2 ls n N L) : BnsM kind g1 g2 ls n N (L 0) := ⟨fun w a cap hr => by
  have hmk := fun W => makeI N (by have := K.few; omega) W
  have RT := K.run
  have HS := Lib.hid K.step
  have HH := Lib.hid K.hit
  have hn := K.few
  have hn2 := K.less
  have HL := Lib.hid K.len
  have HR := Lib.hid hr
  clear K hr
  go_enter Try.func28, Try.ntmps28
  go_wp2_with fail
  clear hmk
  generalize hX : (w.alloc (.cells #[.int .i64 kind, .complex .f32 g1 g2, .float .f32 ls, .slice a N cap] 39)).alloc (.cells (madeCells #[.int .i64 0] N) 3) = X
  have M0 : Hid (Blk X w.heap.size #[.int .i64 kind, .complex .f32 g1 g2, .float .f32 ls, .slice a N cap] 39) := by rw [← hX]; exact (Blk.new _ _ _).alloc
  have I0 : Hid (IntsAt X (w.heap.size + 1) N (fun _ => 0)) := by
    rw [← hX]
    have h := ints_made (w.alloc (.cells #[.int .i64 kind, .complex .f32 g1 g2, .float .f32 ls, .slice a N cap] 39)) N (fun _ => 0) (fun _ _ => rfl)
    simp only [World.size_alloc] at h
    exact h
  have B0 : Hid (BwIn X a (L 0)) := by rw [← hX]; exact HR.out.alloc.alloc
  have G0 : Hid (Below w.heap.size w X) := by rw [← hX]; show Below w.heap.size w _; (repeat' (first | (with_reducible exact Below.refl _ _) | (with_reducible assumption) | (with_reducible refine Below.alloc ?_ ?_ _) | (with_reducible refine Below.drew ?_) | (with_reducible refine Below.setCell ?_ ?_ _) | (with_reducible refine Below.trans ?_ (Below.mono (by assumption) ?_)) | (with_reducible exact Nat.le_refl _) | omega | (simp only [World.size_alloc, World.size_setCell, World.size_drew]; omega) | (simp; omega) | (simp; done)))
  have sX : w.heap.size + 2 ≤ X.heap.size := by rw [← hX]; simp
  clear hX HR
  refine (RT.call _ _ _ B0.out).mono ?_
  rintro e w1 ⟨b1, c1, ⟨rfl, _, hb⟩⟩
  have M1 := Lib.hid (M0.out.below hb)
  have I1 := Lib.hid (I0.out.below hb)
  have B1 : Hid (BwIn w1 a (L 0)) := B0.out.below hb
  have G1 : Hid (Below w.heap.size w w1) := G0.out.trans (hb.mono (by omega))
  have s1 := hb.size
  clear hb M0 I0 B0 G0 RT
  (have m0 := Blk.cellAt (i := 0) M1.out rfl; have m1 := Blk.cellAt (i := 1) M1.out rfl; have m2 := Blk.cellAt (i := 2) M1.out rfl; have m3 := Blk.cellAt (i := 3) M1.out rfl; simp only [List.getElem_toArray, List.getElem_cons_zero, List.getElem_cons_succ] at m0 m1 m2 m3)
  have l0 := M1.out.lt
  go_wp2_with fail
  generalize hV : (w1.alloc (.cells #[.int .i64 kind, .complex .f32 g1 g2, .float .f32 ls, .slice b1 N c1] 39)).alloc (.cells #[.int .i64 kind, .complex .f32 g1 g2, .float .f32 ls, .slice a N cap] 39) = V
  have D2 : Hid (Blk V (w1.heap.size + 1) #[.int .i64 kind, .complex .f32 g1 g2, .float .f32 ls, .slice a N cap] 39) := by rw [← hV]; exact Blk.newAt (by simp)
  have I2 : Hid (IntsAt V (w.heap.size + 1) N (fun _ => 0)) := by rw [← hV]; exact (I1.out.below ((Below.refl _ _).alloc (Nat.le_refl _) _)).below ((Below.refl _ _).alloc (Nat.le_refl _) _)
  have B2 : Hid (BwIn V a (L 0)) := by rw [← hV]; exact B1.out.alloc.alloc
  have G2 : Hid (Below w.heap.size w V) := by rw [← hV]; exact (G1.out.alloc (by omega) _).alloc (by simp; omega) _
  clear hV M1 I1 B1 G1 m0 m1 m2 m3 l0
  obtain ⟨tb, htb⟩ : ∃ tb, tb = w1.heap.size + 1 := ⟨_, rfl⟩
  rw [← htb] at D2 ⊢
  have hot : w.heap.size + 1 < tb := by omega
  clear htb s1 sX
  go_loopw [10] (fun i wr => ∃ (j : Nat) (aj : Option Addr) (cj : Nat) (f : Nat → Nat), j ≤ n ∧ i = .int .i64 j ∧ Blk wr tb #[.int .i64 kind, .complex .f32 g1 g2, .float .f32 ls, .slice aj N cj] 39 ∧ BwIn wr aj (L j) ∧ (∀ i, f i ≤ j * 8) ∧ IntsAt wr (w.heap.size + 1) N f ∧ Below w.heap.size w wr) (fun i _ => n - (intOf i).toNat)
  case atStart => exact ⟨0, a, cap, fun _ => 0, by omega, rfl, D2.out, B2.out, fun _ => Nat.le_refl _, I2.out, G2.out⟩
  case round =>
    obtain ⟨j, aj, cj, f, hj, rfl, hD, hO, hf, hI, hbel⟩ := hrel
    have DR := Lib.hid hD
    have OR := Lib.hid hO
    have FR := Lib.hid hf
    have IR := Lib.hid hI
    have BR := Lib.hid hbel
    have hsz := hbel.size
    clear hD hO hf hI hbel D2 I2 B2 G2
    by_cases hlt : j < n
    · have KV := HS.out j hlt
      have KH := Lib.hid (HH.out j hlt)
      have HLj := Lib.hid (HL.out j hj)
      have d3 := Blk.cellAt (i := 3) DR.out rfl
      simp only [List.getElem_toArray, List.getElem_cons_zero, List.getElem_cons_succ] at d3
      have l1 := DR.out.lt
      generalize hw0 : wr = w0
      rw [hw0] at DR OR IR BR hsz d3 l1
      clear hw0
      go_wp2_with fail
      clear d3
      go_loopw [38] (fun i wr => ∃ (k : Nat) (h : Nat → Nat), k ≤ N ∧ i = .int .i64 k ∧ (∀ i, h i ≤ j * 8 + k) ∧ IntsAt wr (w.heap.size + 1) N h ∧ w0.grownBy wr (some (w.heap.size + 1))) (fun i _ => N - (intOf i).toNat)
      case atStart => exact ⟨0, f, by omega, rfl, FR.out, IR.out, grownBy_refl _ _⟩
      case round =>
        obtain ⟨k, h, hk, rfl, hh, hI, hgr⟩ := hrel
        have GR := Lib.hid hgr
        have HI := Lib.hid hI
        have HF := Lib.hid hh
        have hs := hgr.size
        have DI := Lib.hid (DR.out.grown hgr (by omega))
        have OI : Hid (BwIn wr aj (L j)) := OR.out.ints IR.out HLj.out hgr
        have loh := hI.lt
        clear hh hI hgr
        by_cases hlk : k < N
        · obtain ⟨x, y, z1, z2, p1, p2, st, sf, K⟩ := KH.out k hlk
          have J1 := K.j1
          have J2 := K.j2
          have F := K.fold
          rcases OI.out with hnil | ⟨gm, rfl, hrow⟩
          · exfalso; have := HLj.out; rw [hnil] at this; simp at this; omega
          obtain ⟨c0, c1⟩ := hrow k (by have := HLj.out; omega)
          generalize (L j).getD k default = b at J1 J2 c0 c1
          clear K hrow
          go_wp2_with fail
          generalize hY : wr.alloc (.cells #[.complex .f32 b.a1 b.a2, .complex .f32 b.v1 b.v2] 54) = Y
          have Y0 : Blk Y wr.heap.size #[.complex .f32 b.a1 b.a2, .complex .f32 b.v1 b.v2] 54 := by rw [← hY]; exact Blk.new _ _ _
          have DY : Blk Y tb #[.int .i64 kind, .complex .f32 g1 g2, .float .f32 ls, .slice (some ⟨gm, 0, Option.none⟩) N cj] 39 := by rw [← hY]; exact DI.out.alloc
          have YB : Hid (Below wr.heap.size wr Y) := by rw [← hY]; exact (Below.refl _ _).alloc (Nat.le_refl _) _
          have sY : wr.heap.size < Y.heap.size := Y0.lt
          (have y0 := Blk.cellAt (i := 0) Y0 rfl; have y1 := Blk.cellAt (i := 1) Y0 rfl; simp only [List.getElem_toArray, List.getElem_cons_zero, List.getElem_cons_succ] at y0 y1)
          (have d0 := Blk.cellAt (i := 0) DY rfl; have d1 := Blk.cellAt (i := 1) DY rfl; have d2 := Blk.cellAt (i := 2) DY rfl; have d3 := Blk.cellAt (i := 3) DY rfl; simp only [List.getElem_toArray, List.getElem_cons_zero, List.getElem_cons_succ] at d0 d1 d2 d3)
          have lt1 := DY.lt
          clear hY Y0 DY d2 d3 c0 c1
          have hX0 : Below Y.heap.size Y Y := Below.refl _ _
          have hX1 : Y.heap.size ≤ Y.heap.size := Nat.le_refl _
          go_cut [14] (fun p9 wx => ∃ nh : Nat, p9 = .pointer (some ⟨nh, 0, Option.none⟩) ∧ nh < wx.heap.size ∧ wx.cell? ⟨nh, 0, Option.none⟩ = some (.int .i64 (st)) ∧ wx.cell? ⟨nh, 1, Option.none⟩ = some (.bool (sf)) ∧ Below Y.heap.size Y wx ∧ Y.heap.size ≤ wx.heap.size)
          case first =>
            go_region_held3 (fun wx => Below Y.heap.size Y wx ∧ Y.heap.size ≤ wx.heap.size ∧ wr.heap.size < wx.heap.size ∧ tb < wx.heap.size ∧ wx.cell? ⟨tb, 0, Option.none⟩ = some (.int .i64 kind) ∧ wx.cell? ⟨tb, 1, Option.none⟩ = some (.complex .f32 g1 g2) ∧ wx.cell? ⟨wr.heap.size, 0, Option.none⟩ = some (.complex .f32 b.a1 b.a2) ∧ wx.cell? ⟨wr.heap.size, 1, Option.none⟩ = some (.complex .f32 b.v1 b.v2))
              (((repeat' apply And.intro) <;> first | (with_reducible assumption) | (((repeat (first | (with_reducible assumption) | (with_reducible exact cNewAt (by first | rfl | (simp only [World.size_alloc, World.size_setCell, World.size_drew]; done) | omega) rfl) | (with_reducible exact sNewAt (by first | rfl | (simp only [World.size_alloc, World.size_setCell, World.size_drew]; done) | omega) rfl) | (simp; done) | (with_reducible apply cAlloc) | (with_reducible apply cDrew) | (with_reducible refine cSet (by dsimp only; omega) ?_) | (with_reducible refine cSetOff (by dsimp only; omega) ?_) | (with_reducible apply cSame) | (with_reducible refine cBelow (by assumption) ?_) | (with_reducible apply sAlloc) | (with_reducible apply sDrew) | (with_reducible refine sBelow (by assumption) ?_) | (with_reducible refine sSet (by dsimp only; omega) ?_))); first | done | (simp [*]; done)); done) | (simp only [World.size_alloc, World.size_setCell, World.size_drew]; omega) | omega | (go_keep; done) | ((repeat' (first | (with_reducible exact Below.refl _ _) | (with_reducible assumption) | (with_reducible refine Below.alloc ?_ ?_ _) | (with_reducible refine Below.drew ?_) | (with_reducible refine Below.setCell ?_ ?_ _) | (with_reducible refine Below.trans ?_ (Below.mono (by assumption) ?_)) | (with_reducible exact Nat.le_refl _) | omega | (simp only [World.size_alloc, World.size_setCell, World.size_drew]; omega) | (simp; omega) | (simp; done))); done)))
              (first | (go_at_call 72; (first | (with_reducible refine (J1.call _).mono ?_) | (with_reducible refine (J2.call _).mono ?_)); rintro e w2 ⟨rfl, rfl⟩) | (go_at_call 71; (with_reducible refine (F.call _).mono ?_); rintro e w3 ⟨rfl, hb⟩; have hbs := hb.size; (try simp only [World.size_alloc, World.size_setCell, World.size_drew] at hbs); (try ((first | have hN := Blk.belowAt hb hN | have hN := Blk.belowAt hb (Blk.drew (Blk.new _ _ _)) | have hN := Blk.belowAt hb (Blk.new _ _ _)); (try simp only [World.size_drew] at hN); have y0 := Blk.cellAt (i := 0) hN rfl; have y1 := Blk.cellAt (i := 1) hN rfl; simp only [List.getElem_toArray, List.getElem_cons_zero, List.getElem_cons_succ] at y0 y1; have z0 := hN.free 0; have z1 := hN.free 1; have zl := hN.lt))))
            all_goals (go_wp2_with fail; go_meet; refine ⟨_, rfl, ?_⟩; ((repeat' apply And.intro) <;> first | (with_reducible assumption) | (((repeat (first | (with_reducible assumption) | (with_reducible exact cNewAt (by first | rfl | (simp only [World.size_alloc, World.size_setCell, World.size_drew]; done) | omega) rfl) | (with_reducible exact sNewAt (by first | rfl | (simp only [World.size_alloc, World.size_setCell, World.size_drew]; done) | omega) rfl) | (simp; done) | (with_reducible apply cAlloc) | (with_reducible apply cDrew) | (with_reducible refine cSet (by dsimp only; omega) ?_) | (with_reducible refine cSetOff (by dsimp only; omega) ?_) | (with_reducible apply cSame) | (with_reducible refine cBelow (by assumption) ?_) | (with_reducible apply sAlloc) | (with_reducible apply sDrew) | (with_reducible refine sBelow (by assumption) ?_) | (with_reducible refine sSet (by dsimp only; omega) ?_))); first | done | (simp [*]; done)); done) | (simp only [World.size_alloc, World.size_setCell, World.size_drew]; omega) | omega | (go_keep; done) | ((repeat' (first | (with_reducible exact Below.refl _ _) | (with_reducible assumption) | (with_reducible refine Below.alloc ?_ ?_ _) | (with_reducible refine Below.drew ?_) | (with_reducible refine Below.setCell ?_ ?_ _) | (with_reducible refine Below.trans ?_ (Below.mono (by assumption) ?_)) | (with_reducible exact Nat.le_refl _) | omega | (simp only [World.size_alloc, World.size_setCell, World.size_drew]; omega) | (simp; omega) | (simp; done))); done)))
          case rest =>
            obtain ⟨nh, rfl, hnh, q0, q1, hbel, hsz2⟩ := hcut
            have WB : Below wr.heap.size wr wc := YB.out.trans (hbel.mono YB.out.size)
            have HI2 := Lib.hid (HI.out.below WB)
            have GR2 := Lib.hid (grown_below GR.out WB)
            have sW := WB.size
            have hk1 := HF.out k
            have q2 := HI2.out.cell hlk
            have q3 := HI2.out.free k
            have hone : ((h k + 1 : Nat) : Int) = (h k : Int) + 1 := by omega
            have IS : Hid (IntsAt (wc.setCell ⟨w.heap.size + 1, k, Option.none⟩ (.int .i64 ((h k : Int) + 1))) (w.heap.size + 1) N (fun i => if i = k then h k + 1 else h i)) := by
              rw [← hone]; exact HI2.out.set (fun _ _ => rfl)
            clear hbel YB hX0 hX1 y0 y1 d0 d1 DI OI hone HI GR
            by_cases hst : st = 0
            · subst hst
              cases sf
              · go_wp2_with fail
                go_roundw
                case rel => exact ⟨k + 1, h, by omega, by go_num, fun i => by have := HF.out i; omega, HI2.out, GR2.out⟩
                case measure => simp [intOf]; omega
              · go_wp2_with fail
                go_roundw
                case rel => exact ⟨k + 1, fun i => if i = k then h k + 1 else h i, by omega, by go_num, fun i => by have := HF.out i; dsimp only; split <;> omega, IS.out, grownBy_set GR2.out⟩
                case measure => simp [intOf]; omega
            · have h0' : (st == 0) = false := by simpa using hst
              go_wp2_with fail
              go_roundw
              case rel => exact ⟨k + 1, fun i => if i = k then h k + 1 else h i, by omega, by go_num, fun i => by have := HF.out i; dsimp only; split <;> omega, IS.out, grownBy_set GR2.out⟩
              case measure => simp [intOf]; omega
        · have hkN : k = N := by omega
          subst hkN
          (have d0 := Blk.cellAt (i := 0) DI.out rfl; have d1 := Blk.cellAt (i := 1) DI.out rfl; have d2 := Blk.cellAt (i := 2) DI.out rfl; have d3 := Blk.cellAt (i := 3) DI.out rfl; simp only [List.getElem_toArray, List.getElem_cons_zero, List.getElem_cons_succ] at d0 d1 d2 d3)
          have l2 := DI.out.lt
          go_wp2_with fail
          refine (KV.call _ _ _ OI.out).mono ?_
          rintro e w7 ⟨a2, c2, ⟨rfl, hrow, hb⟩⟩
          have DY := Lib.hid (DI.out.below hb)
          have OY := Lib.hid hrow
          have IY := Lib.hid (HI.out.below hb)
          have GY : Hid (Below w.heap.size w w7) := (BR.out.trans (below_of_grown GR.out (by omega) (by omega))).trans (hb.mono (by omega))
          clear hb hrow DI OI HI d0 d1 d2 d3 l2
          (have d0 := Blk.cellAt (i := 0) DY.out rfl; have d1 := Blk.cellAt (i := 1) DY.out rfl; have d2 := Blk.cellAt (i := 2) DY.out rfl; have d3 := Blk.cellAt (i := 3) DY.out rfl; simp only [List.getElem_toArray, List.getElem_cons_zero, List.getElem_cons_succ] at d0 d1 d2 d3)
          have P0 := Lib.hid d0
          have f0 := DY.out.free 0
          have f1 := DY.out.free 1
          have f2 := DY.out.free 2
          have f3 := DY.out.free 3
          have l2 := DY.out.lt
          have RS : Blk ((((w7.setCell ⟨tb, 0, Option.none⟩ (.int .i64 kind)).setCell ⟨tb, 1, Option.none⟩ (.complex .f32 g1 g2)).setCell ⟨tb, 2, Option.none⟩ (.float .f32 ls)).setCell ⟨tb, 3, Option.none⟩ (.slice a2 k c2)) tb #[.int .i64 kind, .complex .f32 g1 g2, .float .f32 ls, .slice a2 k c2] 39 := Blk.setAt rfl (Blk.setAt rfl (Blk.setAt rfl (Blk.setAt rfl DY.out rfl) rfl) rfl) rfl
          have HRS := Lib.hid RS
          clear RS
          go_wp2_with fail
          go_roundw
          case rel => exact ⟨j + 1, a2, c2, h, by omega, by go_num, HRS.out, OY.out.grownAt grown_set4 P0.out, fun i => by have := HF.out i; omega, IY.out.grown grown_set4 (by omega), (((GY.out.setCell (by dsimp only; omega) _).setCell (by dsimp only; omega) _).setCell (by dsimp only; omega) _).setCell (by dsimp only; omega) _⟩
          case measure => simp [intOf]; omega
    · have hjN : j = n := by omega
      subst hjN
      go_wp2
      exact bodyPost_ret (v := .tuple #[.slice (some ⟨w.heap.size + 1, 0, Option.none⟩) N N, .bool true]) (by simp [results, Try.results28, go_sem]) rfl ⟨_, rfl, BR.out⟩⟩
end Go.Proofs.Ytekkgpanmccdgaa

/-
  Bounces are counted in parts as at once.
-/
namespace Go.Proofs.Ytekkgpanmccdgaa
open Go.ChangeShapes Go.WideShapes Go.ChangeAt Go.RowKit Go.Joins
set_option linter.unusedSimpArgs false
set_option linter.unusedVariables false
set_option maxRecDepth 100000
attribute [local go_sem] store_f
open Ieee Go.Lib

theorem cntQ_add (Qs : Nat → List Bool) (k i : Nat) : ∀ j, cntQ Qs (k + j) i = cntQ Qs k i + cntQ (fun j => Qs (k + j)) j i
  | 0 => rfl
  | j + 1 => by
    show cntQ Qs (k + j) i + (if (Qs (k + j)).getD i false then 1 else 0) = cntQ Qs k i + (cntQ (fun j => Qs (k + j)) j i + (if (Qs (k + j)).getD i false then 1 else 0))
    rw [cntQ_add Qs k i j]
    omega
theorem cntQ_no {Qs : Nat → List Bool} {i : Nat} (h : ∀ j, (Qs j).getD i false = false) : ∀ n, cntQ Qs n i = 0
  | 0 => rfl
  | n + 1 => by
    show cntQ Qs n i + (if (Qs n).getD i false then 1 else 0) = 0
    rw [h n, cntQ_no h n]
    rfl
theorem hits_0 (g : PtW) (b : PtW × PtW) : hits 0 g b = false := by
  rw [hits_eq, foldS_0]; simp
theorem hitsW_0 (g : PtW) (ls : Nat) (l : List (PtW × PtW)) (j i : Nat) : (hitsW 0 g ls l j).getD i false = false := by
  unfold hitsW
  rw [List.getD_eq_getElem?_getD, List.getElem?_map]
  cases (runL 0 g (keptW ls) j l)[i]? with
  | none => rfl
  | some b => exact hits_0 g b

/-- All that the law asks. -/
structure Bo (kind : Int) (g1 g2 ls n N : Nat) (L0 Lk : List Bw) (Ca Cb Cc : Nat → Nat) : Prop where
  all : BncM 27 kind g1 g2 ls n N L0 Ca
  bs : BnsM kind g1 g2 ls n N L0
  one : ∀ (w : World) (a : Option Addr) (cap : Nat), BwIn w a L0 → Calls Try.prog 27 #[.agg #[.int .i64 kind, .complex .f32 g1 g2, .float .f32 ls, .slice a N cap], .int .i64 ((n : Int) / 2)] w fun e w' => ∃ gc, BncOut w e w' N Cb gc
  mid : ∀ (w : World) (a : Option Addr) (cap : Nat), BwIn w a L0 → Calls Try.prog 17 #[.agg #[.int .i64 kind, .complex .f32 g1 g2, .float .f32 ls, .slice a N cap], .int .i64 ((n : Int) / 2)] w fun e w' => ∃ a' c', RunOut w e w' kind g1 g2 ls N Lk a' c'
  two : ∀ (w : World) (a : Option Addr) (cap : Nat), BwIn w a Lk → Calls Try.prog 27 #[.agg #[.int .i64 kind, .complex .f32 g1 g2, .float .f32 ls, .slice a N cap], .int .i64 ((n : Int) - (n : Int) / 2)] w fun e w' => ∃ gc, BncOut w e w' N Cc gc
  add : ∀ i, Ca i = Cb i + Cc i
  le : ∀ i, Ca i ≤ n
  no : kind = 0 → ∀ i, Ca i = 0
theorem bo_of {kind : Int} {g : PtW} {ls n : Nat} {l : List (PtW × PtW)} (B : Base kind g ls l) (hn : n ≤ 24) : ∃ Lk Ca Cb Cc, Bo kind g.1.1 g.1.2 ls n l.length (l.map wd) Lk Ca Cb Cc := by
  have R1 := runs_of B (i := 0) (n := n) (by omega)
  have R2 := runs_of B (i := 0) (n := n / 2) (by omega)
  have R3 := runs_of B (i := n / 2) (n := n - n / 2) (by omega)
  have RS := runs_s B hn
  have BS := bnsM (L := fun j => runW kind g ls l j) (kind := kind) (g1 := g.1.1) (g2 := g.1.2) (ls := ls) (n := n) (N := l.length) ⟨B.few, by omega, fun j _ => runW_len _ _ _ _ _, RS, fun j hj => step_run B (by omega), fun j hj k hk => by
    have hl := runL_len kind g (keptW ls) l j
    obtain ⟨h1, h2, _⟩ := run_lim B j (by omega) ((runL kind g (keptW ls) j l).getD k default) (getD_mem (by omega))
    obtain ⟨_, hs⟩ := lim_sum h1 B.gr (by omega)
    have J1 := join_lim h1 B.gr (by omega)
    have J2 := join_lim h2 hs (by omega)
    have F := foldS_pt B.k0 B.k3 (sumP ((runL kind g (keptW ls) j l).getD k default).1 (sumP ((runL kind g (keptW ls) j l).getD k default).2 g))
    have e : (runW kind g ls l j).getD k default = wd ((runL kind g (keptW ls) j l).getD k default) := by
      unfold runW
      rw [getD_map wd _ (by omega)]
    show ∃ x y z1 z2 a1 a2 t f, HitIs kind g.1.1 g.1.2 ((runW kind g ls l j).getD k default) x y z1 z2 a1 a2 t f
    rw [e]
    exact ⟨_, _, _, _, _, _, _, _, J1, J2, F⟩⟩
  rw [Nat.zero_add, runW_0] at R1 R2
  have hc : n / 2 + (n - n / 2) = n := by omega
  rw [hc] at R3
  have Q1 := bncM R1
  have Q2 := bncM R2
  have Q3 := bncM R3
  have X2 := runM R2
  refine ⟨runW kind g ls l (n / 2), cntQ (fun j => hitsW kind g ls l (0 + j)) n, cntQ (fun j => hitsW kind g ls l (0 + j)) (n / 2), cntQ (fun j => hitsW kind g ls l (n / 2 + j)) (n - n / 2), ⟨Q1, by rw [← runW_0 kind g ls l]; exact BS, fun w a cap h => ?_, fun w a cap h => ?_, fun w a cap h => ?_, fun i => ?_, fun i => cntQ_le _ _ _, fun e i => ?_⟩⟩
  · have h2 := Q2.call w a cap h
    rwa [show ((n / 2 : Nat) : Int) = (n : Int) / 2 by omega] at h2
  · have h2 := X2.call w a cap h
    rwa [show ((n / 2 : Nat) : Int) = (n : Int) / 2 by omega] at h2
  · have h2 := Q3.call w a cap h
    rwa [show ((n - n / 2 : Nat) : Int) = (n : Int) - (n : Int) / 2 by omega] at h2
  · have h := cntQ_add (fun j => hitsW kind g ls l (0 + j)) (n / 2) i (n - n / 2)
    rw [hc] at h
    rw [h]
    simp only [Nat.zero_add]
  · subst e
    exact cntQ_no (fun j => hitsW_0 g ls l (0 + j) i) n
end Go.Proofs.Ytekkgpanmccdgaa
