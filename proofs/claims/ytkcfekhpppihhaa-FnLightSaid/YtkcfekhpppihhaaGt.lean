/-
  A stack of shards folded over the light; SeenThrough.
-/
import Derived.Test.YtkcfekhpppihhaaGk
namespace Go.Proofs.Ytkcfekhpppihhaa
open Go.ChangeShapes Go.WideShapes Go.ChangeAt Go.RowKit Go.Joins
set_option linter.unusedSimpArgs false
set_option linter.unusedVariables false
set_option maxRecDepth 100000
attribute [local go_sem] store_f
open Ieee
attribute [local go_sem] store_c

structure FoldIs (a : Option Addr) (n cap : Nat) (l : List Shd) (x y : Nat) (c d : Lit) : Prop where
  call : ∀ (q : Nat) (w : World), RowAt w a l → w.cell? ⟨q, 0, Option.none⟩ = some (.complex .f32 x y) → Calls Try.prog 47 #[.slice a n cap, .agg #[.float .f32 c.r, .float .f32 c.g, .float .f32 c.b], .func (.func 48) #[] #[.pointer (some ⟨q, 0, Option.none⟩)]] w fun e w' =>
    e = .returned (.agg #[.float .f32 d.r, .float .f32 d.g, .float .f32 d.b]) ∧ Below w.heap.size w w'

set_option maxHeartbeats 8000000 in
theorem foldIs {a : Option Addr} {cap x y : Nat} {l : List Shd} {c : Lit} (hlen : l.length ≤ 12) (hok : ∀ s ∈ l, s.Ok) (hc : c.Ok) (hx : inB x = true) (hy : inB y = true) : FoldIs a l.length cap l x y c (lightOf x y l c) := ⟨fun q w hrow hq => by
  have HK : Hid (∀ j, j < l.length → StepM x y (lightOf x y (l.take j) c) (l.getD j default) (lightOf x y (l.take (j + 1)) c)) := fun j hj => by
    rw [lightOf_snoc hj]
    exact stepM (hok _ (by simp [List.getD, hj])) (lightOf_ok _ (fun s hs => hok s (List.mem_of_mem_take hs)) hc) hx hy
  have H0 : Hid (lightOf x y (l.take 0) c = c) := by rw [List.take_zero]; exact lightOf_nil x y c
  have he : lightOf x y (l.take l.length) c = lightOf x y l c := by rw [List.take_length]
  have HE : Hid (lightOf x y (l.take l.length) c = lightOf x y l c) := he
  clear he
  have HR : Hid (RowAt w a l) := hrow
  have HQ : Hid (w.cell? ⟨q, 0, Option.none⟩ = some (.complex .f32 x y)) := hq
  clear hrow hq hok hc hx hy
  generalize lightOf x y l c = z at HE ⊢
  generalize hL : (fun j : Nat => lightOf x y (l.take j) c) = L
  have HK' : Hid (∀ j, j < l.length → StepM x y (L j) (l.getD j default) (L (j + 1))) := by rw [← hL]; exact HK.out
  have H0' : L 0 = c := by rw [← hL]; exact H0.out
  have HE' : L l.length = z := by rw [← hL]; exact HE.out
  clear HK H0 HE hL
  subst H0' HE'
  go_enter Try.func47, Try.ntmps47
  go_wp2_with fail
  generalize hW : (w.alloc (.cells #[.float .f32 (L 0).r, .float .f32 (L 0).g, .float .f32 (L 0).b] 28)).alloc (.cells #[.float .f32 0, .float .f32 0, .float .f32 0] 28) = X
  have C0 : Blk X w.heap.size #[.float .f32 (L 0).r, .float .f32 (L 0).g, .float .f32 (L 0).b] 28 := by rw [← hW]; exact (Blk.new _ _ _).alloc
  have R0 : Blk X (w.heap.size + 1) #[.float .f32 0, .float .f32 0, .float .f32 0] 28 := by rw [← hW]; exact Blk.newAt (by simp)
  have hB : Below w.heap.size w X := by rw [← hW]; (repeat' (first | (with_reducible exact Below.refl _ _) | (with_reducible assumption) | (with_reducible refine Below.alloc ?_ ?_ _) | (with_reducible refine Below.drew ?_) | (with_reducible refine Below.setCell ?_ ?_ _) | (with_reducible refine Below.trans ?_ (Below.mono (by assumption) ?_)) | (with_reducible exact Nat.le_refl _) | omega | (simp only [World.size_alloc, World.size_setCell, World.size_drew]; omega) | (simp; omega) | (simp; done)))
  clear hW
  go_loopw [11] (fun i wr => ∃ j : Nat, j ≤ l.length ∧ i = .int .i64 j ∧ Blk wr w.heap.size #[.float .f32 (L j).r, .float .f32 (L j).g, .float .f32 (L j).b] 28 ∧ Blk wr (w.heap.size + 1) #[.float .f32 0, .float .f32 0, .float .f32 0] 28 ∧ Below w.heap.size w wr) (fun i _ => l.length - (intOf i).toNat)
  case atStart => exact ⟨0, by omega, rfl, C0, R0, hB⟩
  case round =>
    obtain ⟨j, hj, rfl, hC, hR0, hbel⟩ := hrel
    have HB : Hid (Below w.heap.size w wr) := hbel
    have CC : Hid (Blk wr w.heap.size #[.float .f32 (L j).r, .float .f32 (L j).g, .float .f32 (L j).b] 28) := hC
    have RR : Hid (Blk wr (w.heap.size + 1) #[.float .f32 0, .float .f32 0, .float .f32 0] 28) := hR0
    have hbs := hbel.size
    have lr := hR0.lt
    have lr0 : w.heap.size < wr.heap.size := by omega
    clear C0 R0 hB hC hR0
    have k0 := Blk.cellAt (i := 0) CC.out rfl
    have k1 := Blk.cellAt (i := 1) CC.out rfl
    have k2 := Blk.cellAt (i := 2) CC.out rfl
    simp only [List.getElem_toArray, List.getElem_cons_zero, List.getElem_cons_succ] at k0 k1 k2
    by_cases hlt : j < l.length
    · have K := HK'.out j hlt
      rcases HR.out with hnil | ⟨b, off, rfl, hRR⟩
      · exfalso; rw [hnil] at hlt; simp at hlt
      have hrow := (ShRow.below hRR hbel) j hlt
      have hqq := cBelow hbel HQ.out
      generalize l.getD j default = s at hrow K
      generalize hd : L (j + 1) = d at K
      generalize L j = c at *
      obtain ⟨d0, d1, d2, d3, d4, d5, d6⟩ := hrow
      have HQQ : Hid ((wr.alloc (.cells #[.complex .f32 s.a1 s.a2, .complex .f32 s.b1 s.b2, .complex .f32 s.c1 s.c2, .float .f32 s.r, .float .f32 s.g, .float .f32 s.b, .float .f32 s.k] 37)).cell? ⟨q, 0, Option.none⟩ = some (.complex .f32 x y)) := cAlloc hqq
      clear hbel hRR hqq
      go_wp2_with fail
      refine (K.call q _ HQQ.out).mono ?_
      rintro e w2 ⟨rfl, hb⟩
      have HB2 : Hid (Below w.heap.size w w2) := (HB.out.alloc (by omega) _).trans (hb.mono (by simp; omega))
      have C2 : Hid (Blk w2 w.heap.size #[.float .f32 c.r, .float .f32 c.g, .float .f32 c.b] 28) := CC.out.alloc.below hb
      have R2 : Hid (Blk w2 (w.heap.size + 1) #[.float .f32 0, .float .f32 0, .float .f32 0] 28) := RR.out.alloc.below hb
      clear hb d0 d1 d2 d3 d4 d5 d6 k0 k1 k2 HQQ CC RR HB
      have HD : Hid (L (j + 1) = d) := hd
      clear hd
      have l2 := R2.out.lt
      have l20 := C2.out.lt
      have o0 := Blk.cellAt (i := 0) C2.out rfl
      have o1 := Blk.cellAt (i := 1) C2.out rfl
      have o2 := Blk.cellAt (i := 2) C2.out rfl
      have f0 := C2.out.free 0
      have f1 := C2.out.free 1
      have f2 := C2.out.free 2
      simp only [List.getElem_toArray, List.getElem_cons_zero, List.getElem_cons_succ] at o0 o1 o2
      go_wp2
      go_roundw
      case rel =>
        have hbb := HB2.out
        exact ⟨j + 1, by omega, by go_num, by rw [HD.out]; exact Blk.setAt (b := w.heap.size) rfl (Blk.setAt (b := w.heap.size) rfl (Blk.setAt (b := w.heap.size) rfl C2.out rfl) rfl) rfl, ((R2.out.other (by dsimp only; omega)).other (by dsimp only; omega)).other (by dsimp only; omega), by (repeat' (first | (with_reducible exact Below.refl _ _) | (with_reducible assumption) | (with_reducible refine Below.alloc ?_ ?_ _) | (with_reducible refine Below.drew ?_) | (with_reducible refine Below.setCell ?_ ?_ _) | (with_reducible refine Below.trans ?_ (Below.mono (by assumption) ?_)) | (with_reducible exact Nat.le_refl _) | omega | (simp only [World.size_alloc, World.size_setCell, World.size_drew]; omega) | (simp; omega) | (simp; done)))⟩
      case measure => simp [intOf]; omega
    · have hjm : j = l.length := by omega
      subst hjm
      clear hbel
      have o0 := Blk.cellAt (i := 0) RR.out rfl
      have o1 := Blk.cellAt (i := 1) RR.out rfl
      have o2 := Blk.cellAt (i := 2) RR.out rfl
      have f0 := RR.out.free 0
      have f1 := RR.out.free 1
      have f2 := RR.out.free 2
      simp only [List.getElem_toArray, List.getElem_cons_zero, List.getElem_cons_succ] at o0 o1 o2
      go_wp2
      have hbb := HB.out
      (have d0 := (RR.out.set (i := 0) (v := .float .f32 (L l.length).r)).cell 0; have d1 := ((RR.out.set (i := 0) (v := .float .f32 (L l.length).r)).set (i := 1) (v := .float .f32 (L l.length).g)).cell 1; have d2 := (((RR.out.set (i := 0) (v := .float .f32 (L l.length).r)).set (i := 1) (v := .float .f32 (L l.length).g)).set (i := 2) (v := .float .f32 (L l.length).b)).cell 2; simp only [List.setIfInBounds_toArray, List.set_cons_zero, List.set_cons_succ, List.getElem?_toArray, List.getElem?_cons_zero, List.getElem?_cons_succ] at d0 d1 d2; exact bodyPost_ret (v := .agg #[.float .f32 (L l.length).r, .float .f32 (L l.length).g, .float .f32 (L l.length).b]) (by simp [results, Try.results47, go_sem, d0, d1, d2]) rfl ⟨rfl, by (repeat' (first | (with_reducible exact Below.refl _ _) | (with_reducible assumption) | (with_reducible refine Below.alloc ?_ ?_ _) | (with_reducible refine Below.drew ?_) | (with_reducible refine Below.setCell ?_ ?_ _) | (with_reducible refine Below.trans ?_ (Below.mono (by assumption) ?_)) | (with_reducible exact Nat.le_refl _) | omega | (simp only [World.size_alloc, World.size_setCell, World.size_drew]; omega) | (simp; omega) | (simp; done)))⟩)⟩

structure SeenIs (a : Option Addr) (n cap : Nat) (l : List Shd) (x y : Nat) (c d : Lit) : Prop where
  call : ∀ (w : World), RowAt w a l → Calls Try.prog 18 #[.slice a n cap, .complex .f32 x y, .agg #[.float .f32 c.r, .float .f32 c.g, .float .f32 c.b]] w fun e w' =>
    e = .returned (.agg #[.float .f32 d.r, .float .f32 d.g, .float .f32 d.b]) ∧ Below w.heap.size w w'
structure AreYes (a : Option Addr) (n cap : Nat) (l : List Shd) : Prop where
  call : ∀ w : World, RowAt w a l → Calls Try.prog 46 #[.slice a n cap] w fun e w' => e = .returned (.bool true) ∧ Below w.heap.size w w'
set_option maxHeartbeats 8000000 in
theorem seen_of {a : Option Addr} {n cap x y : Nat} {l : List Shd} {c d : Lit} (A : AreYes a n cap l) (P : PtIs x y true) (C : ColIs c.r c.g c.b true) (F : FoldIs a n cap l x y c d) : SeenIs a n cap l x y c d := ⟨fun w hrow => by
  have HR : Hid (RowAt w a l) := hrow
  clear hrow
  go_enter Try.func18, Try.ntmps18
  go_wp2_with fail
  generalize hW : ((w.alloc (.cells #[.complex .f32 x y] 25)).alloc (.cells #[.float .f32 c.r, .float .f32 c.g, .float .f32 c.b] 28)).alloc (.cells #[.float .f32 0, .float .f32 0, .float .f32 0] 28) = X
  have P0 : Hid (Blk X w.heap.size #[.complex .f32 x y] 25) := by rw [← hW]; exact ((Blk.new _ _ _).alloc).alloc
  have C0 : Hid (Blk X (w.heap.size + 1) #[.float .f32 c.r, .float .f32 c.g, .float .f32 c.b] 28) := by rw [← hW]; exact (Blk.newAt (by simp)).alloc
  have R0 : Hid (Blk X (w.heap.size + 1 + 1) #[.float .f32 0, .float .f32 0, .float .f32 0] 28) := by rw [← hW]; exact Blk.newAt (by simp)
  have hB : Below w.heap.size w X := by rw [← hW]; (repeat' (first | (with_reducible exact Below.refl _ _) | (with_reducible assumption) | (with_reducible refine Below.alloc ?_ ?_ _) | (with_reducible refine Below.drew ?_) | (with_reducible refine Below.setCell ?_ ?_ _) | (with_reducible refine Below.trans ?_ (Below.mono (by assumption) ?_)) | (with_reducible exact Nat.le_refl _) | omega | (simp only [World.size_alloc, World.size_setCell, World.size_drew]; omega) | (simp; omega) | (simp; done)))
  have hsz : X.heap.size = w.heap.size + 3 := by rw [← hW]; simp
  have HB : Hid (Below w.heap.size w X) := hB
  have HR0 : Hid (RowAt X a l) := HR.out.below hB
  clear hW hB HR
  refine (A.call _ HR0.out).mono ?_
  rintro e w1 ⟨rfl, hb⟩
  have P1 : Hid (Blk w1 w.heap.size #[.complex .f32 x y] 25) := P0.out.below hb
  have C1 : Hid (Blk w1 (w.heap.size + 1) #[.float .f32 c.r, .float .f32 c.g, .float .f32 c.b] 28) := C0.out.below hb
  have R1 : Hid (Blk w1 (w.heap.size + 1 + 1) #[.float .f32 0, .float .f32 0, .float .f32 0] 28) := R0.out.below hb
  have HB1 : Hid (Below w.heap.size w w1) := HB.out.trans (hb.mono (by omega))
  have HR1 : Hid (RowAt w1 a l) := HR0.out.below hb
  have hl1 := R1.out.lt
  clear hb P0 C0 R0 HB HR0
  have p0 := Blk.cellAt (i := 0) P1.out rfl
  have d0 := Blk.cellAt (i := 0) C1.out rfl
  have d1 := Blk.cellAt (i := 1) C1.out rfl
  have d2 := Blk.cellAt (i := 2) C1.out rfl
  simp only [List.getElem_toArray, List.getElem_cons_zero, List.getElem_cons_succ] at p0 d0 d1 d2
  go_wp2_with (go_at_call 17; (with_reducible refine (P.call _).mono ?_); rintro e w2 ⟨rfl, rfl⟩)
  refine (C.call _).mono ?_
  rintro e w3 ⟨rfl, hb⟩
  have P3 : Hid (Blk w3 w.heap.size #[.complex .f32 x y] 25) := P1.out.below hb
  have C3 : Hid (Blk w3 (w.heap.size + 1) #[.float .f32 c.r, .float .f32 c.g, .float .f32 c.b] 28) := C1.out.below hb
  have R3 : Hid (Blk w3 (w.heap.size + 1 + 1) #[.float .f32 0, .float .f32 0, .float .f32 0] 28) := R1.out.below hb
  have HB3 : Hid (Below w.heap.size w w3) := HB1.out.trans (hb.mono (by omega))
  have HR3 : Hid (RowAt w3 a l) := HR1.out.below hb
  have hl3 := R3.out.lt
  clear hb P1 C1 R1 HB1 HR1 p0 d0 d1 d2
  have p0 : Hid (w3.cell? ⟨w.heap.size, 0, Option.none⟩ = some (.complex .f32 x y)) := P3.out.cell 0
  have d0 := Blk.cellAt (i := 0) C3.out rfl
  have d1 := Blk.cellAt (i := 1) C3.out rfl
  have d2 := Blk.cellAt (i := 2) C3.out rfl
  simp only [List.getElem_toArray, List.getElem_cons_zero, List.getElem_cons_succ] at d0 d1 d2
  go_wp2_with fail
  refine (F.call _ _ HR3.out p0.out).mono ?_
  rintro e w4 ⟨rfl, hb⟩
  have R4 : Hid (Blk w4 (w.heap.size + 1 + 1) #[.float .f32 0, .float .f32 0, .float .f32 0] 28) := R3.out.below hb
  have HB4 : Hid (Below w.heap.size w w4) := HB3.out.trans (hb.mono (by omega))
  have hl4 := R4.out.lt
  clear hb P3 C3 R3 HB3 HR3 p0 d0 d1 d2
  have o0 := Blk.cellAt (i := 0) R4.out rfl
  have o1 := Blk.cellAt (i := 1) R4.out rfl
  have o2 := Blk.cellAt (i := 2) R4.out rfl
  have f0 := R4.out.free 0
  have f1 := R4.out.free 1
  have f2 := R4.out.free 2
  simp only [List.getElem_toArray, List.getElem_cons_zero, List.getElem_cons_succ] at o0 o1 o2
  go_wp2
  have hbb := HB4.out
  (have d0 := (R4.out.set (i := 0) (v := .float .f32 d.r)).cell 0; have d1 := ((R4.out.set (i := 0) (v := .float .f32 d.r)).set (i := 1) (v := .float .f32 d.g)).cell 1; have d2 := (((R4.out.set (i := 0) (v := .float .f32 d.r)).set (i := 1) (v := .float .f32 d.g)).set (i := 2) (v := .float .f32 d.b)).cell 2; simp only [List.setIfInBounds_toArray, List.set_cons_zero, List.set_cons_succ, List.getElem?_toArray, List.getElem?_cons_zero, List.getElem?_cons_succ] at d0 d1 d2; exact bodyPost_ret (v := .agg #[.float .f32 d.r, .float .f32 d.g, .float .f32 d.b]) (by simp [results, Try.results18, go_sem, d0, d1, d2]) rfl ⟨rfl, by (repeat' (first | (with_reducible exact Below.refl _ _) | (with_reducible assumption) | (with_reducible refine Below.alloc ?_ ?_ _) | (with_reducible refine Below.drew ?_) | (with_reducible refine Below.setCell ?_ ?_ _) | (with_reducible refine Below.trans ?_ (Below.mono (by assumption) ?_)) | (with_reducible exact Nat.le_refl _) | omega | (simp only [World.size_alloc, World.size_setCell, World.size_drew]; omega) | (simp; omega) | (simp; done)))⟩)⟩
theorem colYes {r g b : Nat} (hr : Part r) (hg : Part g) (hb : Part b) : ColIs r g b true := by
  have h := colIs r g b
  rwa [parts_col hr hg hb] at h
theorem seenIs {a : Option Addr} {cap x y : Nat} {l : List Shd} {c : Lit} (hlen : l.length ≤ 12) (hok : ∀ s ∈ l, s.Ok) (hc : c.Ok) (hx : inB x = true) (hy : inB y = true) : SeenIs a l.length cap l x y c (lightOf x y l c) :=
  seen_of ⟨(areIs hlen hok).call⟩ (ptYes hx hy) (colYes (.inl hc.r) (.inl hc.g) (.inl hc.b)) (foldIs hlen hok hc hx hy)
end Go.Proofs.Ytkcfekhpppihhaa
