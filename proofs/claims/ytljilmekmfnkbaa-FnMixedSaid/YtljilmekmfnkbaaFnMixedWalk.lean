/-
  The call of FnMixed returns true and writes nothing that was there.
-/
import Derived.Test.YtljilmekmfnkbaaCmf
import Derived.Deep.RegionHeld3
import Derived.Deep.DeepCutAuto
namespace Go.Proofs.Ytljilmekmfnkbaa.wFnMixed
open Go.ChangeShapes Go.WideShapes Go.ChangeAt Go.RowKit Go.Joins
set_option linter.unusedSimpArgs false
set_option linter.unusedVariables false
set_option maxRecDepth 100000
attribute [local go_sem] store_f
open Ieee

structure MixM (a b c x y z k p q r : Nat) : Prop where
  call : ∀ w : World, Calls Try.prog 19 #[.agg #[.float .f32 a, .float .f32 b, .float .f32 c], .agg #[.float .f32 x, .float .f32 y, .float .f32 z], .float .f32 k] w fun e w' => e = .returned (.agg #[.float .f32 p, .float .f32 q, .float .f32 r]) ∧ Below w.heap.size w w'
structure ScrM (a b c x y z p q r : Nat) : Prop where
  call : ∀ w : World, Calls Try.prog 21 #[.agg #[.float .f32 a, .float .f32 b, .float .f32 c], .agg #[.float .f32 x, .float .f32 y, .float .f32 z]] w fun e w' => e = .returned (.agg #[.float .f32 p, .float .f32 q, .float .f32 r]) ∧ Below w.heap.size w w'
structure BriM (a b c m : Nat) : Prop where
  call : ∀ w : World, Calls Try.prog 22 #[.agg #[.float .f32 a, .float .f32 b, .float .f32 c]] w fun e w' => e = .returned (.float .f32 m) ∧ Below w.heap.size w w'
structure IsM (p q r : Nat) : Prop where
  call : ∀ w : World, Calls Try.prog 20 #[.agg #[.float .f32 p, .float .f32 q, .float .f32 r]] w fun e w' => e = .returned (.bool true) ∧ Below w.heap.size w w'

theorem is_of {p q r : Nat} (hp : p ≤ 1065353216) (hq : q ≤ 1065353216) (hr : r ≤ 1065353216) : IsM p q r := ⟨fun w => by
  have h := isColour_i p q r w
  rw [parts_colB (part_of_le hp) (part_of_le hq) (part_of_le hr)] at h
  exact h⟩

theorem mix_of {a b c x y z k : Nat} (ha : a ≤ 1065353216) (hb : b ≤ 1065353216) (hc : c ≤ 1065353216) (hx : x ≤ 1065353216) (hy : y ≤ 1065353216) (hz : z ≤ 1065353216) (hk : k ≤ 1065353216) :
    MixM a b c x y z k (mixB a x k) (mixB b y k) (mixB c z k) := by
  have pa := part_of_le ha
  have pb := part_of_le hb
  have pc := part_of_le hc
  have px := part_of_le hx
  have py := part_of_le hy
  have pz := part_of_le hz
  have pk := part_of_le hk
  have iA : AreC a b c x y z true := ⟨fun w => by
    have h := areColours_i a b c x y z w
    rw [parts_colB pa pb pc, parts_colB px py pz] at h
    exact h⟩
  have iK : ShaI k true := ⟨fun w => part_share pk ▸ isShare_i k w⟩
  exact ⟨fun w => mix_i_yes a b c x y z k _ _ _ _ _ _ iA iK ⟨fun w => differenceOf_p part_one pk w⟩ (wide_bits (part_less pk).fin) (wide_bits pk.fin) ⟨fun w => pairsOf_i a b c x y z w⟩ ⟨fun qa qb w ca cb => eachMix_of (mixI pa px pk) (mixI pb py pk) (mixI pc pz pk) qa qb w ca cb⟩ ⟨fun w => colourOf_i _ _ _ w⟩ w⟩

theorem scr_of {a b c x y z : Nat} (ha : a ≤ 1065353216) (hb : b ≤ 1065353216) (hc : c ≤ 1065353216) (hx : x ≤ 1065353216) (hy : y ≤ 1065353216) (hz : z ≤ 1065353216) :
    ScrM a b c x y z (subB 1065353216 (mulB (subB 1065353216 a) (subB 1065353216 x))) (subB 1065353216 (mulB (subB 1065353216 b) (subB 1065353216 y))) (subB 1065353216 (mulB (subB 1065353216 c) (subB 1065353216 z))) := by
  have s : ∀ {u : Nat}, u ≤ 1065353216 → Part (subB 1065353216 u) := fun h => part_of_le (less_le h)
  refine ⟨fun w => screen_i_of a b c x y z _ _ _ _ _ _ _ _ _ _ _ _ w ⟨fun w => ?_⟩ ⟨fun w => inverse_i_yes a b c (part_of_le ha) (part_of_le hb) (part_of_le hc) w⟩ ⟨fun w => inverse_i_yes x y z (part_of_le hx) (part_of_le hy) (part_of_le hz) w⟩
    ⟨fun w => filter_i_yes _ _ _ _ _ _ (s ha) (s hb) (s hc) (s hx) (s hy) (s hz) w⟩ ⟨fun w => inverse_i_yes _ _ _ ((s ha).mul (s hx)) ((s hb).mul (s hy)) ((s hc).mul (s hz)) w⟩⟩
  have h := areColours_i a b c x y z w
  rw [parts_colB (part_of_le ha) (part_of_le hb) (part_of_le hc), parts_colB (part_of_le hx) (part_of_le hy) (part_of_le hz)] at h
  exact h

/-- All that the law's calls give for two drawn colours and a share. -/
structure All (r g b x y z k f1 f2 f3 m1 m2 m3 s1 s2 s3 mf ma mc : Nat) : Prop where
  fab : FilI r g b x y z f1 f2 f3
  fba : FilI x y z r g b f1 f2 f3
  faw : FilI r g b 1065353216 1065353216 1065353216 r g b
  m0 : MixM r g b x y z 0 r g b
  m1' : MixM r g b x y z 1065353216 x y z
  mkk : MixM r g b x y z k m1 m2 m3
  im : IsM m1 m2 m3
  if' : IsM f1 f2 f3
  is' : IsM s1 s2 s3
  sab : ScrM r g b x y z s1 s2 s3
  sba : ScrM x y z r g b s1 s2 s3
  bf : BriM f1 f2 f3 mf
  ba : BriM r g b ma
  bc : BriM x y z mc

theorem all_of {r g b x y z k : Nat} (lr : r ≤ 1065353216) (lg : g ≤ 1065353216) (lb : b ≤ 1065353216) (lx : x ≤ 1065353216) (ly : y ≤ 1065353216) (lz : z ≤ 1065353216) (lk : k ≤ 1065353216) :
    ∃ f1 f2 f3 m1 m2 m3 s1 s2 s3 mf ma mc : Nat, All r g b x y z k f1 f2 f3 m1 m2 m3 s1 s2 s3 mf ma mc ∧
      (f1 ≤ 1065353216 ∧ f2 ≤ 1065353216 ∧ f3 ≤ 1065353216) ∧ (s1 ≤ 1065353216 ∧ s2 ≤ 1065353216 ∧ s3 ≤ 1065353216) ∧ mf ≤ ma ∧ mf ≤ mc ∧ ma ≤ 1065353216 ∧ mc ≤ 1065353216 := by
  have pr := part_of_le lr
  have pg := part_of_le lg
  have pb := part_of_le lb
  have px := part_of_le lx
  have py := part_of_le ly
  have pz := part_of_le lz
  have q1 := mulB_le lr lx
  have q2 := mulB_le lg ly
  have q3 := mulB_le lb lz
  have one : (1065353216 : Nat) ≤ 1065353216 := Nat.le_refl _
  have n1 : mixB r x k ≤ 1065353216 := mixB_le pr px (part_of_le lk)
  have n2 : mixB g y k ≤ 1065353216 := mixB_le pg py (part_of_le lk)
  have n3 : mixB b z k ≤ 1065353216 := mixB_le pb pz (part_of_le lk)
  have t : ∀ {u v : Nat}, u ≤ 1065353216 → v ≤ 1065353216 → subB 1065353216 (mulB (subB 1065353216 u) (subB 1065353216 v)) ≤ 1065353216 := fun hu hv => less_le (Nat.le_trans (mulB_le (less_le hu) (less_le hv)).1 (less_le hu))
  refine ⟨mulB r x, mulB g y, mulB b z, mixB r x k, mixB g y k, mixB b z k, _, _, _, _, _, _,
    ⟨⟨fun w => filter_i_yes r g b x y z pr pg pb px py pz w⟩, ⟨fun w => ?_⟩, ⟨fun w => ?_⟩, ?_, ?_, mix_of lr lg lb lx ly lz lk, is_of n1 n2 n3, is_of (by omega) (by omega) (by omega), ?_, scr_of lr lg lb lx ly lz, ?_,
      ⟨fun w => bright_i (r := mulB r x) (g := mulB g y) (b := mulB b z) (by omega) (by omega) (by omega) w⟩, ⟨fun w => bright_i lr lg lb w⟩, ⟨fun w => bright_i lx ly lz w⟩⟩,
    ⟨by omega, by omega, by omega⟩, ⟨t lr lx, t lg ly, t lb lz⟩, by omega, by omega, by omega, by omega⟩
  · have h := filter_i_yes x y z r g b px py pz pr pg pb w
    rw [mulB_comm px pr, mulB_comm py pg, mulB_comm pz pb] at h
    exact h
  · have h := filter_i_yes r g b 1065353216 1065353216 1065353216 pr pg pb part_one part_one part_one w
    rw [mulB_one lr, mulB_one lg, mulB_one lb] at h
    exact h
  · have h := mix_of (k := 0) lr lg lb lx ly lz (by omega)
    rw [mix_nil lr lx, mix_nil lg ly, mix_nil lb lz] at h
    exact h
  · have h := mix_of (k := 1065353216) lr lg lb lx ly lz one
    rw [mix_all lr lx, mix_all lg ly, mix_all lb lz] at h
    exact h
  · exact is_of (t lr lx) (t lg ly) (t lb lz)
  · have h := scr_of lx ly lz lr lg lb
    rw [mulB_comm (part_of_le (less_le lx)) (part_of_le (less_le lr)), mulB_comm (part_of_le (less_le ly)) (part_of_le (less_le lg)), mulB_comm (part_of_le (less_le lz)) (part_of_le (less_le lb))] at h
    exact h

theorem same_col {r g b : Nat} (hr : r ≤ 1065353216) (hg : g ≤ 1065353216) (hb : b ≤ 1065353216) (w : World) :
    (Op.equalIn 10000 26 (.agg #[.float .f32 r, .float .f32 g, .float .f32 b]) (.agg #[.float .f32 r, .float .f32 g, .float .f32 b])).run Try.prog w = .ok true w := by
  have h := run_eq_cols hr hg hb hr hg hb w
  simpa using h

theorem leq_true {a b : Nat} (h : a ≤ b) (hb : b ≤ 1065353216) : (FloatKind.f32.format.order a b == some .lt || FloatKind.f32.format.order a b == some .eq) = true := by
  rw [order_lt (by omega) hb, order_eq (by omega) hb]; simp; omega

set_option maxHeartbeats 16000000 in
theorem walk (a : Option Addr) (len cap : Nat) (bs : List Int) (w : World) (hrow : ByteRow w w.heap.size a len bs) :
    Calls Try.prog 3 #[.slice a len cap] w fun e w' => e = .returned (.bool true) ∧ Below w.heap.size w w' := by
  have HR : Hid (ByteRow w w.heap.size a len bs) := hrow
  clear hrow
  by_cases hl : len ≤ 4096
  · go_enter Try.func3, Try.ntmps3
    go_wp2_with fail
    refine (big_no _ _ _ _ hl).mono ?_
    rintro e w0 ⟨rfl, rfl⟩
    go_wp2_with fail
    refine (drawColours_s a len cap bs w HR.out hl).mono ?_
    rintro e w1 ⟨r, g, b, x, y, z, k, ⟨rfl, lr, lg, lb, lx, ly, lz, lk, hb⟩⟩
    obtain ⟨f1, f2, f3, m1, m2, m3, s1, s2, s3, mf, ma, mc, A, ⟨lf1, lf2, lf3⟩, ⟨ls1, ls2, ls3⟩, ofa, ofc, la, lc⟩ := all_of lr lg lb lx ly lz lk
    have ea := fun w => same_col lr lg lb w
    have ec := fun w => same_col lx ly lz w
    have ef := fun w => same_col lf1 lf2 lf3 w
    have es := fun w => same_col ls1 ls2 ls3 w
    have o1 := leq_true ofa la
    have o2 := leq_true ofc lc
    clear lr lg lb lx ly lz lk lf1 lf2 lf3 ls1 ls2 ls3 ofa ofc la lc
    have hbw := hb
    obtain ⟨hc, hf⟩ := bcell hb; have HL := keepL (by (repeat (first | (with_reducible assumption) | (with_reducible apply AllLt.alloc) | (with_reducible apply AllLt.setCell) | (with_reducible apply AllLt.drew) | (with_reducible exact AllLt.nil _)))) hb; have hq := HL; simp only [AllLt, and_true, World.size_alloc, World.size_setCell, World.size_drew] at hq; have hbs := hb.size; try simp only [World.size_alloc, World.size_setCell, World.size_drew] at hbs
    go_upto_region 6 with (go_at_call 18; (with_reducible refine (A.fab.call _).mono ?_); rintro e w2 ⟨rfl, hb2⟩; have hb := hb2; obtain ⟨hc, hf⟩ := bcell hb; have HL := keepL (by (repeat (first | (with_reducible assumption) | (with_reducible apply AllLt.alloc) | (with_reducible apply AllLt.setCell) | (with_reducible apply AllLt.drew) | (with_reducible exact AllLt.nil _)))) hb; have hq := HL; simp only [AllLt, and_true, World.size_alloc, World.size_setCell, World.size_drew] at hq; have hbs := hb.size; try simp only [World.size_alloc, World.size_setCell, World.size_drew] at hbs)
    have HA : Blk (w2.alloc (.cells #[.float .f32 f1, .float .f32 f2, .float .f32 f3] 26)) w1.heap.size #[.float .f32 r, .float .f32 g, .float .f32 b] 26 := by (repeat (first | (with_reducible exact Blk.newAt (by simp; done)) | (with_reducible refine Blk.below ?_ (by assumption)) | (with_reducible refine Blk.alloc ?_) | (with_reducible refine Blk.drew ?_) | (with_reducible refine Blk.other ?_ (by dsimp only; omega))))
    have HC : Blk (w2.alloc (.cells #[.float .f32 f1, .float .f32 f2, .float .f32 f3] 26)) (w1.heap.size + 1) #[.float .f32 x, .float .f32 y, .float .f32 z] 26 := by (repeat (first | (with_reducible exact Blk.newAt (by simp; done)) | (with_reducible refine Blk.below ?_ (by assumption)) | (with_reducible refine Blk.alloc ?_) | (with_reducible refine Blk.drew ?_) | (with_reducible refine Blk.other ?_ (by dsimp only; omega))))
    have HW : Blk (w2.alloc (.cells #[.float .f32 f1, .float .f32 f2, .float .f32 f3] 26)) (w1.heap.size + 2) #[.float .f32 1065353216, .float .f32 1065353216, .float .f32 1065353216] 26 := by (repeat (first | (with_reducible exact Blk.newAt (by simp; done)) | (with_reducible refine Blk.below ?_ (by assumption)) | (with_reducible refine Blk.alloc ?_) | (with_reducible refine Blk.drew ?_) | (with_reducible refine Blk.other ?_ (by dsimp only; omega))))
    have HF : Blk (w2.alloc (.cells #[.float .f32 f1, .float .f32 f2, .float .f32 f3] 26)) w2.heap.size #[.float .f32 f1, .float .f32 f2, .float .f32 f3] 26 := Blk.new _ _ _
    have hbel : Below w.heap.size w (w2.alloc (.cells #[.float .f32 f1, .float .f32 f2, .float .f32 f3] 26)) := by (repeat' (first | (with_reducible exact Below.refl _ _) | (with_reducible assumption) | (with_reducible refine Below.alloc ?_ ?_ _) | (with_reducible refine Below.drew ?_) | (with_reducible refine Below.setCell ?_ ?_ _) | (with_reducible refine Below.trans ?_ (Below.mono (by assumption) ?_)) | (with_reducible exact Nat.le_refl _) | omega | (simp only [World.size_alloc, World.size_setCell, World.size_drew]; omega) | (simp; omega) | (simp; done)))
    have hs1 := HW.lt
    have hs2 := HF.lt
    have a0 := Blk.cellAt (i := 0) HA rfl
    have a1 := Blk.cellAt (i := 1) HA rfl
    have a2 := Blk.cellAt (i := 2) HA rfl
    have c0 := Blk.cellAt (i := 0) HC rfl
    have c1 := Blk.cellAt (i := 1) HC rfl
    have c2 := Blk.cellAt (i := 2) HC rfl
    have v0 := Blk.cellAt (i := 0) HW rfl
    have v1 := Blk.cellAt (i := 1) HW rfl
    have v2 := Blk.cellAt (i := 2) HW rfl
    have u0 := Blk.cellAt (i := 0) HF rfl
    have u1 := Blk.cellAt (i := 1) HF rfl
    have u2 := Blk.cellAt (i := 2) HF rfl
    simp only [List.getElem_toArray, List.getElem_cons_zero, List.getElem_cons_succ] at a0 a1 a2 c0 c1 c2 v0 v1 v2 u0 u1 u2
    have hn : w.heap.size ≤ w1.heap.size := hbw.size
    clear HA HC HW HF hb2 hbw
    clear hb hc hf HL hq hbs
    clear hb hc hf HL hq hbs
    generalize w2.alloc (.cells #[.float .f32 f1, .float .f32 f2, .float .f32 f3] 26) = W at hbel hs1 hs2 a0 a1 a2 c0 c1 c2 v0 v1 v2 u0 u1 u2 ⊢
    generalize w2.heap.size = q1 at hs2 u0 u1 u2 ⊢
    generalize w1.heap.size = n1 at hn hs1 a0 a1 a2 c0 c1 c2 v0 v1 v2 ⊢
    have e12 : n1 + 1 + 1 = n1 + 2 := rfl
    rw [e12]
    go_cut [39] (fun s wx => s = .bool false ∧ Below w.heap.size w wx ∧ n1 + 2 < wx.heap.size ∧ q1 < wx.heap.size ∧ wx.cell? ⟨n1, 0, Option.none⟩ = some (.float .f32 (r)) ∧ wx.cell? ⟨n1, 1, Option.none⟩ = some (.float .f32 (g)) ∧ wx.cell? ⟨n1, 2, Option.none⟩ = some (.float .f32 (b)) ∧ wx.cell? ⟨n1 + 1, 0, Option.none⟩ = some (.float .f32 (x)) ∧ wx.cell? ⟨n1 + 1, 1, Option.none⟩ = some (.float .f32 (y)) ∧ wx.cell? ⟨n1 + 1, 2, Option.none⟩ = some (.float .f32 (z)) ∧ wx.cell? ⟨n1 + 2, 0, Option.none⟩ = some (.float .f32 (1065353216)) ∧ wx.cell? ⟨n1 + 2, 1, Option.none⟩ = some (.float .f32 (1065353216)) ∧ wx.cell? ⟨n1 + 2, 2, Option.none⟩ = some (.float .f32 (1065353216)) ∧ wx.cell? ⟨q1, 0, Option.none⟩ = some (.float .f32 (f1)) ∧ wx.cell? ⟨q1, 1, Option.none⟩ = some (.float .f32 (f2)) ∧ wx.cell? ⟨q1, 2, Option.none⟩ = some (.float .f32 (f3)))
    case first =>
      go_region_held3 (fun wx => Below w.heap.size w wx ∧ n1 + 2 < wx.heap.size ∧ q1 < wx.heap.size ∧ wx.cell? ⟨n1, 0, Option.none⟩ = some (.float .f32 (r)) ∧ wx.cell? ⟨n1, 1, Option.none⟩ = some (.float .f32 (g)) ∧ wx.cell? ⟨n1, 2, Option.none⟩ = some (.float .f32 (b)) ∧ wx.cell? ⟨n1 + 1, 0, Option.none⟩ = some (.float .f32 (x)) ∧ wx.cell? ⟨n1 + 1, 1, Option.none⟩ = some (.float .f32 (y)) ∧ wx.cell? ⟨n1 + 1, 2, Option.none⟩ = some (.float .f32 (z)) ∧ wx.cell? ⟨n1 + 2, 0, Option.none⟩ = some (.float .f32 (1065353216)) ∧ wx.cell? ⟨n1 + 2, 1, Option.none⟩ = some (.float .f32 (1065353216)) ∧ wx.cell? ⟨n1 + 2, 2, Option.none⟩ = some (.float .f32 (1065353216)) ∧ wx.cell? ⟨q1, 0, Option.none⟩ = some (.float .f32 (f1)) ∧ wx.cell? ⟨q1, 1, Option.none⟩ = some (.float .f32 (f2)) ∧ wx.cell? ⟨q1, 2, Option.none⟩ = some (.float .f32 (f3)))
        (((repeat' apply And.intro) <;> first | (with_reducible assumption) | (((repeat (first | (with_reducible assumption) | (with_reducible exact cNewAt (by first | rfl | (simp only [World.size_alloc, World.size_setCell, World.size_drew]; done) | omega) rfl) | (with_reducible exact sNewAt (by first | rfl | (simp only [World.size_alloc, World.size_setCell, World.size_drew]; done) | omega) rfl) | (simp; done) | (with_reducible apply cAlloc) | (with_reducible apply cDrew) | (with_reducible refine cSet (by dsimp only; omega) ?_) | (with_reducible refine cSetOff (by dsimp only; omega) ?_) | (with_reducible apply cSame) | (with_reducible refine cBelow (by assumption) ?_) | (with_reducible apply sAlloc) | (with_reducible apply sDrew) | (with_reducible refine sBelow (by assumption) ?_) | (with_reducible refine sSet (by dsimp only; omega) ?_))); first | done | (simp [*]; done)); done) | (simp only [World.size_alloc, World.size_setCell, World.size_drew]; omega) | omega | (go_keep; done) | ((repeat' (first | (with_reducible exact Below.refl _ _) | (with_reducible assumption) | (with_reducible refine Below.alloc ?_ ?_ _) | (with_reducible refine Below.drew ?_) | (with_reducible refine Below.setCell ?_ ?_ _) | (with_reducible refine Below.trans ?_ (Below.mono (by assumption) ?_)) | (with_reducible exact Nat.le_refl _) | omega | (simp only [World.size_alloc, World.size_setCell, World.size_drew]; omega) | (simp; omega) | (simp; done))); done)))
        (first | (go_at_call 19; (first | (with_reducible refine (A.m0.call _).mono ?_) | (with_reducible refine (A.m1'.call _).mono ?_) | (with_reducible refine (A.mkk.call _).mono ?_)); rintro e w3 ⟨rfl, hb⟩; obtain ⟨hc, hf⟩ := bcell hb; have HL := keepL (by (repeat (first | (with_reducible assumption) | (with_reducible apply AllLt.alloc) | (with_reducible apply AllLt.setCell) | (with_reducible apply AllLt.drew) | (with_reducible exact AllLt.nil _)))) hb; have hq := HL; simp only [AllLt, and_true, World.size_alloc, World.size_setCell, World.size_drew] at hq; have hbs := hb.size; try simp only [World.size_alloc, World.size_setCell, World.size_drew] at hbs) | (go_at_call 20; (first | (with_reducible refine (A.im.call _).mono ?_)); rintro e w3 ⟨rfl, hb⟩; obtain ⟨hc, hf⟩ := bcell hb; have HL := keepL (by (repeat (first | (with_reducible assumption) | (with_reducible apply AllLt.alloc) | (with_reducible apply AllLt.setCell) | (with_reducible apply AllLt.drew) | (with_reducible exact AllLt.nil _)))) hb; have hq := HL; simp only [AllLt, and_true, World.size_alloc, World.size_setCell, World.size_drew] at hq; have hbs := hb.size; try simp only [World.size_alloc, World.size_setCell, World.size_drew] at hbs))
      all_goals (go_wp2_with fail; go_meet; refine ⟨rfl, ?_⟩; ((repeat' apply And.intro) <;> first | (with_reducible assumption) | (((repeat (first | (with_reducible assumption) | (with_reducible exact cNewAt (by first | rfl | (simp only [World.size_alloc, World.size_setCell, World.size_drew]; done) | omega) rfl) | (with_reducible exact sNewAt (by first | rfl | (simp only [World.size_alloc, World.size_setCell, World.size_drew]; done) | omega) rfl) | (simp; done) | (with_reducible apply cAlloc) | (with_reducible apply cDrew) | (with_reducible refine cSet (by dsimp only; omega) ?_) | (with_reducible refine cSetOff (by dsimp only; omega) ?_) | (with_reducible apply cSame) | (with_reducible refine cBelow (by assumption) ?_) | (with_reducible apply sAlloc) | (with_reducible apply sDrew) | (with_reducible refine sBelow (by assumption) ?_) | (with_reducible refine sSet (by dsimp only; omega) ?_))); first | done | (simp [*]; done)); done) | (simp only [World.size_alloc, World.size_setCell, World.size_drew]; omega) | omega | (go_keep; done) | ((repeat' (first | (with_reducible exact Below.refl _ _) | (with_reducible assumption) | (with_reducible refine Below.alloc ?_ ?_ _) | (with_reducible refine Below.drew ?_) | (with_reducible refine Below.setCell ?_ ?_ _) | (with_reducible refine Below.trans ?_ (Below.mono (by assumption) ?_)) | (with_reducible exact Nat.le_refl _) | omega | (simp only [World.size_alloc, World.size_setCell, World.size_drew]; omega) | (simp; omega) | (simp; done))); done)))
    case rest =>
      obtain ⟨rfl, hbel, hs1, hs2, a0, a1, a2, c0, c1, c2, v0, v1, v2, u0, u1, u2⟩ := hcut
      go_upto_region 8 with fail
      go_cut [60] (fun s wx => s = .bool false ∧ Below w.heap.size w wx ∧ n1 + 2 < wx.heap.size ∧ q1 < wx.heap.size ∧ wx.cell? ⟨n1, 0, Option.none⟩ = some (.float .f32 (r)) ∧ wx.cell? ⟨n1, 1, Option.none⟩ = some (.float .f32 (g)) ∧ wx.cell? ⟨n1, 2, Option.none⟩ = some (.float .f32 (b)) ∧ wx.cell? ⟨n1 + 1, 0, Option.none⟩ = some (.float .f32 (x)) ∧ wx.cell? ⟨n1 + 1, 1, Option.none⟩ = some (.float .f32 (y)) ∧ wx.cell? ⟨n1 + 1, 2, Option.none⟩ = some (.float .f32 (z)) ∧ wx.cell? ⟨n1 + 2, 0, Option.none⟩ = some (.float .f32 (1065353216)) ∧ wx.cell? ⟨n1 + 2, 1, Option.none⟩ = some (.float .f32 (1065353216)) ∧ wx.cell? ⟨n1 + 2, 2, Option.none⟩ = some (.float .f32 (1065353216)) ∧ wx.cell? ⟨q1, 0, Option.none⟩ = some (.float .f32 (f1)) ∧ wx.cell? ⟨q1, 1, Option.none⟩ = some (.float .f32 (f2)) ∧ wx.cell? ⟨q1, 2, Option.none⟩ = some (.float .f32 (f3)))
      case first =>
        go_region_held3 (fun wx => Below w.heap.size w wx ∧ n1 + 2 < wx.heap.size ∧ q1 < wx.heap.size ∧ wx.cell? ⟨n1, 0, Option.none⟩ = some (.float .f32 (r)) ∧ wx.cell? ⟨n1, 1, Option.none⟩ = some (.float .f32 (g)) ∧ wx.cell? ⟨n1, 2, Option.none⟩ = some (.float .f32 (b)) ∧ wx.cell? ⟨n1 + 1, 0, Option.none⟩ = some (.float .f32 (x)) ∧ wx.cell? ⟨n1 + 1, 1, Option.none⟩ = some (.float .f32 (y)) ∧ wx.cell? ⟨n1 + 1, 2, Option.none⟩ = some (.float .f32 (z)) ∧ wx.cell? ⟨n1 + 2, 0, Option.none⟩ = some (.float .f32 (1065353216)) ∧ wx.cell? ⟨n1 + 2, 1, Option.none⟩ = some (.float .f32 (1065353216)) ∧ wx.cell? ⟨n1 + 2, 2, Option.none⟩ = some (.float .f32 (1065353216)) ∧ wx.cell? ⟨q1, 0, Option.none⟩ = some (.float .f32 (f1)) ∧ wx.cell? ⟨q1, 1, Option.none⟩ = some (.float .f32 (f2)) ∧ wx.cell? ⟨q1, 2, Option.none⟩ = some (.float .f32 (f3)))
          (((repeat' apply And.intro) <;> first | (with_reducible assumption) | (((repeat (first | (with_reducible assumption) | (with_reducible exact cNewAt (by first | rfl | (simp only [World.size_alloc, World.size_setCell, World.size_drew]; done) | omega) rfl) | (with_reducible exact sNewAt (by first | rfl | (simp only [World.size_alloc, World.size_setCell, World.size_drew]; done) | omega) rfl) | (simp; done) | (with_reducible apply cAlloc) | (with_reducible apply cDrew) | (with_reducible refine cSet (by dsimp only; omega) ?_) | (with_reducible refine cSetOff (by dsimp only; omega) ?_) | (with_reducible apply cSame) | (with_reducible refine cBelow (by assumption) ?_) | (with_reducible apply sAlloc) | (with_reducible apply sDrew) | (with_reducible refine sBelow (by assumption) ?_) | (with_reducible refine sSet (by dsimp only; omega) ?_))); first | done | (simp [*]; done)); done) | (simp only [World.size_alloc, World.size_setCell, World.size_drew]; omega) | omega | (go_keep; done) | ((repeat' (first | (with_reducible exact Below.refl _ _) | (with_reducible assumption) | (with_reducible refine Below.alloc ?_ ?_ _) | (with_reducible refine Below.drew ?_) | (with_reducible refine Below.setCell ?_ ?_ _) | (with_reducible refine Below.trans ?_ (Below.mono (by assumption) ?_)) | (with_reducible exact Nat.le_refl _) | omega | (simp only [World.size_alloc, World.size_setCell, World.size_drew]; omega) | (simp; omega) | (simp; done))); done)))
          (first | (go_at_call 18; (first | (with_reducible refine (A.fba.call _).mono ?_) | (with_reducible refine (A.faw.call _).mono ?_)); rintro e w3 ⟨rfl, hb⟩; obtain ⟨hc, hf⟩ := bcell hb; have HL := keepL (by (repeat (first | (with_reducible assumption) | (with_reducible apply AllLt.alloc) | (with_reducible apply AllLt.setCell) | (with_reducible apply AllLt.drew) | (with_reducible exact AllLt.nil _)))) hb; have hq := HL; simp only [AllLt, and_true, World.size_alloc, World.size_setCell, World.size_drew] at hq; have hbs := hb.size; try simp only [World.size_alloc, World.size_setCell, World.size_drew] at hbs) | (go_at_call 21; (first | (with_reducible refine (A.sab.call _).mono ?_) | (with_reducible refine (A.sba.call _).mono ?_)); rintro e w3 ⟨rfl, hb⟩; obtain ⟨hc, hf⟩ := bcell hb; have HL := keepL (by (repeat (first | (with_reducible assumption) | (with_reducible apply AllLt.alloc) | (with_reducible apply AllLt.setCell) | (with_reducible apply AllLt.drew) | (with_reducible exact AllLt.nil _)))) hb; have hq := HL; simp only [AllLt, and_true, World.size_alloc, World.size_setCell, World.size_drew] at hq; have hbs := hb.size; try simp only [World.size_alloc, World.size_setCell, World.size_drew] at hbs))
        all_goals (go_wp2_with fail; go_meet; refine ⟨rfl, ?_⟩; ((repeat' apply And.intro) <;> first | (with_reducible assumption) | (((repeat (first | (with_reducible assumption) | (with_reducible exact cNewAt (by first | rfl | (simp only [World.size_alloc, World.size_setCell, World.size_drew]; done) | omega) rfl) | (with_reducible exact sNewAt (by first | rfl | (simp only [World.size_alloc, World.size_setCell, World.size_drew]; done) | omega) rfl) | (simp; done) | (with_reducible apply cAlloc) | (with_reducible apply cDrew) | (with_reducible refine cSet (by dsimp only; omega) ?_) | (with_reducible refine cSetOff (by dsimp only; omega) ?_) | (with_reducible apply cSame) | (with_reducible refine cBelow (by assumption) ?_) | (with_reducible apply sAlloc) | (with_reducible apply sDrew) | (with_reducible refine sBelow (by assumption) ?_) | (with_reducible refine sSet (by dsimp only; omega) ?_))); first | done | (simp [*]; done)); done) | (simp only [World.size_alloc, World.size_setCell, World.size_drew]; omega) | omega | (go_keep; done) | ((repeat' (first | (with_reducible exact Below.refl _ _) | (with_reducible assumption) | (with_reducible refine Below.alloc ?_ ?_ _) | (with_reducible refine Below.drew ?_) | (with_reducible refine Below.setCell ?_ ?_ _) | (with_reducible refine Below.trans ?_ (Below.mono (by assumption) ?_)) | (with_reducible exact Nat.le_refl _) | omega | (simp only [World.size_alloc, World.size_setCell, World.size_drew]; omega) | (simp; omega) | (simp; done))); done)))
      case rest =>
        obtain ⟨rfl, hbel, hs1, hs2, a0, a1, a2, c0, c1, c2, v0, v1, v2, u0, u1, u2⟩ := hcut
        go_upto_region 10 with fail
        go_cut [2] (fun s wx => s = .bool true ∧ Below w.heap.size w wx)
        case first =>
          go_region_held3 (fun wx => Below w.heap.size w wx ∧ n1 + 2 < wx.heap.size ∧ q1 < wx.heap.size ∧ wx.cell? ⟨n1, 0, Option.none⟩ = some (.float .f32 (r)) ∧ wx.cell? ⟨n1, 1, Option.none⟩ = some (.float .f32 (g)) ∧ wx.cell? ⟨n1, 2, Option.none⟩ = some (.float .f32 (b)) ∧ wx.cell? ⟨n1 + 1, 0, Option.none⟩ = some (.float .f32 (x)) ∧ wx.cell? ⟨n1 + 1, 1, Option.none⟩ = some (.float .f32 (y)) ∧ wx.cell? ⟨n1 + 1, 2, Option.none⟩ = some (.float .f32 (z)) ∧ wx.cell? ⟨n1 + 2, 0, Option.none⟩ = some (.float .f32 (1065353216)) ∧ wx.cell? ⟨n1 + 2, 1, Option.none⟩ = some (.float .f32 (1065353216)) ∧ wx.cell? ⟨n1 + 2, 2, Option.none⟩ = some (.float .f32 (1065353216)) ∧ wx.cell? ⟨q1, 0, Option.none⟩ = some (.float .f32 (f1)) ∧ wx.cell? ⟨q1, 1, Option.none⟩ = some (.float .f32 (f2)) ∧ wx.cell? ⟨q1, 2, Option.none⟩ = some (.float .f32 (f3)))
            (((repeat' apply And.intro) <;> first | (with_reducible assumption) | (((repeat (first | (with_reducible assumption) | (with_reducible exact cNewAt (by first | rfl | (simp only [World.size_alloc, World.size_setCell, World.size_drew]; done) | omega) rfl) | (with_reducible exact sNewAt (by first | rfl | (simp only [World.size_alloc, World.size_setCell, World.size_drew]; done) | omega) rfl) | (simp; done) | (with_reducible apply cAlloc) | (with_reducible apply cDrew) | (with_reducible refine cSet (by dsimp only; omega) ?_) | (with_reducible refine cSetOff (by dsimp only; omega) ?_) | (with_reducible apply cSame) | (with_reducible refine cBelow (by assumption) ?_) | (with_reducible apply sAlloc) | (with_reducible apply sDrew) | (with_reducible refine sBelow (by assumption) ?_) | (with_reducible refine sSet (by dsimp only; omega) ?_))); first | done | (simp [*]; done)); done) | (simp only [World.size_alloc, World.size_setCell, World.size_drew]; omega) | omega | (go_keep; done) | ((repeat' (first | (with_reducible exact Below.refl _ _) | (with_reducible assumption) | (with_reducible refine Below.alloc ?_ ?_ _) | (with_reducible refine Below.drew ?_) | (with_reducible refine Below.setCell ?_ ?_ _) | (with_reducible refine Below.trans ?_ (Below.mono (by assumption) ?_)) | (with_reducible exact Nat.le_refl _) | omega | (simp only [World.size_alloc, World.size_setCell, World.size_drew]; omega) | (simp; omega) | (simp; done))); done)))
            (first | (go_at_call 22; (first | (with_reducible refine (A.bf.call _).mono ?_) | (with_reducible refine (A.ba.call _).mono ?_) | (with_reducible refine (A.bc.call _).mono ?_)); rintro e w3 ⟨rfl, hb⟩; obtain ⟨hc, hf⟩ := bcell hb; have HL := keepL (by (repeat (first | (with_reducible assumption) | (with_reducible apply AllLt.alloc) | (with_reducible apply AllLt.setCell) | (with_reducible apply AllLt.drew) | (with_reducible exact AllLt.nil _)))) hb; have hq := HL; simp only [AllLt, and_true, World.size_alloc, World.size_setCell, World.size_drew] at hq; have hbs := hb.size; try simp only [World.size_alloc, World.size_setCell, World.size_drew] at hbs) | (go_at_call 20; (first | (with_reducible refine (A.if'.call _).mono ?_) | (with_reducible refine (A.is'.call _).mono ?_)); rintro e w3 ⟨rfl, hb⟩; obtain ⟨hc, hf⟩ := bcell hb; have HL := keepL (by (repeat (first | (with_reducible assumption) | (with_reducible apply AllLt.alloc) | (with_reducible apply AllLt.setCell) | (with_reducible apply AllLt.drew) | (with_reducible exact AllLt.nil _)))) hb; have hq := HL; simp only [AllLt, and_true, World.size_alloc, World.size_setCell, World.size_drew] at hq; have hbs := hb.size; try simp only [World.size_alloc, World.size_setCell, World.size_drew] at hbs) | (go_at_call 21; (first | (with_reducible refine (A.sab.call _).mono ?_)); rintro e w3 ⟨rfl, hb⟩; obtain ⟨hc, hf⟩ := bcell hb; have HL := keepL (by (repeat (first | (with_reducible assumption) | (with_reducible apply AllLt.alloc) | (with_reducible apply AllLt.setCell) | (with_reducible apply AllLt.drew) | (with_reducible exact AllLt.nil _)))) hb; have hq := HL; simp only [AllLt, and_true, World.size_alloc, World.size_setCell, World.size_drew] at hq; have hbs := hb.size; try simp only [World.size_alloc, World.size_setCell, World.size_drew] at hbs))
          all_goals (go_wp2_with fail; go_meet; refine ⟨rfl, ?_⟩; ((repeat' apply And.intro) <;> first | (with_reducible assumption) | (((repeat (first | (with_reducible assumption) | (with_reducible exact cNewAt (by first | rfl | (simp only [World.size_alloc, World.size_setCell, World.size_drew]; done) | omega) rfl) | (with_reducible exact sNewAt (by first | rfl | (simp only [World.size_alloc, World.size_setCell, World.size_drew]; done) | omega) rfl) | (simp; done) | (with_reducible apply cAlloc) | (with_reducible apply cDrew) | (with_reducible refine cSet (by dsimp only; omega) ?_) | (with_reducible refine cSetOff (by dsimp only; omega) ?_) | (with_reducible apply cSame) | (with_reducible refine cBelow (by assumption) ?_) | (with_reducible apply sAlloc) | (with_reducible apply sDrew) | (with_reducible refine sBelow (by assumption) ?_) | (with_reducible refine sSet (by dsimp only; omega) ?_))); first | done | (simp [*]; done)); done) | (simp only [World.size_alloc, World.size_setCell, World.size_drew]; omega) | omega | (go_keep; done) | ((repeat' (first | (with_reducible exact Below.refl _ _) | (with_reducible assumption) | (with_reducible refine Below.alloc ?_ ?_ _) | (with_reducible refine Below.drew ?_) | (with_reducible refine Below.setCell ?_ ?_ _) | (with_reducible refine Below.trans ?_ (Below.mono (by assumption) ?_)) | (with_reducible exact Nat.le_refl _) | omega | (simp only [World.size_alloc, World.size_setCell, World.size_drew]; omega) | (simp; omega) | (simp; done))); done)))
        case rest =>
          obtain ⟨rfl, hbel⟩ := hcut
          go_wp2
          all_goals (go_returns; exact ⟨rfl, by (repeat' (first | (with_reducible exact Below.refl _ _) | (with_reducible assumption) | (with_reducible refine Below.alloc ?_ ?_ _) | (with_reducible refine Below.drew ?_) | (with_reducible refine Below.setCell ?_ ?_ _) | (with_reducible refine Below.trans ?_ (Below.mono (by assumption) ?_)) | (with_reducible exact Nat.le_refl _) | omega | (simp only [World.size_alloc, World.size_setCell, World.size_drew]; omega) | (simp; omega) | (simp; done)))⟩)
  · go_enter Try.func3, Try.ntmps3
    go_wp2_with fail
    refine (big_yes _ _ _ _ hl).mono ?_
    rintro e w0 ⟨rfl, rfl⟩
    go_wp2
    all_goals (go_returns; exact ⟨rfl, by (repeat' (first | (with_reducible exact Below.refl _ _) | (with_reducible assumption) | (with_reducible refine Below.alloc ?_ ?_ _) | (with_reducible refine Below.drew ?_) | (with_reducible refine Below.setCell ?_ ?_ _) | (with_reducible refine Below.trans ?_ (Below.mono (by assumption) ?_)) | (with_reducible exact Nat.le_refl _) | omega | (simp only [World.size_alloc, World.size_setCell, World.size_drew]; omega) | (simp; omega) | (simp; done)))⟩)
end Go.Proofs.Ytljilmekmfnkbaa.wFnMixed
