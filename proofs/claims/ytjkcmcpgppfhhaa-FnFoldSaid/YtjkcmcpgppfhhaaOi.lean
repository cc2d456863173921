/-
  Images of a point as pairs of whole numbers: as many images as a point has, times as many symmetries as keep it, are all symmetries.
-/
import Derived.Test.YtjkcmcpgppfhhaaOh
namespace Go.Proofs.Ytjkcmcpgppfhhaa
open Go.ChangeShapes Go.WideShapes Go.ChangeAt Go.RowKit Go.Joins
set_option linter.unusedSimpArgs false
set_option linter.unusedVariables false
set_option maxRecDepth 100000
attribute [local go_sem] store_f
open Ieee Go.Lib

/-- The image of a pair of numbers. -/
def actI (s : Int × Bool) (z : Int × Int) : Int × Int :=
  match s.1.toNat, s.2 with
  | 0, false => (z.1, z.2)
  | 0, true => (z.1, -z.2)
  | 1, false => (-z.2, z.1)
  | 1, true => (z.2, z.1)
  | 2, false => (-z.1, -z.2)
  | 2, true => (-z.1, z.2)
  | _, false => (z.2, -z.1)
  | _, true => (-z.2, -z.1)

theorem val_ng {x : Nat} (h : Fin32 x) : valOf F32 (ngB x) = -valOf F32 x := by
  have hr := fin_rung h
  unfold ngB
  by_cases h0 : rungOf F32 x = 0
  · rw [if_pos h0, val_zero, val_eq_zero.2 h0]; rfl
  · rw [if_neg h0]
    unfold valOf
    rw [rungOf_word F32 _ (by rw [F32_sw]; omega), negOf_word F32 _ (by rw [F32_sw]; omega)]
    cases negOf F32 x <;> simp

def vP (p : PtW) : Int × Int := (vX p, vY p)
theorem vP_inj {p q : PtW} (h : vP p = vP q) : p = q := ptW_inj (Prod.mk.inj h).1 (Prod.mk.inj h).2
theorem vP_act (s : Int × Bool) (p : PtW) : vP (actP s p) = actI s (vP p) := by
  have nx := val_ng p.2.1.cl.fin
  have ny := val_ng p.2.2.cl.fin
  obtain ⟨t, f⟩ := s
  unfold vP vX vY actP actI
  dsimp only
  generalize t.toNat = n
  rcases n with _ | _ | _ | n <;> cases f <;> simp [actV, nx, ny]

theorem syms0 : symsTo 0 8 = [(0, false)] := by decide
theorem syms1 : symsTo 1 8 = [(0, false), (0, true)] := by decide
theorem syms2 : symsTo 2 8 = [(0, false), (2, false), (0, true), (2, true)] := by decide
theorem syms3 : symsTo 3 8 = [(0, false), (1, false), (2, false), (3, false), (0, true), (1, true), (2, true), (3, true)] := by decide

/-- The images as numbers. -/
def imgsI (l : List (Int × Bool)) (z : Int × Int) : List (Int × Int) := l.map fun s => actI s z
def keepI (l : List (Int × Bool)) (z : Int × Int) : List (Int × Bool) := l.filter fun s => decide (actI s z = z)

theorem cnt_of {kind X Y : Int} {m L : List (Int × Int)} {a b : Nat} (hn : m.Nodup) (hm : ∀ q, q ∈ m ↔ q ∈ imgsI (symsTo kind 8) (X, Y)) (hL : L.Nodup) (hi : ∀ q, q ∈ imgsI (symsTo kind 8) (X, Y) ↔ q ∈ L) (ha : L.length = a) (hb : (keepI (symsTo kind 8) (X, Y)).length = b) (hc : a * b = (symsTo kind 8).length) :
    m.length * (keepI (symsTo kind 8) (X, Y)).length = (symsTo kind 8).length := by
  rw [nodup_len_eq hn hL (fun q => (hm q).trans (hi q)), ha, hb, hc]

theorem cnt_I (kind X Y : Int) (h0 : 0 ≤ kind) (h3 : kind ≤ 3) {m : List (Int × Int)} (hn : m.Nodup) (hm : ∀ q, q ∈ m ↔ q ∈ imgsI (symsTo kind 8) (X, Y)) :
    m.length * (keepI (symsTo kind 8) (X, Y)).length = (symsTo kind 8).length := by
  rcases (by omega : kind = 0 ∨ kind = 1 ∨ kind = 2 ∨ kind = 3) with rfl | rfl | rfl | rfl
  · refine cnt_of (L := [(X, Y)]) hn hm (by simp) (fun q => ?_) rfl (b := 1) ?_ (by rw [syms0]; rfl)
    · rw [syms0]; simp [imgsI, actI]
    · rw [syms0]; simp [keepI, actI]
  · by_cases hY : Y = 0
    · subst hY
      refine cnt_of (L := [(X, 0)]) hn hm (by simp) (fun q => ?_) rfl (b := 2) ?_ (by rw [syms1]; rfl)
      · rw [syms1]; simp [imgsI, actI]
      · rw [syms1]; simp [keepI, actI]
    · have e1 : (-Y = Y) = False := by simp; omega
      have e2 : (Y = -Y) = False := by simp; omega
      refine cnt_of (L := [(X, Y), (X, -Y)]) hn hm (by simp [e2]) (fun q => ?_) rfl (b := 1) ?_ (by rw [syms1]; rfl)
      · rw [syms1]; simp [imgsI, actI]
      · rw [syms1]; simp [keepI, actI, e1]
  · by_cases hY : Y = 0 <;> by_cases hX : X = 0
    · subst hY hX
      refine cnt_of (L := [(0, 0)]) hn hm (by simp) (fun q => ?_) rfl (b := 4) ?_ (by rw [syms2]; rfl)
      · rw [syms2]; simp [imgsI, actI]
      · rw [syms2]; simp [keepI, actI]
    · subst hY
      have e1 : (-X = X) = False := by simp; omega
      have e2 : (X = -X) = False := by simp; omega
      refine cnt_of (L := [(X, 0), (-X, 0)]) hn hm (by simp [e2]) (fun q => ?_) rfl (b := 2) ?_ (by rw [syms2]; rfl)
      · rw [syms2]; obtain ⟨a, b⟩ := q; simp [imgsI, actI]; omega
      · rw [syms2]; simp [keepI, actI, e1]
    · subst hX
      have e1 : (-Y = Y) = False := by simp; omega
      have e2 : (Y = -Y) = False := by simp; omega
      refine cnt_of (L := [(0, Y), (0, -Y)]) hn hm (by simp [e2]) (fun q => ?_) rfl (b := 2) ?_ (by rw [syms2]; rfl)
      · rw [syms2]; obtain ⟨a, b⟩ := q; simp [imgsI, actI]; omega
      · rw [syms2]; simp [keepI, actI, e1]
    · have e1 : (-Y = Y) = False := by simp; omega
      have e2 : (Y = -Y) = False := by simp; omega
      have e3 : (-X = X) = False := by simp; omega
      have e4 : (X = -X) = False := by simp; omega
      refine cnt_of (L := [(X, Y), (-X, -Y), (X, -Y), (-X, Y)]) hn hm (by simp [e1, e2, e3, e4]) (fun q => ?_) rfl (b := 1) ?_ (by rw [syms2]; rfl)
      · rw [syms2]; simp [imgsI, actI]
      · rw [syms2]; simp [keepI, actI, e1, e3]
  · by_cases hY : Y = 0 <;> by_cases hX : X = 0
    · subst hY hX
      refine cnt_of (L := [(0, 0)]) hn hm (by simp) (fun q => ?_) rfl (b := 8) ?_ (by rw [syms3]; rfl)
      · rw [syms3]; simp [imgsI, actI]
      · rw [syms3]; simp [keepI, actI]
    · subst hY
      have e1 : (-X = X) = False := by simp; omega
      have e2 : (X = -X) = False := by simp; omega
      have e3 : (0 = X) = False := by simp; omega
      have e4 : (X = 0) = False := by simp; omega
      refine cnt_of (L := [(X, 0), (0, X), (-X, 0), (0, -X)]) hn hm (by simp [e2, e3, e4]) (fun q => ?_) rfl (b := 2) ?_ (by rw [syms3]; rfl)
      · rw [syms3]; obtain ⟨a, b⟩ := q; simp [imgsI, actI]; omega
      · rw [syms3]; simp [keepI, actI, e1, e3, e4]
    · subst hX
      have e1 : (-Y = Y) = False := by simp; omega
      have e2 : (Y = -Y) = False := by simp; omega
      have e3 : (0 = Y) = False := by simp; omega
      have e4 : (Y = 0) = False := by simp; omega
      refine cnt_of (L := [(0, Y), (-Y, 0), (0, -Y), (Y, 0)]) hn hm (by simp [e1, e2, e3, e4]) (fun q => ?_) rfl (b := 2) ?_ (by rw [syms3]; rfl)
      · rw [syms3]; obtain ⟨a, b⟩ := q; simp [imgsI, actI]; omega
      · rw [syms3]; simp [keepI, actI, e1, e3, e4]
    · have e1 : (-Y = Y) = False := by simp; omega
      have e2 : (Y = -Y) = False := by simp; omega
      have e3 : (-X = X) = False := by simp; omega
      have e4 : (X = -X) = False := by simp; omega
      by_cases h1 : X = Y
      · subst h1
        refine cnt_of (L := [(X, X), (-X, X), (-X, -X), (X, -X)]) hn hm (by simp [e1, e2]) (fun q => ?_) rfl (b := 2) ?_ (by rw [syms3]; rfl)
        · rw [syms3]; obtain ⟨a, b⟩ := q; simp [imgsI, actI]; omega
        · rw [syms3]; simp [keepI, actI, e1]
      · by_cases h2 : X = -Y
        · subst h2
          refine cnt_of (L := [(-Y, Y), (-Y, -Y), (Y, -Y), (Y, Y)]) hn hm (by simp [e1, e2]) (fun q => ?_) rfl (b := 2) ?_ (by rw [syms3]; rfl)
          · rw [syms3]; obtain ⟨a, b⟩ := q; simp [imgsI, actI]; omega
          · rw [syms3]; simp [keepI, actI, e1, e2]
        · have f1 : (X = Y) = False := by simp; omega
          have f2 : (Y = X) = False := by simp; omega
          have f3 : (X = -Y) = False := by simp; omega
          have f4 : (-Y = X) = False := by simp; omega
          have f5 : (-X = Y) = False := by simp; omega
          have f6 : (Y = -X) = False := by simp; omega
          refine cnt_of (L := [(X, Y), (-Y, X), (-X, -Y), (Y, -X), (X, -Y), (Y, X), (-X, Y), (-Y, -X)]) hn hm (by simp [e1, e2, e3, e4, f1, f2, f3, f4, f5, f6]) (fun q => ?_) rfl (b := 1) ?_ (by rw [syms3]; rfl)
          · rw [syms3]; simp [imgsI, actI]
          · rw [syms3]; simp [keepI, actI, e1, e3, f1, f2, f4, f5]

theorem keep_I (l : List (Int × Bool)) (p : PtW) : keepL' l p = keepI l (vP p) := by
  unfold keepL' keepI
  congr 1
  funext s
  rw [← vP_act]
  by_cases h : actP s p = p
  · rw [h]
    simp
  · have : ¬ vP (actP s p) = vP p := fun e => h (vP_inj e)
    simp [h, this]

theorem map_nodup {α β : Type} {f : α → β} (hf : ∀ a b, f a = f b → a = b) {m : List α} (h : m.Nodup) : (m.map f).Nodup := by
  unfold List.Nodup at *
  rw [List.pairwise_map]
  exact h.imp fun hne e => hne (hf _ _ e)

/-- As many images as a point has, times as many symmetries as keep it, are all symmetries. -/
theorem orbit_count {kind : Int} (h0 : 0 ≤ kind) (h3 : kind ≤ 3) (p : PtW) {m : List PtW} (hn : m.Nodup) (hm : ∀ q, q ∈ m ↔ q ∈ imgs (symsTo kind 8) p) :
    m.length * (keepL' (symsTo kind 8) p).length = (symsTo kind 8).length := by
  have h := cnt_I kind (vX p) (vY p) h0 h3 (m := m.map vP) (map_nodup (fun _ _ => vP_inj) hn) (fun q => by
    rw [List.mem_map]
    unfold imgsI
    rw [List.mem_map]
    constructor
    · rintro ⟨a, ha, rfl⟩
      obtain ⟨s, hs, rfl⟩ := List.mem_map.1 ((hm a).1 ha)
      exact ⟨s, hs, (vP_act s p).symm⟩
    · rintro ⟨s, hs, rfl⟩
      exact ⟨actP s p, (hm _).2 (List.mem_map.2 ⟨s, hs, rfl⟩), vP_act s p⟩)
  rw [List.length_map] at h
  rw [keep_I]
  exact h

theorem keep_pos {kind : Int} (h0 : 0 ≤ kind) (h3 : kind ≤ 3) (p : PtW) : 0 < (keepL' (symsTo kind 8) p).length := by
  have hmem : ((0 : Int), false) ∈ keepL' (symsTo kind 8) p := by
    unfold keepL'
    rw [List.mem_filter]
    refine ⟨?_, ?_⟩
    · rcases (by omega : kind = 0 ∨ kind = 1 ∨ kind = 2 ∨ kind = 3) with rfl | rfl | rfl | rfl <;> decide
    · exact decide_eq_true (Subtype.ext rfl)
  exact List.length_pos_of_mem hmem
end Go.Proofs.Ytjkcmcpgppfhhaa
