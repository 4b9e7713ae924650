/- Plain words: what touches, whichever body is told first. -/
import Derived.Test.YtmfkcdinfahjlaaTouchP
namespace Go.Proofs.Ytmfkcdinfahjlaa.Fx
set_option linter.unusedVariables false

theorem neg_neg' {x : Int} (h : Rg x) : negF (negF x) = x := by rw [negR h, negR (Rg_neg h), Int.neg_neg]
theorem sub_swap {a b : Int} (ha : I64 a) (hb : I64 b) : subF b a = -subF a b := by
  have key : ∀ x y : Int, I64 x → I64 y → subF x y = sat (cl x - cl y) := fun x y hx hy => by
    have := cl_bd hy
    unfold subF addF negF
    have e : cl (-cl y) = -cl y := by unfold L M at this; unfold cl at this ⊢; split <;> split <;> split at this <;> omega
    rw [e]; rfl
  rw [key _ _ hb ha, key _ _ ha hb, ← sat_neg']
  congr 1; omega
theorem len_neg {a b : Int} (ha : Rg a) (hb : Rg b) : lenF (-a) (-b) = lenF a b := by
  unfold lenF
  rw [mul_neg_right (Rg_neg ha) ha, mul_neg_left ha ha, mul_neg_right (Rg_neg hb) hb, mul_neg_left hb hb, Int.neg_neg, Int.neg_neg]
theorem u_neg {a b : Int} (ha : Rg a) (hb : Rg b) : uF (-a) (-b) = (-(uF a b).1, -(uF a b).2) := by
  unfold uF
  rw [len_neg ha hb]
  split
  · rfl
  · simp only []
    rw [div_neg ha, div_neg hb]
theorem rg_u (a b : Int) : Rg (uF a b).1 ∧ Rg (uF a b).2 := by
  unfold uF
  split
  · constructor <;> (unfold Rg; omega)
  · exact ⟨rg_div _ _, rg_div _ _⟩
theorem rg_norm (P : Cs) (n i : Nat) : Rg (normF P n i).1 ∧ Rg (normF P n i).2 := by
  unfold normF
  simp only []
  obtain ⟨h1, h2⟩ := rg_u (subF (P ((i + 1) % n)).1 (P i).1) (subF (P ((i + 1) % n)).2 (P i).2)
  exact ⟨h2, by rw [negR h1]; exact Rg_neg h1⟩
theorem rg_corner {N v u : Int × Int} {r key : Int} (hN : Rg N.1 ∧ Rg N.2) {t : Tch} (h : cornerF N v u r key = some t) : Rg t.nx ∧ Rg t.ny := by
  unfold cornerF at h
  split at h
  · cases h
  · cases h
    unfold oneT
    simp only []
    split
    · exact hN
    · exact rg_u u.1 u.2
theorem rg_mixed {P : Cs} {n : Nat} {c : Int × Int} {r : Int} {t : Tch} (h : mixedF P n c r = some t) : Rg t.nx ∧ Rg t.ny := by
  unfold mixedF mixedI at h
  have hn := rg_norm P n (sideF P n (fun _ => c) 1)
  split at h
  · cases h
  · split at h
    · cases h; exact hn
    · split at h
      · exact rg_corner hn h
      · split at h
        · exact rg_corner hn h
        · cases h; exact hn
/-- u is t, with the normal turned round; the points' keys aside -/
def Turned (t u : Option Tch) : Prop :=
  u.isSome = t.isSome ∧ (u.getD noTch).nx = negF (t.getD noTch).nx ∧ (u.getD noTch).ny = negF (t.getD noTch).ny ∧ (u.getD noTch).pts.length = (t.getD noTch).pts.length ∧
  ∀ (i : Nat) (p : Pnt), (t.getD noTch).pts[i]? = some p → ∃ k, (u.getD noTch).pts[i]? = some ⟨p.x, p.y, p.d, k⟩
theorem neg_zero' : negF 0 = 0 := rfl
theorem turned_none : Turned none none := ⟨rfl, rfl, rfl, rfl, fun i p h => by simp [noTch] at h⟩
/-- a circle and a polygon -/
theorem turned_pc (P : Cs) (n : Nat) (c : Int × Int) (r : Int) :
    (((wantF (.disc c r) (.poly P n)).isSome = (wantF (.poly P n) (.disc c r)).isSome) ∧ ((wantF (.disc c r) (.poly P n)).getD noTch).nx = negF ((wantF (.poly P n) (.disc c r)).getD noTch).nx ∧
      ((wantF (.disc c r) (.poly P n)).getD noTch).ny = negF ((wantF (.poly P n) (.disc c r)).getD noTch).ny ∧ ((wantF (.disc c r) (.poly P n)).getD noTch).pts = ((wantF (.poly P n) (.disc c r)).getD noTch).pts) ∧
    (((wantF (.poly P n) (.disc c r)).isSome = (wantF (.disc c r) (.poly P n)).isSome) ∧ ((wantF (.poly P n) (.disc c r)).getD noTch).nx = negF ((wantF (.disc c r) (.poly P n)).getD noTch).nx ∧
      ((wantF (.poly P n) (.disc c r)).getD noTch).ny = negF ((wantF (.disc c r) (.poly P n)).getD noTch).ny ∧ ((wantF (.poly P n) (.disc c r)).getD noTch).pts = ((wantF (.disc c r) (.poly P n)).getD noTch).pts) := by
  show ((((mixedF P n c r).map negT).isSome = (mixedF P n c r).isSome) ∧ _) ∧ (((mixedF P n c r).isSome = ((mixedF P n c r).map negT).isSome) ∧ _)
  have e1 : wantF (.disc c r) (.poly P n) = (mixedF P n c r).map negT := rfl
  have e2 : wantF (.poly P n) (.disc c r) = mixedF P n c r := rfl
  rw [e1, e2]
  cases h : mixedF P n c r with
  | none => exact ⟨⟨rfl, rfl, rfl, rfl⟩, rfl, rfl, rfl, rfl⟩
  | some t =>
    obtain ⟨h1, h2⟩ := rg_mixed h
    exact ⟨⟨rfl, rfl, rfl, rfl⟩, rfl, (neg_neg' h1).symm, (neg_neg' h2).symm, rfl⟩
/-- two circles -/
theorem turned_cc {a b : Int × Int} {ra rb : Int} (h1 : I64 a.1) (h2 : I64 a.2) (h3 : I64 b.1) (h4 : I64 b.2) : lenV (subV a b) = lenV (subV b a) ∧ addF ra rb = addF rb ra := by
  constructor
  · show lenF (subF a.1 b.1) (subF a.2 b.2) = lenF (subF b.1 a.1) (subF b.2 a.2)
    rw [sub_swap h1 h3, sub_swap h2 h4, len_neg (rg_sub _ _) (rg_sub _ _)]
  · exact addF_comm _ _
theorem turned_some {a b : Int × Int} {ra rb : Int} (h1 : I64 a.1) (h2 : I64 a.2) (h3 : I64 b.1) (h4 : I64 b.2) : (wantF (.disc a ra) (.disc b rb)).isSome = (wantF (.disc b rb) (.disc a ra)).isSome := by
  show (roundsF a ra b rb).isSome = (roundsF b rb a ra).isSome
  obtain ⟨e1, e2⟩ := turned_cc (ra := ra) (rb := rb) h1 h2 h3 h4
  unfold roundsF
  rw [e1, e2]
  split <;> rfl
/-- keys aside -/
theorem clip_key (P : Cs) (n : Nat) (Q : Cs) (m i : Nat) (k1 k2 : Int) : ((clipF P n Q m i k1).isSome = (clipF P n Q m i k2).isSome) ∧ ((clipF P n Q m i k1).getD noTch).nx = ((clipF P n Q m i k2).getD noTch).nx ∧ ((clipF P n Q m i k1).getD noTch).ny = ((clipF P n Q m i k2).getD noTch).ny ∧
    ((clipF P n Q m i k1).getD noTch).pts.length = ((clipF P n Q m i k2).getD noTch).pts.length ∧ ∀ (j : Nat) (p : Pnt), ((clipF P n Q m i k1).getD noTch).pts[j]? = some p → ∃ k, ((clipF P n Q m i k2).getD noTch).pts[j]? = some ⟨p.x, p.y, p.d, k⟩ := by
  have he : ∀ (N v x y : Int × Int) (k1 k2 : Int), (endsF N v x k1 ++ endsF N v y (k1 + 1)).length = (endsF N v x k2 ++ endsF N v y (k2 + 1)).length ∧ ∀ (j : Nat) (p : Pnt), (endsF N v x k1 ++ endsF N v y (k1 + 1))[j]? = some p → ∃ k, (endsF N v x k2 ++ endsF N v y (k2 + 1))[j]? = some ⟨p.x, p.y, p.d, k⟩ := fun N v x y k1 k2 => by
    unfold endsF
    split <;> split
    · refine ⟨rfl, fun j p h => ?_⟩
      rcases j with _ | _ | j
      · simp at h; subst h; exact ⟨_, rfl⟩
      · simp at h; subst h; exact ⟨_, rfl⟩
      · simp at h
    · refine ⟨rfl, fun j p h => ?_⟩
      rcases j with _ | j
      · simp at h; subst h; exact ⟨_, rfl⟩
      · simp at h
    · refine ⟨rfl, fun j p h => ?_⟩
      rcases j with _ | j
      · simp at h; subst h; exact ⟨_, rfl⟩
      · simp at h
    · exact ⟨rfl, fun j p h => by simp at h⟩
  have hp : ∀ (N v x y : Int × Int), ((pointsF N v x y k1).isSome = (pointsF N v x y k2).isSome) ∧ ((pointsF N v x y k1).getD noTch).nx = ((pointsF N v x y k2).getD noTch).nx ∧ ((pointsF N v x y k1).getD noTch).ny = ((pointsF N v x y k2).getD noTch).ny ∧
      ((pointsF N v x y k1).getD noTch).pts.length = ((pointsF N v x y k2).getD noTch).pts.length ∧ ∀ (j : Nat) (p : Pnt), ((pointsF N v x y k1).getD noTch).pts[j]? = some p → ∃ k, ((pointsF N v x y k2).getD noTch).pts[j]? = some ⟨p.x, p.y, p.d, k⟩ := fun N v x y => by
    obtain ⟨h1, h2⟩ := he N v x y k1 k2
    unfold pointsF
    by_cases hz : endsF N v x k1 ++ endsF N v y (k1 + 1) = []
    · have hz2 : endsF N v x k2 ++ endsF N v y (k2 + 1) = [] := by
        rw [hz] at h1
        exact List.length_eq_zero_iff.1 h1.symm
      rw [if_pos hz, if_pos hz2]
      exact ⟨rfl, rfl, rfl, rfl, fun j p h => by simp [noTch] at h⟩
    · have hz2 : ¬ endsF N v x k2 ++ endsF N v y (k2 + 1) = [] := fun e => hz (by
        rw [e] at h1
        exact List.length_eq_zero_iff.1 h1)
      rw [if_neg hz, if_neg hz2]
      exact ⟨rfl, rfl, rfl, h1, h2⟩
  unfold clipF clipV
  split
  · exact ⟨rfl, rfl, rfl, rfl, fun j p h => by simp [noTch] at h⟩
  · split
    · exact ⟨rfl, rfl, rfl, rfl, fun j p h => by simp [noTch] at h⟩
    · exact hp _ _ _ _
theorem rg_clip (P : Cs) (n : Nat) (Q : Cs) (m i : Nat) (key : Int) : Rg ((clipF P n Q m i key).getD noTch).nx ∧ Rg ((clipF P n Q m i key).getD noTch).ny := by
  have z : Rg noTch.nx ∧ Rg noTch.ny := ⟨by unfold noTch Rg; simp only []; omega, by unfold noTch Rg; simp only []; omega⟩
  have hn := rg_norm P n i
  unfold clipF clipV
  split
  · exact z
  · split
    · exact z
    · unfold pointsF
      split
      · exact z
      · exact hn
/-- two polygons -/
theorem turned_pp (P : Cs) (n : Nat) (Q : Cs) (m : Nat) (h0 : ¬ (0 ≤ gapF P n Q m (sideF P n Q m) ∨ 0 ≤ gapF Q m P n (sideF Q m P n))) (hne : gapF P n Q m (sideF P n Q m) ≠ gapF Q m P n (sideF Q m P n)) : Turned (polysF P n Q m) (polysF Q m P n) := by
  have h0' : ¬ (0 ≤ gapF Q m P n (sideF Q m P n) ∨ 0 ≤ gapF P n Q m (sideF P n Q m)) := fun h => h0 h.symm
  have mp : ∀ t : Option Tch, ((t.map negT).isSome = t.isSome) ∧ ((t.map negT).getD noTch).nx = negF (t.getD noTch).nx ∧ ((t.map negT).getD noTch).ny = negF (t.getD noTch).ny ∧ ((t.map negT).getD noTch).pts = (t.getD noTch).pts := fun t => by
    cases t <;> exact ⟨rfl, rfl, rfl, rfl⟩
  unfold polysF
  rw [if_neg h0, if_neg h0']
  by_cases hlt : gapF P n Q m (sideF P n Q m) < gapF Q m P n (sideF Q m P n)
  · rw [if_pos hlt, if_neg (by omega)]
    obtain ⟨k1, k2, k3, k4, k5⟩ := clip_key Q m P n (sideF Q m P n) (64 + 2 * (sideF Q m P n : Int)) (32 + 2 * (sideF Q m P n : Int))
    obtain ⟨m1, m2, m3, m4⟩ := mp (clipF Q m P n (sideF Q m P n) (64 + 2 * (sideF Q m P n : Int)))
    obtain ⟨r1, r2⟩ := rg_clip Q m P n (sideF Q m P n) (32 + 2 * (sideF Q m P n : Int))
    refine ⟨by rw [m1, k1], by rw [m2, k2, neg_neg' r1], by rw [m3, k3, neg_neg' r2], by rw [m4, k4], fun i p hp => ?_⟩
    rw [m4] at hp
    exact k5 i p hp
  · rw [if_neg hlt, if_pos (by omega)]
    obtain ⟨k1, k2, k3, k4, k5⟩ := clip_key P n Q m (sideF P n Q m) (32 + 2 * (sideF P n Q m : Int)) (64 + 2 * (sideF P n Q m : Int))
    obtain ⟨m1, m2, m3, m4⟩ := mp (clipF P n Q m (sideF P n Q m) (64 + 2 * (sideF P n Q m : Int)))
    refine ⟨by rw [m1, k1], by rw [m2, k2], by rw [m3, k3], by rw [m4, k4], fun i p hp => ?_⟩
    rw [m4]
    exact k5 i p hp
theorem polys_far (P : Cs) (n : Nat) (Q : Cs) (m : Nat) (h0 : 0 ≤ gapF P n Q m (sideF P n Q m) ∨ 0 ≤ gapF Q m P n (sideF Q m P n)) : polysF P n Q m = none ∧ polysF Q m P n = none := by
  unfold polysF
  exact ⟨if_pos h0, if_pos h0.symm⟩
end Go.Proofs.Ytmfkcdinfahjlaa.Fx
