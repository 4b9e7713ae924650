/- Plain words: two bodies moved by as much touch as they did, moved. -/
import Derived.Test.YtmfkcdinfahjlaaTuP
import Derived.Test.YtmfkcdinfahjlaaBoxP
namespace Go.Proofs.Ytmfkcdinfahjlaa.Fx
set_option linter.unusedVariables false

/-- a number well within the range -/
def Fa (x : Int) : Prop := -18014398509481984 ≤ x ∧ x ≤ 18014398509481984
theorem Fa.rg {x : Int} (h : Fa x) : Rg x := by unfold Fa at h; unfold Rg; omega
theorem sub_fa {a b : Int} (ha : Fa a) (hb : Fa b) : subF a b = a - b := by unfold Fa at *; exact sub_exact (by unfold Rg; omega) (by unfold Rg; omega) (by unfold Rg; omega)
theorem add_fa {a b : Int} (ha : Fa a) (hb : Fa b) : addF a b = a + b := by unfold Fa at *; rw [addR (by unfold Rg; omega) (by unfold Rg; omega), satR (by unfold Rg; omega)]
/-- a place near -/
def Ne (B : Int) (p : Int × Int) : Prop := (-B ≤ p.1 ∧ p.1 ≤ B) ∧ (-B ≤ p.2 ∧ p.2 ≤ B)
/-- moved -/
def mv (b p : Int × Int) : Int × Int := (p.1 + b.1, p.2 + b.2)
def Bi : Int := 9007199254740992
theorem sub_mv {a b c : Int × Int} (h1 : Ne Bi a) (h2 : Ne Bi b) (h3 : Ne Bi c) : subV (mv c a) (mv c b) = subV a b := by
  unfold Ne Bi at *
  unfold subV mv
  simp only []
  rw [sub_fa (by unfold Fa; omega) (by unfold Fa; omega), sub_fa (by unfold Fa; omega) (by unfold Fa; omega), sub_fa (by unfold Fa; omega) (by unfold Fa; omega), sub_fa (by unfold Fa; omega) (by unfold Fa; omega)]
  congr 1 <;> omega
theorem norm_mv {P P' : Cs} {n : Nat} {c : Int × Int} (hn : 0 < n) (hp : ∀ i, i < n → Ne Bi (P i)) (hc : Ne Bi c) (e : ∀ i, i < n → P' i = mv c (P i)) {i : Nat} (hi : i < n) : normF P' n i = normF P n i := by
  have hj : (i + 1) % n < n := Nat.mod_lt _ hn
  have := sub_mv (hp _ hj) (hp i hi) hc
  rw [← e _ hj, ← e i hi] at this
  unfold subV at this
  have h1 := (Prod.mk.inj this).1
  have h2 := (Prod.mk.inj this).2
  unfold normF
  rw [h1, h2]
theorem gap_mv {P P' Q Q' : Cs} {n m : Nat} {c : Int × Int} (hn : 0 < n) (hm : 0 < m) (hp : ∀ i, i < n → Ne Bi (P i)) (hq : ∀ i, i < m → Ne Bi (Q i)) (hc : Ne Bi c) (e : ∀ i, i < n → P' i = mv c (P i)) (e2 : ∀ i, i < m → Q' i = mv c (Q i)) {i : Nat} (hi : i < n) :
    gapF P' n Q' m i = gapF P n Q m i := by
  unfold gapF
  refine leastF_congr _ fun j hj => ?_
  rw [norm_mv hn hp hc e hi, e2 j (by omega), e i hi, sub_mv (hq j (by omega)) (hp i hi) hc]
theorem side_mv {P P' Q Q' : Cs} {n m : Nat} {c : Int × Int} (hn : 0 < n) (hm : 0 < m) (hp : ∀ i, i < n → Ne Bi (P i)) (hq : ∀ i, i < m → Ne Bi (Q i)) (hc : Ne Bi c) (e : ∀ i, i < n → P' i = mv c (P i)) (e2 : ∀ i, i < m → Q' i = mv c (Q i)) :
    sideF P' n Q' m = sideF P n Q m := by
  unfold sideF
  exact firstF_congr _ fun i hi => gap_mv hn hm hp hq hc e e2 (by omega)
theorem side_lt (P : Cs) (n : Nat) (Q : Cs) (m : Nat) (hn : 0 < n) : sideF P n Q m < n := by
  have := firstF_le (gapF P n Q m) (n - 1)
  unfold sideF; omega
theorem inc_lt (N : Int × Int) (Q : Cs) (m : Nat) (hm : 0 < m) : incF N Q m < m := by
  have := botF_le (fun j => dotV N (normF Q m j)) (m - 1)
  unfold incF; omega

/-- a part, of at most one, of a way -/
theorem part_in {x y : Int} (hx : x < 0) (hy : 0 ≤ y) (rx : Rg x) (ry : Rg y) : 0 ≤ divF x (subF x y) ∧ divF x (subF x y) ≤ 4294967296 := by
  have hd : subF x y ≤ x := by
    unfold subF addF
    rw [clR rx, negR ry, clR (Rg_neg ry)]
    have := sat_le (a := x + -y) (b := x) (by omega)
    rw [satR rx] at this
    exact this
  have rd : Rg (subF x y) := rg_sub _ _
  generalize subF x y = d at *
  have e : divF x d = divF (-x) (-d) := by
    have h1 := div_neg (a := x) (b := -d) rx
    rw [h1]
    unfold divF
    by_cases hz : x = 0
    · omega
    · rw [if_neg hz, if_neg hz, absR_neg rd]
      have g1 : decide (x < 0) = true := decide_eq_true hx
      have g2 : decide (d < 0) = true := decide_eq_true (by omega)
      have g3 : decide (-d < 0) = false := decide_eq_false (by omega)
      rw [g1, g2, g3]
      show signF _ false = -signF _ true
      have := sign_not (if absF d = 0 then 9223372036854775807 else absF x * 4294967296 / absF d) true
      simpa using this
  rw [e]
  have e2 : divF (-d) (-d) = 4294967296 := div_self (Rg_neg rd) (by omega)
  refine ⟨div_nn (Rg_neg rx) (Rg_neg rd) (by omega) (by omega), ?_⟩
  rw [← e2]
  exact div_le (Rg_neg rx) (Rg_neg rd) (Rg_neg rd) (by omega) (by omega)
/-- a part of a way lies on it -/
theorem mul_in {d r : Int} (hd : Rg d) (h0 : 0 ≤ r) (h1 : r ≤ 4294967296) : (0 ≤ d → 0 ≤ mulF d r ∧ mulF d r ≤ d) ∧ (d ≤ 0 → d ≤ mulF d r ∧ mulF d r ≤ 0) := by
  have rr : Rg r := by unfold Rg; omega
  have key : ∀ z : Int, Rg z → 0 ≤ z → 0 ≤ mulF z r ∧ mulF z r ≤ z := fun z hz h => by
    refine ⟨mul_nn hz rr h h0, ?_⟩
    have := mul_le2 hz rr hz (by unfold Rg; omega) h (Int.le_refl _) h0 h1
    rwa [mul_one hz] at this
  refine ⟨key d hd, fun h => ?_⟩
  have := key (-d) (Rg_neg hd) (by omega)
  rw [mul_neg_left hd rr] at this
  omega
theorem move_ne {p q : Int × Int} {x y B : Int} (hB : 0 ≤ B ∧ B ≤ Bi) (hp : Ne B p) (hq : Ne B q) (rx : Rg x) (ry : Rg y) (hxy : ¬ (x < 0 ∧ y < 0)) : Ne B (moveV p q x y) := by
  unfold moveV
  split
  · rename_i hx
    obtain ⟨r0, r1⟩ := part_in hx (by omega) rx ry
    generalize divF x (subF x y) = r at *
    unfold Ne Bi at *
    have e1 : subF q.1 p.1 = q.1 - p.1 := sub_fa (by unfold Fa; omega) (by unfold Fa; omega)
    have e2 : subF q.2 p.2 = q.2 - p.2 := sub_fa (by unfold Fa; omega) (by unfold Fa; omega)
    have m1 := mul_in (d := q.1 - p.1) (r := r) (by unfold Rg; omega) r0 r1
    have m2 := mul_in (d := q.2 - p.2) (r := r) (by unfold Rg; omega) r0 r1
    unfold addV scaV subV
    simp only []
    rw [e1, e2]
    generalize mulF (q.1 - p.1) r = u at *
    generalize mulF (q.2 - p.2) r = v at *
    have f1 : Fa u := by unfold Fa; rcases Int.le_total 0 (q.1 - p.1) with h | h <;> omega
    have f2 : Fa v := by unfold Fa; rcases Int.le_total 0 (q.2 - p.2) with h | h <;> omega
    rw [add_fa (by unfold Fa; omega) f1, add_fa (by unfold Fa; omega) f2]
    rcases Int.le_total 0 (q.1 - p.1) with h | h <;> rcases Int.le_total 0 (q.2 - p.2) with h' | h' <;> omega
  · exact hp
theorem move_mv {p q c : Int × Int} {x y B : Int} (hB : 0 ≤ B ∧ B ≤ Bi) (hp : Ne B p) (hq : Ne B q) (hc : Ne Bi c) (rx : Rg x) (ry : Rg y) (hxy : ¬ (x < 0 ∧ y < 0)) : moveV (mv c p) (mv c q) x y = mv c (moveV p q x y) := by
  have hp' : Ne Bi p := by unfold Ne at *; omega
  have hq' : Ne Bi q := by unfold Ne at *; omega
  unfold moveV
  by_cases hx : x < 0
  · rw [if_pos hx, if_pos hx, sub_mv hq' hp' hc]
    obtain ⟨r0, r1⟩ := part_in hx (by omega) rx ry
    generalize divF x (subF x y) = r at *
    unfold Ne Bi at *
    have e1 : subF q.1 p.1 = q.1 - p.1 := sub_fa (by unfold Fa; omega) (by unfold Fa; omega)
    have e2 : subF q.2 p.2 = q.2 - p.2 := sub_fa (by unfold Fa; omega) (by unfold Fa; omega)
    have m1 := mul_in (d := q.1 - p.1) (r := r) (by unfold Rg; omega) r0 r1
    have m2 := mul_in (d := q.2 - p.2) (r := r) (by unfold Rg; omega) r0 r1
    unfold addV scaV subV mv
    simp only []
    rw [e1, e2]
    generalize mulF (q.1 - p.1) r = u at *
    generalize mulF (q.2 - p.2) r = v at *
    have f1 : Fa u := by unfold Fa; rcases Int.le_total 0 (q.1 - p.1) with h | h <;> omega
    have f2 : Fa v := by unfold Fa; rcases Int.le_total 0 (q.2 - p.2) with h | h <;> omega
    rw [add_fa (by unfold Fa; omega) f1, add_fa (by unfold Fa; omega) f2, add_fa (by unfold Fa; omega) f1, add_fa (by unfold Fa; omega) f2]
    congr 1 <;> omega
  · rw [if_neg hx, if_neg hx]

/-- u is t, moved -/
def MovedT (c : Int × Int) (t u : Option Tch) : Prop :=
  u.isSome = t.isSome ∧ (u.getD noTch).nx = (t.getD noTch).nx ∧ (u.getD noTch).ny = (t.getD noTch).ny ∧ (u.getD noTch).pts.length = (t.getD noTch).pts.length ∧
  ∀ (i : Nat) (p : Pnt), (t.getD noTch).pts[i]? = some p → (u.getD noTch).pts[i]? = some ⟨addF p.x c.1, addF p.y c.2, p.d, p.k⟩ ∧ Ne Bi (p.x, p.y)
theorem moved_none (c : Int × Int) : MovedT c none none := ⟨rfl, rfl, rfl, rfl, fun i p h => by simp [noTch] at h⟩
theorem moved_one {c N v : Int × Int} {d k : Int} (hv : Ne Bi v) (hc : Ne Bi c) : MovedT c (some (oneT N v d k)) (some (oneT N (mv c v) d k)) := by
  refine ⟨rfl, rfl, rfl, rfl, fun i p h => ?_⟩
  rcases i with _ | i
  · have h : some (⟨v.1, v.2, d, k⟩ : Pnt) = some p := h
    cases h
    refine ⟨?_, hv⟩
    show some (⟨v.1 + c.1, v.2 + c.2, d, k⟩ : Pnt) = some ⟨addF v.1 c.1, addF v.2 c.2, d, k⟩
    unfold Ne Bi at *
    rw [add_fa (by unfold Fa; omega) (by unfold Fa; omega), add_fa (by unfold Fa; omega) (by unfold Fa; omega)]
  · simp [oneT] at h
theorem MovedT.neg {c : Int × Int} {t u : Option Tch} (h : MovedT c t u) : MovedT c (t.map negT) (u.map negT) := by
  obtain ⟨h1, h2, h3, h4, h5⟩ := h
  cases t with
  | none =>
    cases u with
    | none => exact moved_none c
    | some u => cases h1
  | some t =>
    cases u with
    | none => cases h1
    | some u =>
      have h2 : u.nx = t.nx := h2
      have h3 : u.ny = t.ny := h3
      exact ⟨rfl, by show negF u.nx = negF t.nx; rw [h2], by show negF u.ny = negF t.ny; rw [h3], h4, h5⟩
theorem moved_corner {c N v u : Int × Int} {r key : Int} (hv : Ne Bi v) (hc : Ne Bi c) : MovedT c (cornerF N v u r key) (cornerF N (mv c v) u r key) := by
  unfold cornerF
  split
  · exact moved_none c
  · exact moved_one hv hc
theorem moved_points {c N v x y : Int × Int} {key : Int} (hv : Ne Bi v) (hx : Ne Bi x) (hy : Ne Bi y) (hc : Ne Bi c) : MovedT c (pointsF N v x y key) (pointsF N (mv c v) (mv c x) (mv c y) key) := by
  have he : ∀ (z : Int × Int) (key : Int), Ne Bi z → endsF N (mv c v) (mv c z) key = (endsF N v z key).map fun p => ⟨addF p.x c.1, addF p.y c.2, p.d, p.k⟩ := fun z key hz => by
    unfold endsF
    rw [sub_mv hz hv hc]
    split
    · show [(⟨z.1 + c.1, z.2 + c.2, _, _⟩ : Pnt)] = [⟨addF z.1 c.1, addF z.2 c.2, _, _⟩]
      unfold Ne Bi at *
      rw [add_fa (by unfold Fa; omega) (by unfold Fa; omega), add_fa (by unfold Fa; omega) (by unfold Fa; omega)]
    · rfl
  unfold pointsF
  rw [he x key hx, he y (key + 1) hy, ← List.map_append]
  by_cases hz : endsF N v x key ++ endsF N v y (key + 1) = []
  · rw [if_pos hz, if_pos (by rw [hz]; rfl)]
    exact moved_none c
  · rw [if_neg hz, if_neg (by rw [List.map_eq_nil_iff]; exact hz)]
    refine ⟨rfl, rfl, rfl, List.length_map .., fun i p h => ?_⟩
    have h : (endsF N v x key ++ endsF N v y (key + 1))[i]? = some p := h
    have hm : ∀ (z : Int × Int) (key : Int), Ne Bi z → p ∈ endsF N v z key → Ne Bi (p.x, p.y) := fun z key hz hp => by
      unfold endsF at hp
      split at hp
      · simp at hp
        subst hp
        exact hz
      · cases hp
    refine ⟨?_, ?_⟩
    rotate_left 1
    · rcases List.mem_append.1 (List.mem_of_getElem? h) with h | h
      · exact hm x _ hx h
      · exact hm y _ hy h
    show ((endsF N v x key ++ endsF N v y (key + 1)).map _)[i]? = _
    rw [List.getElem?_map, h]
    rfl
theorem dot_rg' (a b : Int × Int) : Rg (dotV a b) := rg_add _ _
theorem moved_clip {c N v w x y : Int × Int} {key B : Int} (hB : 0 ≤ B ∧ B ≤ Bi) (hv : Ne Bi v) (hw : Ne Bi w) (hx : Ne B x) (hy : Ne B y) (hc : Ne Bi c) : MovedT c (clipV N v w x y key) (clipV N (mv c v) (mv c w) (mv c x) (mv c y) key) := by
  have up : ∀ z : Int × Int, Ne B z → Ne Bi z := fun z h => by unfold Ne at *; omega
  unfold clipV
  rw [sub_mv hw hv hc]
  generalize unitP (subV w v) = t
  have cut : ∀ (x y v t : Int × Int), Ne B x → Ne B y → Ne Bi v → (cutF x y v t = none ∧ cutF (mv c x) (mv c y) (mv c v) t = none) ∨ ∃ p q, Ne B p ∧ Ne B q ∧ cutF x y v t = some (p, q) ∧ cutF (mv c x) (mv c y) (mv c v) t = some (mv c p, mv c q) := fun x y v t hx hy hv => by
    unfold cutF
    rw [sub_mv (up _ hx) hv hc, sub_mv (up _ hy) hv hc]
    by_cases h : dotV t (subV x v) < 0 ∧ dotV t (subV y v) < 0
    · rw [if_pos h, if_pos h]; exact .inl ⟨rfl, rfl⟩
    · rw [if_neg h, if_neg h]
      refine .inr ⟨_, _, move_ne hB hx hy (dot_rg' _ _) (dot_rg' _ _) h, move_ne hB hy hx (dot_rg' _ _) (dot_rg' _ _) (fun e => h ⟨e.2, e.1⟩), rfl, ?_⟩
      rw [move_mv hB hx hy hc (dot_rg' _ _) (dot_rg' _ _) h, move_mv hB hy hx hc (dot_rg' _ _) (dot_rg' _ _) (fun e => h ⟨e.2, e.1⟩)]
  rcases cut x y v t hx hy hv with ⟨e1, e2⟩ | ⟨p, q, hp, hq, e1, e2⟩
  · rw [e1, e2]; exact moved_none c
  · rw [e1, e2]
    simp only []
    rcases cut p q w (negV t) hp hq hw with ⟨e1, e2⟩ | ⟨p', q', hp', hq', e1, e2⟩
    · rw [e1, e2]; exact moved_none c
    · rw [e1, e2]
      exact moved_points hv (up _ hp') (up _ hq') hc
end Go.Proofs.Ytmfkcdinfahjlaa.Fx
