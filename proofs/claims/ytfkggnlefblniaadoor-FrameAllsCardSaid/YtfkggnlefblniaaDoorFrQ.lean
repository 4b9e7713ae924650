/- Layer 16, plain: records one behind the other. -/
import Derived.Test.YtfkggnlefblniaaDoorFrI
import Derived.Test.YtfkggnlefblniaaDoorFrO
import Derived.Test.YtfkggnlefblniaaDoorFrD
namespace Go.Proofs.YtfkggnlefblniaaDoor.Fx
open Go.ChangeShapes Go.WideShapes Go.ChangeAt Go.RowKit
set_option linter.unusedVariables false

/-- where the record number j begins -/
def tot (f : Nat → Pr) : Nat → Nat
  | 0 => 0
  | j + 1 => tot f j + ((f j).m + 20)
theorem tot_mono (f : Nat → Pr) {i j : Nat} (h : i ≤ j) : tot f i ≤ tot f j := by
  induction j with
  | zero => obtain rfl : i = 0 := by omega
            exact Nat.le_refl _
  | succ j ih =>
    by_cases e : i = j + 1
    · subst e; exact Nat.le_refl _
    · have := ih (by omega)
      show _ ≤ tot f j + _
      omega
theorem tot_ge (f : Nat → Pr) : ∀ j, 20 * j ≤ tot f j
  | 0 => Nat.zero_le _
  | j + 1 => by
    have := tot_ge f j
    show _ ≤ tot f j + _
    omega
theorem tot_le (f : Nat → Pr) : ∀ j, (∀ i, i < j → (f i).m ≤ 200) → tot f j ≤ 220 * j
  | 0, _ => Nat.le_refl _
  | j + 1, h => by
    have := tot_le f j (fun i hi => h i (by omega))
    have := h j (by omega)
    show tot f j + _ ≤ _
    omega
def recP (x : Pr) : Nat → Nat := recF x.p x.m (posF x.num)
/-- the first j records -/
def catR (f : Nat → Pr) : Nat → Nat → Nat
  | 0 => fun _ => 0
  | j + 1 => joinB (catR f j) (recP (f j)) (tot f j)
theorem catR_lt {f : Nat → Pr} : ∀ j, (∀ i, i < j → ∀ t, (f i).p t < 256) → ∀ i, catR f j i < 256
  | 0, _, i => (by decide : (0 : Nat) < 256)
  | j + 1, h, i => joinB_lt (catR_lt j fun a ha => h a (by omega)) (recF_lt (h j (by omega)) _ _) _ i
theorem catR_at {f : Nat → Pr} {j : Nat} : ∀ n, j < n → ∀ i, i < (f j).m + 20 → catR f n (tot f j + i) = recP (f j) i
  | 0, h, _, _ => by omega
  | n + 1, h, i, hi => by
    show joinB (catR f n) (recP (f n)) (tot f n) (tot f j + i) = _
    unfold joinB
    by_cases e : j = n
    · subst e
      rw [if_neg (by omega), Nat.add_sub_cancel_left]
    · have h2 := tot_mono f (show j + 1 ≤ n by omega)
      have h3 : tot f (j + 1) = tot f j + ((f j).m + 20) := rfl
      rw [if_pos (by omega)]
      exact catR_at n (by omega) i hi
/-- what a part's record is read as -/
def triP (f : Nat → Pr) (G : Nat → Nat) (i : Nat) : Tri := (posF (f i).num, (f i).m, payF fun t => G (tot f i + t))
theorem recs_cat {f : Nat → Pr} {G : Nat → Nat} {n N : Nat} {most : Int} (hp : ∀ i, i < n → ∀ t, (f i).p t < 256) (hm : ∀ i, i < n → ((f i).m : Int) ≤ most ∧ (f i).m < 4294967296) :
    ∀ j fuel, j ≤ n → j ≤ fuel → tot f j ≤ N → (∀ i, i < tot f j → G i = catR f n i) → recsF most fuel G N = (List.range j).map (triP f G) ++ recsF most (fuel - j) (fun t => G (tot f j + t)) (N - tot f j)
  | 0, fuel, _, _, _, _ => by simp [tot]
  | j + 1, fuel, hj, hf, hN, hG => by
    have et : tot f (j + 1) = tot f j + ((f j).m + 20) := rfl
    rw [recs_cat hp hm j fuel (by omega) (by omega) (by omega) fun i hi => hG i (by omega)]
    have hg : ∀ i, i < (f j).m + 20 → (fun t => G (tot f j + t)) i = recF (f j).p (f j).m (posF (f j).num) i := fun i hi => by
      show G (tot f j + i) = _
      rw [hG _ (by omega), catR_at n (by omega) i hi]; rfl
    have hr : IsRec (fun t => G (tot f j + t)) (N - tot f j) most := (isRec_rec (hp j (by omega)) (hm j (by omega)).2 (posF_rg _).1 (by have := (posF_rg (f j).num).2; omega) (by omega) hg).2 (hm j (by omega)).1
    have es : sizeF (fun t => G (tot f j + t)) = (f j).m := by rw [sizeF_congr fun i hi => hg i (by omega)]; exact rec_size (hm j (by omega)).2
    have en : numF (fun t => G (tot f j + t)) = posF (f j).num := by rw [numF_congr fun i hi => hg i (by omega)]; exact rec_num (by have := (posF_rg (f j).num).1; omega) (by have := (posF_rg (f j).num).2; omega)
    rw [show fuel - j = (fuel - (j + 1)) + 1 by omega, recsF_yes hr, es, en, List.range_succ, List.map_append, List.append_assoc]
    congr 1
    show _ :: _ = triP f G j :: _
    congr 1
    rw [show N - tot f j - ((f j).m + 20) = N - tot f (j + 1) by omega]
    congr 1
    funext t
    rw [et, Nat.add_assoc (tot f j)]
/-- behind the first q records nothing more is read, if the next one isn't whole -/
theorem recs_end {f : Nat → Pr} {G : Nat → Nat} {n N q : Nat} {most : Int} (hp : ∀ i, i < n → ∀ t, (f i).p t < 256) (hm : ∀ i, i < n → ((f i).m : Int) ≤ most ∧ (f i).m < 4294967296) (hq : q ≤ n) (hN : tot f q ≤ N)
    (hn : q < n → N < tot f (q + 1)) (he : q = n → N < tot f q + 16) (hG : ∀ i, i < N → i < tot f n → G i = catR f n i) : recsF most (N / 20) G N = (List.range q).map (triP f G) := by
  have hge := tot_ge f q
  have hqn := tot_mono f hq
  rw [recs_cat hp hm q (N / 20) hq (by omega) hN (fun i hi => hG i (by omega) (by omega)), recsF_no, List.append_nil]
  intro h
  by_cases hqn' : q < n
  · have h1 := hn hqn'
    have et : tot f (q + 1) = tot f q + ((f q).m + 20) := rfl
    have hle := tot_mono f (show q + 1 ≤ n by omega)
    have hg : ∀ i, i < 4 → (fun t => G (tot f q + t)) i = recF (f q).p (f q).m (posF (f q).num) i := fun i hi => by
      show G (tot f q + i) = _
      have h16 := h.1
      rw [hG _ (by omega) (by omega), catR_at n hqn' i (by omega)]; rfl
    have es : sizeF (fun t => G (tot f q + t)) = (f q).m := by rw [sizeF_congr hg]; exact rec_size (hm q hqn').2
    have h2 := h.2.2.2.2.1
    rw [es] at h2
    omega
  · have := he (by omega)
    have h16 := h.1
    omega
theorem tri_pay {f : Nat → Pr} {G : Nat → Nat} {n j : Nat} (hj : j < n) (hG : ∀ i, i < tot f n → G i = catR f n i) : ∀ t, t < (f j).m → payF (fun t => G (tot f j + t)) t = (f j).p t := fun t ht => by
  show G (tot f j + (16 + t)) = _
  have h1 := tot_mono f (show j + 1 ≤ n by omega)
  have et : tot f (j + 1) = tot f j + ((f j).m + 20) := rfl
  rw [hG _ (by omega), catR_at n hj _ (by omega)]
  show recF _ _ _ _ = _
  rw [recF_high, sealB_low ht]
theorem sumE_tri (xs : List Rc) : sumE xs = ((xs.map Rc.tri).map fun t => t.2.1 + 20).sum := by unfold sumE; rw [List.map_map]; rfl
theorem sum_triP (f : Nat → Pr) (G : Nat → Nat) : ∀ q, (((List.range q).map (triP f G)).map fun t => t.2.1 + 20).sum = tot f q
  | 0 => rfl
  | q + 1 => by rw [List.range_succ, List.map_append, List.map_append, List.sum_append, sum_triP f G q]; simp [triP, tot]
theorem tri_at {xs : List Rc} {f : Nat → Pr} {G : Nat → Nat} {q j : Nat} (h : xs.map Rc.tri = (List.range q).map (triP f G)) (hj : j < q) : ∃ ao c, xs[j]? = some ⟨posF (f j).num, ao, (f j).m, c, payF fun t => G (tot f j + t)⟩ := by
  have hl : xs.length = q := by have := congrArg List.length h; simpa using this
  have h2 := congrArg (fun l => l[j]?) h
  simp only [List.getElem?_map, List.getElem?_range hj, Option.map_some] at h2
  obtain ⟨x, ex⟩ : ∃ x, xs[j]? = some x := ⟨_, List.getElem?_eq_getElem (by omega)⟩
  rw [ex] at h2 ⊢
  obtain ⟨num, ao, s, c, pay⟩ := x
  simp [Rc.tri, triP] at h2
  obtain ⟨rfl, rfl, rfl⟩ := h2
  exact ⟨ao, c, rfl⟩
def endsL (f : Nat → Pr) (j : Nat) : List Value := (List.range j).map fun i => Value.int .i64 (tot f (i + 1) : Nat)
theorem endsL_snoc (f : Nat → Pr) (j : Nat) : endsL f (j + 1) = endsL f j ++ [.int .i64 (tot f (j + 1) : Nat)] := by unfold endsL; rw [List.range_succ, List.map_append]; rfl
theorem endsL_at {f : Nat → Pr} {n j : Nat} (h : j < n) : (endsL f n)[j]? = some (.int .i64 (tot f (j + 1) : Nat)) := by simp [endsL, h]
theorem tot_lt (f : Nat → Pr) {i j : Nat} (h : i < j) : tot f i < tot f j := by
  have h1 := tot_mono f (show i + 1 ≤ j by omega)
  have : tot f (i + 1) = tot f i + ((f i).m + 20) := rfl
  omega
/-- how many records end at K or ahead of it -/
theorem count_ends (f : Nat → Pr) (K : Nat) : ∀ n, ∃ q, q ≤ n ∧ tot f q ≤ K ∧ (q < n → K < tot f (q + 1))
  | 0 => ⟨0, Nat.le_refl _, Nat.zero_le _, fun h => by omega⟩
  | n + 1 => by
    obtain ⟨q, h1, h2, h3⟩ := count_ends f K n
    by_cases e : q < n
    · exact ⟨q, by omega, h2, fun _ => h3 e⟩
    · obtain rfl : q = n := by omega
      by_cases h : tot f (q + 1) ≤ K
      · exact ⟨q + 1, by omega, h, fun h => by omega⟩
      · exact ⟨q, by omega, h2, fun _ => by omega⟩
theorem ends_le {f : Nat → Pr} {K n q j : Nat} (h1 : q ≤ n) (h2 : tot f q ≤ K) (h3 : q < n → K < tot f (q + 1)) (hj : j < n) : tot f (j + 1) ≤ K ↔ j + 1 ≤ q := by
  constructor
  · intro h
    rcases Nat.lt_or_ge j q with h4 | h4
    · exact h4
    · have := tot_mono f (show q + 1 ≤ j + 1 by omega)
      have := h3 (by omega)
      omega
  · intro h
    have := tot_mono f h
    omega
end Go.Proofs.YtfkggnlefblniaaDoor.Fx
