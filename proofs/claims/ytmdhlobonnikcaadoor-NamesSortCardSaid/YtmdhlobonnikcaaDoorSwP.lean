/- Items and the pairs of them that meet, plain. -/
import Derived.Test.YtmdhlobonnikcaaDoorPlain
namespace Go.Proofs.YtmdhlobonnikcaaDoor.Fx
set_option linter.unusedVariables false

structure It where
  id : Int
  lx : Int
  ly : Int
  hx : Int
  hy : Int
  st : Bool
instance : Inhabited It := ⟨⟨0, 0, 0, 0, 0, false⟩⟩
/-- two items meet -/
def meetP (a b : It) : Prop := (cl a.lx ≤ cl b.hx ∧ cl b.lx ≤ cl a.hx) ∧ (cl a.ly ≤ cl b.hy ∧ cl b.ly ≤ cl a.hy)
instance (a b : It) : Decidable (meetP a b) := by unfold meetP; infer_instance
theorem meetP_comm (a b : It) : meetP a b ↔ meetP b a := by unfold meetP; omega
def taken (a b : It) : Bool := !(a.st && b.st) && decide (meetP a b)
theorem taken_comm (a b : It) : taken a b = taken b a := by
  unfold taken
  rw [Bool.and_comm a.st b.st]
  congr 1
  exact decide_eq_decide.2 (meetP_comm a b)
theorem taken_iff {a b : It} (h : (a.st && b.st) = false) : taken a b = true ↔ meetP a b := by
  unfold taken
  rw [h, Bool.not_false, Bool.true_and, decide_eq_true_iff]
def beyB (a b : It) : Bool := decide (cl a.hx < cl b.lx)
def pairOf (a b : It) : Int × Int := (min a.id b.id, max a.id b.id)
theorem pairOf_comm (a b : It) : pairOf a b = pairOf b a := by
  unfold pairOf
  rw [Int.min_comm, Int.max_comm]
def inner (a : It) : List It → List (Int × Int)
  | [] => []
  | b :: l => if beyB a b then [] else if taken a b then pairOf a b :: inner a l else inner a l
def outer : List It → List (Int × Int)
  | [] => []
  | a :: l => inner a l ++ outer l
def withF (a : It) (l : List It) : List (Int × Int) := (l.filter (taken a)).map (pairOf a)
def collect : List It → List (Int × Int)
  | [] => []
  | a :: l => withF a l ++ collect l
theorem cl_mono {a b : Int} (h : a ≤ b) : cl a ≤ cl b := by
  unfold cl; omega
theorem inner_eq (a : It) : ∀ l : List It, l.Pairwise (fun x y => x.lx ≤ y.lx) → inner a l = withF a l
  | [], _ => rfl
  | b :: l, h => by
    obtain ⟨h1, h2⟩ := List.pairwise_cons.1 h
    unfold inner
    by_cases hb : beyB a b = true
    · rw [if_pos hb]
      have hz : ∀ x, x ∈ b :: l → taken a x = false := fun x hx => by
        have hx' : b.lx ≤ x.lx := by
          rcases List.mem_cons.1 hx with rfl | hx
          · exact Int.le_refl _
          · exact h1 x hx
        unfold beyB at hb
        have hb' := of_decide_eq_true hb
        have := cl_mono hx'
        unfold taken
        have hm : ¬ meetP a x := by unfold meetP; omega
        rw [decide_eq_false hm, Bool.and_false]
      unfold withF
      rw [List.filter_eq_nil_iff.2 (fun x hx => by rw [hz x hx]; simp)]
      rfl
    · rw [if_neg hb, inner_eq a l h2]
      unfold withF
      rw [List.filter_cons]
      split <;> rfl
theorem outer_eq : ∀ l : List It, l.Pairwise (fun x y => x.lx ≤ y.lx) → outer l = collect l
  | [], _ => rfl
  | a :: l, h => by
    obtain ⟨h1, h2⟩ := List.pairwise_cons.1 h
    unfold outer collect
    rw [inner_eq a l h2, outer_eq l h2]
theorem withF_perm (a : It) {l l' : List It} (h : l.Perm l') : (withF a l).Perm (withF a l') := (h.filter _).map _
theorem withF_cons (a b : It) (l : List It) : withF a (b :: l) = (if taken a b then [pairOf a b] else []) ++ withF a l := by
  unfold withF
  rw [List.filter_cons]
  split <;> rfl
theorem collect_perm {l l' : List It} (h : l.Perm l') : (collect l).Perm (collect l') := by
  induction h with
  | nil => exact List.Perm.refl _
  | cons a h ih => exact (withF_perm a h).append ih
  | swap a b l =>
    show (withF b (a :: l) ++ (withF a l ++ collect l)).Perm (withF a (b :: l) ++ (withF b l ++ collect l))
    rw [withF_cons, withF_cons, taken_comm b a, pairOf_comm b a, List.append_assoc, List.append_assoc]
    refine List.Perm.append_left _ ?_
    rw [← List.append_assoc, ← List.append_assoc]
    exact List.Perm.append_right _ List.perm_append_comm
  | trans _ _ h1 h2 => exact h1.trans h2

def ltP (p q : Int × Int) : Bool := decide (p.1 < q.1) || (decide (p.1 = q.1) && decide (p.2 < q.2))
def leP (p q : Int × Int) : Bool := !ltP q p
theorem ltP_iff (p q : Int × Int) : ltP p q = true ↔ p.1 < q.1 ∨ p.1 = q.1 ∧ p.2 < q.2 := by
  unfold ltP; simp
theorem leP_iff (p q : Int × Int) : leP p q = true ↔ p.1 < q.1 ∨ p.1 = q.1 ∧ p.2 ≤ q.2 := by
  unfold leP
  rw [Bool.not_eq_true', ← Bool.not_eq_true, ltP_iff]
  omega
theorem leP_trans (a b c : Int × Int) (h1 : leP a b = true) (h2 : leP b c = true) : leP a c = true := by
  rw [leP_iff] at *; omega
theorem leP_total (a b : Int × Int) : (leP a b || leP b a) = true := by
  rw [Bool.or_eq_true, leP_iff, leP_iff]; omega
theorem leP_anti {a b : Int × Int} (h1 : leP a b = true) (h2 : leP b a = true) : a = b := by
  rw [leP_iff] at *
  exact Prod.ext (by omega) (by omega)
def sortP (l : List (Int × Int)) : List (Int × Int) := l.mergeSort leP
theorem sortP_perm (l : List (Int × Int)) : (sortP l).Perm l := List.mergeSort_perm _ _
theorem sortP_pairwise (l : List (Int × Int)) : (sortP l).Pairwise (fun a b => leP a b = true) := List.pairwise_mergeSort leP_trans leP_total l
theorem sorted_one {l l' : List (Int × Int)} (h : l.Perm l') (h1 : l.Pairwise (fun a b => leP a b = true)) (h2 : l'.Pairwise (fun a b => leP a b = true)) : l = l' :=
  List.Perm.eq_of_pairwise (le := fun x y => leP x y = true) (fun _ _ _ _ h1 h2 => leP_anti h1 h2) h1 h2 h
theorem sortP_of_perm {l l' : List (Int × Int)} (h : l.Perm l') : sortP l = sortP l' :=
  sorted_one ((sortP_perm l).trans (h.trans (sortP_perm l').symm)) (sortP_pairwise l) (sortP_pairwise l')
/-- what the pairs are to be -/
def pairsF (l : List It) : List (Int × Int) := sortP (collect l)
theorem pairsF_perm {l l' : List It} (h : l.Perm l') : pairsF l = pairsF l' := sortP_of_perm (collect_perm h)
theorem pairsF_sorted {l l' : List It} (h : l'.Perm l) (hs : l'.Pairwise (fun x y => x.lx ≤ y.lx)) : sortP (outer l') = pairsF l := by
  rw [outer_eq l' hs]
  exact sortP_of_perm (collect_perm h)
theorem pairsF_short {l : List It} (h : (collect l).length ≤ 1) : pairsF l = collect l := by
  unfold pairsF sortP
  rcases hc : collect l with _ | ⟨x, _ | ⟨y, r⟩⟩
  · exact List.mergeSort_nil
  · exact List.mergeSort_singleton _
  · rw [hc] at h; simp at h
theorem pairsF_mem {l : List It} {p : Int × Int} : p ∈ pairsF l ↔ p ∈ collect l := (sortP_perm _).mem_iff
theorem pairsF_length (l : List It) : (pairsF l).length = (collect l).length := (sortP_perm _).length_eq
theorem withF_len (a : It) (l : List It) : (withF a l).length ≤ l.length := by
  unfold withF; rw [List.length_map]; exact List.length_filter_le _ _
theorem collect_len : ∀ l : List It, (collect l).length ≤ l.length * l.length
  | [] => by simp [collect]
  | a :: l => by
    have h1 := withF_len a l
    have h2 := collect_len l
    unfold collect
    rw [List.length_append, List.length_cons]
    have : (l.length + 1) * (l.length + 1) = l.length * l.length + 2 * l.length + 1 := by
      rw [Nat.add_mul, Nat.mul_add]; omega
    omega
/-- a pair of two of them -/
theorem collect_mem : ∀ {l : List It} {p : Int × Int}, p ∈ collect l → ∃ i j : Nat, ∃ a b, i < j ∧ l[i]? = some a ∧ l[j]? = some b ∧ taken a b = true ∧ p = pairOf a b
  | [], p, h => by simp [collect] at h
  | a :: l, p, h => by
    unfold collect at h
    rcases List.mem_append.1 h with h | h
    · unfold withF at h
      obtain ⟨b, hb, rfl⟩ := List.mem_map.1 h
      obtain ⟨hb1, hb2⟩ := List.mem_filter.1 hb
      obtain ⟨j, hj⟩ := List.mem_iff_getElem?.1 hb1
      exact ⟨0, j + 1, a, b, by omega, rfl, hj, hb2, rfl⟩
    · obtain ⟨i, j, x, y, hij, hx, hy, ht, rfl⟩ := collect_mem h
      exact ⟨i + 1, j + 1, x, y, by omega, hx, hy, ht, rfl⟩

/-! ### different numbers -/
def Apart (l : List It) : Prop := l.Pairwise (fun a b => a.id ≠ b.id)
theorem pair_inj {a b c : It} (h : pairOf a b = pairOf a c) (hb : a.id ≠ b.id) (hc : a.id ≠ c.id) : b.id = c.id := by
  unfold pairOf at h
  have h1 := congrArg Prod.fst h
  have h2 := congrArg Prod.snd h
  simp only [] at h1 h2
  omega
theorem withF_nodup (a : It) : ∀ l : List It, Apart l → (∀ b ∈ l, a.id ≠ b.id) → (withF a l).Nodup
  | [], _, _ => by simp [withF]
  | b :: l, h, ha => by
    obtain ⟨h1, h2⟩ := List.pairwise_cons.1 h
    rw [withF_cons]
    have ih := withF_nodup a l h2 (fun x hx => ha x (List.mem_cons_of_mem _ hx))
    split
    · rw [List.singleton_append, List.nodup_cons]
      refine ⟨fun hm => ?_, ih⟩
      unfold withF at hm
      obtain ⟨c, hc, e⟩ := List.mem_map.1 hm
      have hc1 := (List.mem_filter.1 hc).1
      have := pair_inj e (ha c (List.mem_cons_of_mem _ hc1)) (ha b (List.mem_cons_self ..))
      exact h1 c hc1 this.symm
    · exact ih
theorem withF_has {a : It} {l : List It} {p : Int × Int} (h : p ∈ withF a l) : p.1 = a.id ∨ p.2 = a.id := by
  unfold withF at h
  obtain ⟨b, _, rfl⟩ := List.mem_map.1 h
  unfold pairOf
  simp only []
  omega
theorem collect_not {z : Int} {l : List It} (h : ∀ b ∈ l, b.id ≠ z) {p : Int × Int} (hp : p ∈ collect l) : p.1 ≠ z ∧ p.2 ≠ z := by
  obtain ⟨i, j, a, b, _, ha, hb, _, rfl⟩ := collect_mem hp
  have h1 := h a (List.mem_of_getElem? ha)
  have h2 := h b (List.mem_of_getElem? hb)
  unfold pairOf
  simp only []
  omega
theorem collect_nodup : ∀ l : List It, Apart l → (collect l).Nodup
  | [], _ => by simp [collect]
  | a :: l, h => by
    obtain ⟨h1, h2⟩ := List.pairwise_cons.1 h
    unfold collect
    rw [List.nodup_append]
    refine ⟨withF_nodup a l h2 h1, collect_nodup l h2, fun p hp q hq e => ?_⟩
    subst e
    have := collect_not (z := a.id) (fun b hb => (h1 b hb).symm) hq
    have := withF_has hp
    omega
theorem pairsF_nodup {l : List It} (h : Apart l) : (pairsF l).Nodup := (sortP_perm _).nodup_iff.2 (collect_nodup l h)
/-- strictly rising -/
theorem pairsF_rising {l : List It} (h : Apart l) {i : Nat} {p q : Int × Int} (hp : (pairsF l)[i]? = some p) (hq : (pairsF l)[i + 1]? = some q) : p.1 < q.1 ∨ p.1 = q.1 ∧ p.2 < q.2 := by
  have hs := sortP_pairwise (collect l)
  have hn := pairsF_nodup h
  obtain ⟨h1, e1⟩ := List.getElem?_eq_some_iff.1 hp
  obtain ⟨h2, e2⟩ := List.getElem?_eq_some_iff.1 hq
  have a1 : leP p q = true := by
    rw [← e1, ← e2]
    exact List.pairwise_iff_getElem.1 hs i (i + 1) h1 h2 (by omega)
  have a2 : p ≠ q := by
    rw [← e1, ← e2]
    exact List.pairwise_iff_getElem.1 hn i (i + 1) h1 h2 (by omega)
  rw [leP_iff] at a1
  rcases a1 with a1 | ⟨a1, a3⟩
  · exact .inl a1
  · refine .inr ⟨a1, ?_⟩
    have : p.2 ≠ q.2 := fun e => a2 (Prod.ext a1 e)
    omega
def keepP (z : Int) (p : Int × Int) : Bool := !(decide (p.1 = z) || decide (p.2 = z))
/-- one item more brings just the pairs that it is in -/
theorem pairsF_more {l : List It} {x : It} (h : ∀ b ∈ l, b.id ≠ x.id) : (pairsF (l ++ [x])).filter (keepP x.id) = pairsF l := by
  have hk1 : ∀ p, p ∈ withF x l → keepP x.id p = false := fun p hp => by
    have := withF_has hp
    unfold keepP
    rw [Bool.not_eq_false', Bool.or_eq_true, decide_eq_true_iff, decide_eq_true_iff]
    exact this
  have hk2 : ∀ p, p ∈ collect l → keepP x.id p = true := fun p hp => by
    have := collect_not h hp
    unfold keepP
    simp [this.1, this.2]
  have e : ((x :: l : List It)).Perm (l ++ [x]) := (List.perm_append_singleton x l).symm
  have hp : ((pairsF (l ++ [x])).filter (keepP x.id)).Perm (collect l) := by
    refine ((sortP_perm _).filter _).trans (((collect_perm e.symm).filter _).trans ?_)
    show ((withF x l ++ collect l).filter _).Perm _
    rw [List.filter_append, List.filter_eq_nil_iff.2 (fun p hp => by rw [hk1 p hp]; simp), List.filter_eq_self.2 hk2, List.nil_append]
  exact sorted_one (hp.trans (sortP_perm _).symm) ((sortP_pairwise _).sublist List.filter_sublist) (sortP_pairwise _)
end Go.Proofs.YtmdhlobonnikcaaDoor.Fx
