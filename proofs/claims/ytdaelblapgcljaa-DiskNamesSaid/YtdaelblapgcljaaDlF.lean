/- Layer 17: DiskNames, plainly. -/
import Derived.Test.YtdaelblapgcljaaDlE
namespace Go.Proofs.Ytdaelblapgcljaa.Fx
open Go.ChangeShapes Go.WideShapes Go.ChangeAt Go.RowKit Go.Maps Go.Sort
set_option linter.unusedVariables false

def sF : ByteArray := ⟨#[102]⟩
def nm (i : Nat) : ByteArray := sF ++ strB (gb [97 + i / 10, 48 + i % 10]) 2
theorem nm_name : ∀ i, i < 70 → nameD (nm i) := by decide +kernel
theorem nm_size : ∀ i, i < 70 → (nm i).size = 3 := by decide +kernel
theorem nm_inj : ∀ i, i < 70 → ∀ j, j < 70 → nm i = nm j → i = j := by
  have h : ∀ i, i < 70 → ∀ j, j < 70 → (nm i).data.toList = (nm j).data.toList → i = j := by decide +kernel
  exact fun i hi j hj e => h i hi j hj (by rw [e])
def sFa0 : ByteArray := ⟨#[102, 97, 48]⟩
def sZ : ByteArray := ⟨#[122]⟩
theorem nm_zero : nm 0 = sFa0 := by decide +kernel
/-- so many such names have been laid -/
structure NS (d : Dsk) (k : Nat) : Prop where
  off : d.off = false
  fell : d.fell = -1
  fails : d.fails = -1
  names : d.names.map (·.s) = (List.range k).map nm
theorem NS.op {d : Dsk} {k : Nat} (h : NS d k) : (opD d).2 = 0 ∧ NS (opD d).1 k := by
  have e : opD d = ({ d with ops := d.ops + 1, off := false }, 0) := by
    unfold opD
    simp [h.off, h.fell, h.fails]
  rw [e]
  exact ⟨rfl, rfl, h.fell, h.fails, h.names⟩
theorem NS.len {d : Dsk} {k : Nat} (h : NS d k) : d.names.length = k := by
  have := congrArg List.length h.names
  simpa using this
theorem NS.look {d : Dsk} {k i : Nat} (h : NS d k) (hk : k ≤ i) (hi : i < 70) : lookD d.names (nm i) = none := by
  unfold lookD
  rw [List.find?_eq_none]
  intro n hn
  have h1 : n.s ∈ (List.range k).map nm := by rw [← h.names]; exact List.mem_map_of_mem hn
  obtain ⟨j, hj, e⟩ := List.mem_map.1 h1
  have hj := List.mem_range.1 hj
  simp
  intro e2
  have := nm_inj j (by omega) i hi (e.trans e2)
  omega
theorem op_names (d : Dsk) : (opD d).1.names = d.names := rfl
theorem change_names (d : Dsk) (c : Chg) : (changeD d c).names = turnD d.names c := rfl
theorem NS.create {d : Dsk} {k i : Nat} (h : NS d k) (hk : k ≤ i) (hi : i < 70) : (k < 64 → (createD d (nm i)).2 = 0 ∧ (k = i → NS (createD d (nm i)).1 (k + 1))) ∧ (64 ≤ k → (createD d (nm i)).2 = 3 ∧ NS (createD d (nm i)).1 k) := by
  unfold createD
  simp only [h.op.1, ne_eq, not_true_eq_false, if_false, nm_name i hi, h.look hk hi, Option.isSome_none, Bool.false_eq_true, h.len]
  refine ⟨fun h1 => ?_, fun h1 => ?_⟩
  · rw [if_neg (by omega)]
    refine ⟨rfl, fun e => ?_⟩
    subst e
    refine ⟨h.op.2.off, h.op.2.fell, h.op.2.fails, ?_⟩
    rw [change_names, op_names]
    unfold turnD
    have hz : (nm k).size ≠ 0 := by rw [nm_size k hi]; omega
    simp only [if_neg hz]
    rw [if_pos (by rfl)]
    have ho : outD d.names (nm k) = d.names := by
      unfold outD
      rw [List.filter_eq_self]
      intro n hn
      have := look_none (h.look (Nat.le_refl _) hi) n hn
      simpa using this
    rw [ho, List.map_append, h.names, List.range_succ, List.map_append]
    rfl
  · rw [if_pos h1]
    exact ⟨rfl, h.op.2⟩
theorem NS.last {d : Dsk} (h : NS d 64 ∨ ∃ k, 0 < k ∧ k < 64 ∧ NS d k) : (removeD d sFa0).2 = 0 ∧ (createD (removeD d sFa0).1 sZ).2 = 0 := by
  obtain ⟨k, hk0, hk, h⟩ : ∃ k, 0 < k ∧ k ≤ 64 ∧ NS d k := by
    rcases h with h | ⟨k, h0, h1, h⟩
    · exact ⟨64, by omega, by omega, h⟩
    · exact ⟨k, h0, by omega, h⟩
  have h1 : ∃ n ∈ d.names, n.s = sFa0 := by
    have : sFa0 ∈ d.names.map (·.s) := by
      rw [h.names, ← nm_zero]
      exact List.mem_map_of_mem (List.mem_range.2 hk0)
    obtain ⟨n, hn, e⟩ := List.mem_map.1 this
    exact ⟨n, hn, e⟩
  obtain ⟨n, hl⟩ : ∃ n, lookD d.names sFa0 = some n := by
    cases e : lookD d.names sFa0 with
    | some n => exact ⟨n, rfl⟩
    | none =>
      obtain ⟨n, hn, e2⟩ := h1
      exact absurd e2 (look_none e n hn)
  have er : removeD d sFa0 = (changeD (opD d).1 ⟨sFa0, ByteArray.empty, 0⟩, 0) := by
    unfold removeD
    simp only [h.op.1, ne_eq, not_true_eq_false, if_false, hl]
  rw [er]
  refine ⟨rfl, ?_⟩
  obtain ⟨D, eD⟩ : ∃ D, changeD (opD d).1 ⟨sFa0, ByteArray.empty, 0⟩ = D := ⟨_, rfl⟩
  have en : D.names = outD d.names sFa0 := by
    rw [← eD]
    rw [change_names, op_names]
    unfold turnD
    rw [if_pos (by rfl), if_neg (by decide)]
  have ho : (opD D).2 = 0 := by
    have h2 := h.op.2
    have e1 : D.off = false := by rw [← eD]; exact h2.off
    have e2 : D.fell = -1 := by rw [← eD]; exact h2.fell
    have e3 : D.fails = -1 := by rw [← eD]; exact h2.fails
    unfold opD
    simp [e1, e2, e3]
  show (createD (changeD (opD d).1 ⟨sFa0, ByteArray.empty, 0⟩) sZ).2 = 0
  rw [eD]
  have hz : nameD sZ := by decide
  have hlk : lookD D.names sZ = none := by
    unfold lookD
    rw [List.find?_eq_none, en]
    intro m hm
    have h1 : m.s ∈ (List.range k).map nm := by rw [← h.names]; exact List.mem_map_of_mem (out_ne hm).1
    obtain ⟨j, hj, e⟩ := List.mem_map.1 h1
    have hj := List.mem_range.1 hj
    simp
    intro e2
    have := nm_size j (by omega)
    rw [e, e2] at this
    exact absurd this (by decide)
  have hlen : D.names.length < 64 := by
    rw [en]
    have h1 : (outD d.names sFa0).length < d.names.length := by
      unfold outD
      rw [List.length_filter_lt_length_iff_exists]
      obtain ⟨n, hn, e⟩ := h1
      exact ⟨n, hn, by simp [e]⟩
    have := h.len
    omega
  unfold createD
  simp only [ho, ne_eq, not_true_eq_false, if_false, hz, hlk, Option.isSome_none, Bool.false_eq_true]
  rw [if_neg (by omega)]
/-- the names in order rise -/
theorem NS.rise {d : Dsk} {k : Nat} (h : NS d k) (hk : k ≤ 64) (i : Nat) (hi : 0 < i) (hi2 : i < k) : ¬ ((listD d).getD i [] ≤ (listD d).getD (i - 1) []) := by
  have hl : (listD d).length = k := by rw [listD_len, h.len]
  have hp : (listD d).Pairwise fun x y => decide (x ≤ y) = true := List.pairwise_mergeSort (fun a b c h1 h2 => by simp at *; exact List.le_trans h1 h2) (fun a b => by simp; exact List.le_total a b) _
  have hn : (listD d).Nodup := by
    have : (d.names.map bytesN).Nodup := by
      have e : d.names.map bytesN = ((List.range k).map nm).map fun s => s.data.toList := by rw [← h.names, List.map_map]; rfl
      rw [e, List.map_map]
      refine List.pairwise_map.2 (List.Pairwise.imp_of_mem (fun {a b} ha hb hab e => ?_) List.nodup_range)
      exact hab (nm_inj a (by have := List.mem_range.1 ha; omega) b (by have := List.mem_range.1 hb; omega) (ByteArray.ext (Array.ext' e)))
    exact (List.mergeSort_perm _ _).nodup_iff.2 this
  have h1 := List.pairwise_iff_getElem.1 hp (i - 1) i (by omega) (by omega) (by omega)
  have h2 := List.pairwise_iff_getElem.1 hn (i - 1) i (by omega) (by omega) (by omega)
  rw [List.getD_eq_getElem?_getD, List.getD_eq_getElem?_getD, List.getElem?_eq_getElem (by omega), List.getElem?_eq_getElem (by omega), Option.getD_some, Option.getD_some]
  exact fun h3 => h2 (List.le_antisymm (by simpa using h1) h3)
end Go.Proofs.Ytdaelblapgcljaa.Fx
