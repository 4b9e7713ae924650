/- Sines and cosines of steps, plain: what the statements of layer 2 need to know of the table. -/
import Derived.Test.YtggpchclfikneaaPlain
namespace Go.Proofs.Ytggpchclfikneaa.Fx

/-- the sine of a step -/
def sn (k : Int) : Int := if k ≤ 256 then tabF k else if k ≤ 512 then tabF (512 - k) else if k ≤ 768 then -tabF (k - 512) else -tabF (1024 - k)
/-- the cosine of a step -/
def cs (k : Int) : Int := sn ((k + 256) % 1024)
def wrapF (a : Int) : Int := cl a % 4294967296
def stepF (a : Int) : Int := wrapF a / 4194304
theorem wrapF_bd (a : Int) : 0 ≤ wrapF a ∧ wrapF a < 4294967296 := by unfold wrapF; omega
theorem stepF_bd (a : Int) : 0 ≤ stepF a ∧ stepF a < 1024 := by have := wrapF_bd a; unfold stepF; omega
theorem all_in {p : Int → Bool} (n : Nat) (h : (List.range n).all (fun k => p k) = true) (k : Int) (h0 : 0 ≤ k) (h1 : k < n) : p k = true := by
  obtain ⟨m, rfl⟩ := Int.eq_ofNat_of_zero_le h0
  exact List.all_eq_true.1 h m (List.mem_range.2 (by omega))
def tabOk (k : Int) : Bool := decide (0 ≤ tabF k) && decide (tabF k ≤ 4294967296)
set_option maxRecDepth 100000 in
theorem tab_check : (List.range 257).all (fun k => tabOk k) = true := by decide +kernel
theorem tabF_bd (k : Int) : 0 ≤ tabF k ∧ tabF k ≤ 4294967296 := by
  by_cases h : k < 0 ∨ 257 ≤ k
  · rw [tabF_no h]; omega
  · have := all_in (p := tabOk) 257 tab_check k (by omega) (by omega)
    simpa [tabOk] using this
def gapOk (k : Int) : Bool := decide (tabF k + 4 ≤ tabF (k + 1))
set_option maxRecDepth 100000 in
theorem gap_check : (List.range 256).all (fun k => gapOk k) = true := by decide +kernel
theorem tab_gap1 (k : Int) (h0 : 0 ≤ k) (h1 : k < 256) : tabF k + 4 ≤ tabF (k + 1) := by
  have := all_in (p := gapOk) 256 gap_check k h0 h1
  simpa [gapOk] using this
theorem tab_gap (n : Nat) : ∀ i : Int, 0 ≤ i → i + 1 + n ≤ 256 → tabF i + 4 ≤ tabF (i + 1 + n) := by
  induction n with
  | zero => intro i h0 h1; simpa using tab_gap1 i h0 (by omega)
  | succ n ih =>
    intro i h0 h1
    have a := ih i h0 (by omega)
    have b := tab_gap1 (i + 1 + n) (by omega) (by omega)
    have e : i + 1 + ((n + 1 : Nat) : Int) = i + 1 + n + 1 := by omega
    rw [e]; omega
theorem tab_lt {i j : Int} (h0 : 0 ≤ i) (h : i < j) (h1 : j ≤ 256) : tabF i + 4 ≤ tabF j := by
  have := tab_gap (j - i - 1).toNat i h0 (by omega)
  rw [show i + 1 + ((j - i - 1).toNat : Int) = j by omega] at this
  exact this
theorem tab_zero : tabF 0 = 0 := by decide
theorem sn_of (k : Int) (h0 : 0 ≤ k) (h1 : k < 1024) : ∃ i, 0 ≤ i ∧ i ≤ 256 ∧ (sn k = tabF i ∨ sn k = -tabF i) := by
  unfold sn
  by_cases a : k ≤ 256
  · exact ⟨k, h0, a, Or.inl (by rw [if_pos a])⟩
  · by_cases b : k ≤ 512
    · exact ⟨512 - k, by omega, by omega, Or.inl (by rw [if_neg a, if_pos b])⟩
    · by_cases c : k ≤ 768
      · exact ⟨k - 512, by omega, by omega, Or.inr (by rw [if_neg a, if_neg b, if_pos c])⟩
      · exact ⟨1024 - k, by omega, by omega, Or.inr (by rw [if_neg a, if_neg b, if_neg c])⟩
theorem sn_bd (k : Int) : -4294967296 ≤ sn k ∧ sn k ≤ 4294967296 := by
  have h1 := tabF_bd k; have h2 := tabF_bd (512 - k); have h3 := tabF_bd (k - 512); have h4 := tabF_bd (1024 - k)
  unfold sn; (repeat' split) <;> omega
theorem cs_bd (k : Int) : -4294967296 ≤ cs k ∧ cs k ≤ 4294967296 := sn_bd _
/-- no two sines are as near as that -/
theorem sn_apart {n k : Int} (hn : 0 ≤ n) (hn1 : n < 1024) (hk : 0 ≤ k) (hk1 : k < 1024) (d : Int) (hd : 0 < d) (hd4 : d < 4) : sn n + d ≠ sn k := by
  obtain ⟨i, i0, i1, hi⟩ := sn_of n hn hn1
  obtain ⟨j, j0, j1, hj⟩ := sn_of k hk hk1
  have bi := tabF_bd i
  have bj := tabF_bd j
  have z : ∀ i : Int, 0 ≤ i → i ≤ 256 → tabF i = 0 ∨ 4 ≤ tabF i := by
    intro i a b
    by_cases c : i = 0
    · subst c; exact Or.inl tab_zero
    · have := tab_lt (i := 0) (j := i) (by omega) (by omega) b
      rw [tab_zero] at this; omega
  have zi := z i i0 i1
  have zj := z j j0 j1
  have g : tabF i = tabF j ∨ tabF i + 4 ≤ tabF j ∨ tabF j + 4 ≤ tabF i := by
    by_cases c : i < j
    · exact Or.inr (Or.inl (tab_lt i0 c j1))
    · by_cases c2 : j < i
      · exact Or.inr (Or.inr (tab_lt j0 c2 i1))
      · exact Or.inl (by rw [show i = j by omega])
  rcases hi with hi | hi <;> rcases hj with hj | hj <;> rw [hi, hj] <;> omega
theorem cs_apart {n k : Int} (d : Int) (hd : 0 < d) (hd4 : d < 4) : cs n + d ≠ cs k :=
  sn_apart (by omega) (by omega) (by omega) (by omega) d hd hd4
def turnOk (k : Int) : Bool := decide (sn ((k + 512) % 1024) = -sn k) && decide (sn ((1024 - k) % 1024) = -sn k) && decide (cs ((1024 - k) % 1024) = cs k) && decide (absF (addF (mulF (cs k) (cs k)) (mulF (sn k) (sn k)) - 4294967296) < 8)
set_option maxRecDepth 100000 in
theorem turn_check : (List.range 1024).all (fun k => turnOk k) = true := by decide +kernel
theorem turn_facts (k : Int) (h0 : 0 ≤ k) (h1 : k < 1024) : sn ((k + 512) % 1024) = -sn k ∧ sn ((1024 - k) % 1024) = -sn k ∧ cs ((1024 - k) % 1024) = cs k
    ∧ absF (addF (mulF (cs k) (cs k)) (mulF (sn k) (sn k)) - 4294967296) < 8 := by
  have := all_in (p := turnOk) 1024 turn_check k h0 h1
  simpa [turnOk, and_assoc] using this
def quartOk (k : Int) : Bool := decide (sn k < sn (k + 1)) && decide (cs (k + 1) < cs k) && decide (0 ≤ sn k) && decide (0 < cs k)
set_option maxRecDepth 100000 in
theorem quart_check : (List.range 256).all (fun k => quartOk k) = true := by decide +kernel
theorem quart_facts (k : Int) (h0 : 0 ≤ k) (h1 : k < 256) : sn k < sn (k + 1) ∧ cs (k + 1) < cs k ∧ 0 ≤ sn k ∧ 0 < cs k := by
  have := all_in (p := quartOk) 256 quart_check k h0 h1
  simpa [quartOk, and_assoc] using this
theorem cs_quarter (k : Int) : cs ((k + 256) % 1024) = sn ((k + 512) % 1024) := by unfold cs; congr 1; omega
theorem cs_half (k : Int) : cs ((k + 512) % 1024) = sn (((k + 256) % 1024 + 512) % 1024) := by unfold cs; congr 1; omega
/-- is it a rotation of the table -/
def tabledB (c s : Int) (n : Nat) : Bool := (List.range n).any fun k => decide (cs k = c) && decide (sn k = s)
theorem tabledB_succ (c s : Int) (n : Nat) : tabledB c s (n + 1) = (tabledB c s n || (decide (cs n = c) && decide (sn n = s))) := by
  unfold tabledB; rw [List.range_succ, List.any_append]; simp
theorem tabledB_no {c s : Int} {n : Nat} (h : ∀ k : Int, 0 ≤ k → k < n → ¬ (cs k = c ∧ sn k = s)) : tabledB c s n = false := by
  unfold tabledB
  rw [List.any_eq_false]
  intro k hk
  have := h k (by omega) (by have := List.mem_range.1 hk; omega)
  simpa using this
theorem tabledB_yes {n : Nat} (k : Int) (h0 : 0 ≤ k) (h1 : k < n) : tabledB (cs k) (sn k) n = true := by
  unfold tabledB
  rw [List.any_eq_true]
  obtain ⟨m, rfl⟩ := Int.eq_ofNat_of_zero_le h0
  exact ⟨m, List.mem_range.2 (by omega), by simp⟩
theorem tabled_next {n : Int} (hn : 0 ≤ n) (hn1 : n < 1024) : tabledB (cs n) (sn n + 1) 1024 = false :=
  tabledB_no fun k h0 h1 h => sn_apart hn hn1 h0 h1 1 (by omega) (by omega) h.2.symm
theorem tabled_left {n : Int} : tabledB (cs n - 3) (sn n) 1024 = false :=
  tabledB_no fun k h0 h1 h => cs_apart (n := k) (k := n) 3 (by omega) (by omega) (by omega)
end Go.Proofs.Ytggpchclfikneaa.Fx
