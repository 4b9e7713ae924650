/- Plain words for shapes: corners by a function, what a shape must keep. No Go in sight. -/
import Derived.Test.YtekcehhoimhjeaaVecQ
import Derived.Test.YtekcehhoimhjeaaVecM
namespace Go.Proofs.Ytekcehhoimhjeaa.Fx
set_option linter.unusedVariables false

/-- corners: corner i is f i -/
abbrev Cs := Nat → Int × Int
/-- Cross of the way from corner i to corner k and of that from i to j -/
def crossF (f : Cs) (i k j : Nat) : Int :=
  subF (mulF (subF (f k).1 (f i).1) (subF (f j).2 (f i).2)) (mulF (subF (f k).2 (f i).2) (subF (f j).1 (f i).1))
/-- none beyond 64 -/
def NearP (p : Int × Int) : Prop := (-274877906944 ≤ p.1 ∧ p.1 ≤ 274877906944) ∧ (-274877906944 ≤ p.2 ∧ p.2 ≤ 274877906944)
/-- each side has all corners but its own two to its left -/
def CvxP (f : Cs) (n : Nat) : Prop := ∀ i, i < n → ∀ j, j < n → j ≠ i → j ≠ (i + 1) % n → 0 < crossF f i ((i + 1) % n) j
def RightP (K R : Int) (n : Nat) (f : Cs) : Prop :=
  (K = 1 ∧ n = 0 ∧ 16777216 ≤ R ∧ R ≤ 274877906944) ∨ (K = 2 ∧ R = 0 ∧ 3 ≤ n ∧ n ≤ 8 ∧ (∀ i, i < n → NearP (f i)) ∧ CvxP f n)
/-- the same, counted from the side on -/
theorem cvx_on {f : Cs} {n : Nat} (h3 : 3 ≤ n) (h8 : n ≤ 8) : CvxP f n ↔ ∀ i, i < n → ∀ on, 2 ≤ on → on < n → 0 < crossF f i ((i + 1) % n) ((i + on) % n) := by
  constructor
  · intro h i hi on h2 hn
    refine h i hi _ (Nat.mod_lt _ (by omega)) ?_ ?_
    · rcases (show n = 3 ∨ n = 4 ∨ n = 5 ∨ n = 6 ∨ n = 7 ∨ n = 8 by omega) with rfl | rfl | rfl | rfl | rfl | rfl <;> omega
    · rcases (show n = 3 ∨ n = 4 ∨ n = 5 ∨ n = 6 ∨ n = 7 ∨ n = 8 by omega) with rfl | rfl | rfl | rfl | rfl | rfl <;> omega
  · intro h i hi j hj h1 h2
    have e : ∃ on, 2 ≤ on ∧ on < n ∧ (i + on) % n = j := by
      refine ⟨(j + n - i) % n, ?_, Nat.mod_lt _ (by omega), ?_⟩ <;>
      rcases (show n = 3 ∨ n = 4 ∨ n = 5 ∨ n = 6 ∨ n = 7 ∨ n = 8 by omega) with rfl | rfl | rfl | rfl | rfl | rfl <;> omega
    obtain ⟨on, a, b, rfl⟩ := e
    exact h i hi on a b

theorem near_bring {x : Int} (h : I64 x) : bringF x (negF 274877906944) 274877906944 = x ↔ (-274877906944 ≤ x ∧ x ≤ 274877906944) := by
  have e : negF 274877906944 = -274877906944 := by decide
  rw [e]; unfold bringF cl I64 at *
  constructor
  · intro h1; revert h1; (repeat' split) <;> omega
  · intro h1; (repeat' split) <;> omega

/-- how far the corners go -/
def Top (f : Cs) (n : Nat) (r : Int) : Prop := 0 ≤ r ∧ (∀ i, i < n → lenF (f i).1 (f i).2 ≤ r) ∧ (r = 0 ∨ ∃ i, i < n ∧ r = lenF (f i).1 (f i).2)
theorem len_nn (a b : Int) : 0 ≤ lenF a b := (sqrt_bd _).1
theorem top_one {f : Cs} {n : Nat} {r s : Int} (h : Top f n r) (k : Top f n s) : r = s := by
  obtain ⟨a, b, c⟩ := h
  obtain ⟨a', b', c'⟩ := k
  have x : r ≤ s := by
    rcases c with rfl | ⟨i, hi, rfl⟩
    · exact a'
    · exact b' i hi
  have y : s ≤ r := by
    rcases c' with rfl | ⟨i, hi, rfl⟩
    · exact a
    · exact b i hi
  omega
theorem top_nil (f : Cs) : Top f 0 0 := ⟨by omega, fun i hi => absurd hi (by omega), .inl rfl⟩
theorem top_next {f : Cs} {n : Nat} {r : Int} (h : Top f n r) : Top f (n + 1) (max r (lenF (f n).1 (f n).2)) := by
  obtain ⟨a, b, c⟩ := h
  have l := len_nn (f n).1 (f n).2
  refine ⟨by omega, fun i hi => ?_, ?_⟩
  · rcases (show i < n ∨ i = n by omega) with h | rfl
    · have := b i h; omega
    · omega
  · rcases (show r ≤ lenF (f n).1 (f n).2 ∨ lenF (f n).1 (f n).2 < r by omega) with h | h
    · exact .inr ⟨n, by omega, by omega⟩
    · rcases c with rfl | ⟨i, hi, e⟩
      · omega
      · exact .inr ⟨i, by omega, by omega⟩
theorem top_has (f : Cs) : ∀ n, ∃ r, Top f n r
  | 0 => ⟨0, top_nil f⟩
  | n + 1 => by obtain ⟨r, h⟩ := top_has f n; exact ⟨_, top_next h⟩
/-- corners in another order go as far -/
theorem top_same {f g : Cs} {n : Nat} {r : Int} (h : Top f n r) (p : ∀ i, i < n → ∃ j, j < n ∧ g i = f j) (q : ∀ i, i < n → ∃ j, j < n ∧ f i = g j) : Top g n r := by
  obtain ⟨a, b, c⟩ := h
  refine ⟨a, fun i hi => ?_, ?_⟩
  · obtain ⟨j, hj, e⟩ := p i hi
    rw [e]; exact b j hj
  · rcases c with c | ⟨i, hi, e⟩
    · exact .inl c
    · obtain ⟨j, hj, e'⟩ := q i hi
      exact .inr ⟨j, hj, by rw [← e']; exact e⟩
theorem top_i64 {f : Cs} {n : Nat} {r : Int} (h : Top f n r) : I64 r := by
  obtain ⟨a, b, c⟩ := h
  rcases c with c | ⟨i, _, e⟩
  · subst c; unfold I64; omega
  · rw [e]; have := sqrt_bd (addF (mulF (f i).1 (f i).1) (mulF (f i).2 (f i).2)); unfold I64 lenF; omega

end Go.Proofs.Ytekcehhoimhjeaa.Fx
