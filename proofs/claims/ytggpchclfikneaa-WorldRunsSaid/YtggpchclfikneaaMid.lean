/- The middle lies between corners of a shape: so some corner is on either side of each line through it. No Go in sight. -/
import Derived.Test.YtggpchclfikneaaPlain
namespace Go.Proofs.Ytggpchclfikneaa.Fx
set_option linter.unusedVariables false

/-- weights of three corners that have the middle between them -/
def Mid (x y : Nat → Int) (n : Nat) : Prop := ∃ (i j l : Nat) (a b c : Int), i < n ∧ j < n ∧ l < n ∧ 0 ≤ a ∧ 0 ≤ b ∧ 0 ≤ c ∧ 0 < a + b + c ∧ a * x i + b * x j + c * x l = 0 ∧ a * y i + b * y j + c * y l = 0
theorem mid_low {x y : Nat → Int} {n : Nat} (h : Mid x y n) (C S : Int) : ∃ i, i < n ∧ C * x i + S * y i ≤ 0 := by
  obtain ⟨i, j, l, a, b, c, hi, hj, hl, a0, b0, c0, hs, hx, hy⟩ := h
  have e : a * (C * x i + S * y i) + b * (C * x j + S * y j) + c * (C * x l + S * y l) = 0 := by
    have e1 : ∀ w p q : Int, w * (C * p + S * q) = C * (w * p) + S * (w * q) := fun w p q => by rw [Int.mul_add, Int.mul_left_comm w C, Int.mul_left_comm w S]
    rw [e1, e1, e1]
    have e2 : C * (a * x i + b * x j + c * x l) = 0 := by rw [hx, Int.mul_zero]
    have e3 : S * (a * y i + b * y j + c * y l) = 0 := by rw [hy, Int.mul_zero]
    rw [Int.mul_add, Int.mul_add] at e2 e3
    omega
  generalize hP : C * x i + S * y i = P at *
  generalize hQ : C * x j + S * y j = Q at *
  generalize hR : C * x l + S * y l = R at *
  by_cases p : P ≤ 0
  · exact ⟨i, hi, by rw [hP]; exact p⟩
  by_cases q : Q ≤ 0
  · exact ⟨j, hj, by rw [hQ]; exact q⟩
  by_cases r : R ≤ 0
  · exact ⟨l, hl, by rw [hR]; exact r⟩
  have p1 := Int.mul_le_mul_of_nonneg_left (show 1 ≤ P by omega) a0
  have q1 := Int.mul_le_mul_of_nonneg_left (show 1 ≤ Q by omega) b0
  have r1 := Int.mul_le_mul_of_nonneg_left (show 1 ≤ R by omega) c0
  omega
theorem mid_high {x y : Nat → Int} {n : Nat} (h : Mid x y n) (C S : Int) : ∃ i, i < n ∧ 0 ≤ C * x i + S * y i := by
  obtain ⟨i, hi, hl⟩ := mid_low h (-C) (-S)
  refine ⟨i, hi, ?_⟩
  rw [Int.neg_mul, Int.neg_mul] at hl
  omega
theorem box_mid (a b : Int) : Mid (boxX a) (boxY b) 4 :=
  ⟨0, 2, 2, 1, 1, 0, by omega, by omega, by omega, by omega, by omega, by omega, by omega, by unfold boxX; simp; omega, by unfold boxY; simp; omega⟩
def midOk (n t : Nat) : Bool := (List.range n).any fun i => (List.range n).any fun j => (List.range n).any fun l =>
  let a := ringX n t j * ringY n t l - ringY n t j * ringX n t l
  let b := ringX n t l * ringY n t i - ringY n t l * ringX n t i
  let c := ringX n t i * ringY n t j - ringY n t i * ringX n t j
  decide (0 ≤ a) && decide (0 ≤ b) && decide (0 ≤ c) && decide (0 < a + b + c) && decide (a * ringX n t i + b * ringX n t j + c * ringX n t l = 0) && decide (a * ringY n t i + b * ringY n t j + c * ringY n t l = 0)
set_option maxRecDepth 100000 in
theorem mid_check : (List.range 6).all (fun n => (List.range 10).all fun t => midOk (3 + n) t) = true := by decide +kernel
theorem ring_mid {n : Nat} (t : Nat) (n0 : 3 ≤ n) (n1 : n ≤ 8) : Mid (ringX n t) (ringY n t) n := by
  have h := mid_check
  rw [List.all_eq_true] at h
  have h1 := h (n - 3) (List.mem_range.2 (by omega))
  rw [List.all_eq_true] at h1
  have h2 := h1 (t % 10) (List.mem_range.2 (Nat.mod_lt _ (by omega)))
  rw [show 3 + (n - 3) = n by omega] at h2
  rw [(ring_mod n t).1, (ring_mod n t).2]
  unfold midOk at h2
  simp only [List.any_eq_true, List.mem_range, Bool.and_eq_true, decide_eq_true_eq] at h2
  obtain ⟨i, hi, j, hj, l, hl, ⟨⟨⟨⟨h3, h4⟩, h5⟩, h6⟩, h7⟩, h8⟩ := h2
  exact ⟨i, j, l, _, _, _, hi, hj, hl, h3, h4, h5, h6, h7, h8⟩
/-- a number without its sign -/
def ab (z : Int) : Int := if z < 0 then -z else z
/-- no corner is too sharp or too flat -/
def Fat (x y : Nat → Int) (n : Nat) : Prop := ∀ i, i < n →
  (ab (x ((i + 1) % n) - x i) + ab (y ((i + 1) % n) - y i)) * (ab (x ((i + 2) % n) - x ((i + 1) % n)) + ab (y ((i + 2) % n) - y ((i + 1) % n))) ≤
  4 * ((x ((i + 1) % n) - x i) * (y ((i + 2) % n) - y ((i + 1) % n)) - (y ((i + 1) % n) - y i) * (x ((i + 2) % n) - x ((i + 1) % n)))
theorem box_fat {a b : Int} (a0 : 1 ≤ a) (b0 : 1 ≤ b) : Fat (boxX a) (boxY b) 4 := fun i hi => by
  have p := Int.mul_pos (show 0 < a by omega) (show 0 < b by omega)
  have h1 : ab (a - -a) = 2 * a := by unfold ab; split <;> omega
  have h2 : ab (b - -b) = 2 * b := by unfold ab; split <;> omega
  have h3 : ab (-a - a) = 2 * a := by unfold ab; split <;> omega
  have h4 : ab (-b - b) = 2 * b := by unfold ab; split <;> omega
  have z : ab 0 = 0 := rfl
  rcases (show i = 0 ∨ i = 1 ∨ i = 2 ∨ i = 3 by omega) with rfl | rfl | rfl | rfl <;>
    (simp only [boxX, boxY, true_or, or_true, if_true, if_false, Nat.reduceAdd, Nat.reduceMod, Nat.reduceEqDiff, or_self, Int.sub_self, h1, h2, h3, h4, z]; grind)
def fatOk (n t : Nat) : Bool := (List.range n).all fun i => decide (
  (ab (ringX n t ((i + 1) % n) - ringX n t i) + ab (ringY n t ((i + 1) % n) - ringY n t i)) * (ab (ringX n t ((i + 2) % n) - ringX n t ((i + 1) % n)) + ab (ringY n t ((i + 2) % n) - ringY n t ((i + 1) % n))) ≤
  4 * ((ringX n t ((i + 1) % n) - ringX n t i) * (ringY n t ((i + 2) % n) - ringY n t ((i + 1) % n)) - (ringY n t ((i + 1) % n) - ringY n t i) * (ringX n t ((i + 2) % n) - ringX n t ((i + 1) % n))))
theorem fat_check : (List.range 6).all (fun n => (List.range 10).all fun t => fatOk (3 + n) t) = true := by decide +kernel
theorem ring_fat {n : Nat} (t : Nat) (n0 : 3 ≤ n) (n1 : n ≤ 8) : Fat (ringX n t) (ringY n t) n := fun i hi => by
  have h := fat_check
  rw [List.all_eq_true] at h
  have h1 := h (n - 3) (List.mem_range.2 (by omega))
  rw [List.all_eq_true] at h1
  have h2 := h1 (t % 10) (List.mem_range.2 (Nat.mod_lt _ (by omega)))
  rw [show 3 + (n - 3) = n by omega] at h2
  unfold fatOk at h2
  rw [List.all_eq_true] at h2
  rw [(ring_mod n t).1, (ring_mod n t).2]
  have h3 := h2 i (List.mem_range.2 hi)
  exact of_decide_eq_true h3
/-- round the middle, and fat -/
def Around (x y : Nat → Int) (n : Nat) : Prop := Round x y n ∧ Mid x y n ∧ Fat x y n
end Go.Proofs.Ytggpchclfikneaa.Fx
