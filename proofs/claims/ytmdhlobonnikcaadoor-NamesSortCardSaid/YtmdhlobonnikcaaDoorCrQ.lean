/- Checksums, plainly: the division of polynomials, bits inverted, bits counted, bytes as strings. No Go. -/
import Derived.Test.YtmdhlobonnikcaaDoorCrP
namespace Go.Proofs.YtmdhlobonnikcaaDoor.Fx
set_option linter.unusedVariables false
/-! ### the division -/
def pw : List Nat := [32, 26, 23, 22, 16, 12, 11, 10, 8, 7, 5, 4, 2, 1, 0]
theorem pw_le (m : Nat) : pw.getD m 0 ≤ 32 := by
  by_cases h : m < 15
  · exact (show ∀ m, m < 15 → pw.getD m 0 ≤ 32 by decide) m h
  · rw [List.getD_eq_getElem?_getD, List.getElem?_eq_none (by simp [pw]; omega)]; decide
def flips (B : Nat → Bool) (i : Nat) : Nat → Nat → Bool
  | 0, k => B k
  | m + 1, k => if k = i + 32 - pw.getD m 0 then !(flips B i m k) else flips B i m k
def fl : Nat → Nat → Bool
  | 0, j => false
  | m + 1, j => if j = 32 - pw.getD m 0 then !(fl m j) else fl m j
theorem flips_at (B : Nat → Bool) (i m j : Nat) : flips B i m (i + j) = (B (i + j) ^^ fl m j) := by
  induction m with
  | zero => simp [flips, fl]
  | succ m ih =>
    have h := pw_le m
    simp only [flips, fl]
    by_cases hj : j = 32 - pw.getD m 0
    · rw [if_pos (by omega), if_pos hj, ih]
      cases B (i + j) <;> cases fl m j <;> rfl
    · rw [if_neg (by omega), if_neg hj, ih]
theorem fl_far (m j : Nat) (h : 32 < j) : fl m j = false := by
  induction m with
  | zero => rfl
  | succ m ih => simp only [fl]; rw [if_neg (by omega), ih]
theorem fl_poly : ∀ j, j < 32 → fl 15 (j + 1) = poly.testBit j := by decide
def divB (B : Nat → Bool) : Nat → Nat → Bool
  | 0 => B
  | i + 1 => if divB B i i = true then flips (divB B i) i 15 else divB B i
def dataB (f : Nat → Nat) (n k : Nat) : Bool := decide (k < 8 * n) && bitOf f k
def startB (f : Nat → Nat) (n k : Nat) : Bool := dataB f n k ^^ decide (k < 32)
theorem ones_bit (j : Nat) : ones.testBit j = decide (j < 32) := by
  show (2 ^ 32 - 1).testBit j = _
  exact Nat.testBit_two_pow_sub_one 32 j
theorem high_bit {x j : Nat} (h : x < 4294967296) (hj : 32 ≤ j) : x.testBit j = false := Nat.testBit_lt_two_pow (Nat.lt_of_lt_of_le (show x < 2 ^ 32 from h) (Nat.pow_le_pow_right (by omega) hj))
theorem div_inv (f : Nat → Nat) (n i : Nat) (hi : i ≤ 8 * n) :
    (∀ j, j < 32 → divB (startB f n) i (i + j) = (dataB f n (i + j) ^^ (breg (bitOf f) ones i).testBit j)) ∧ (∀ k, i + 32 ≤ k → divB (startB f n) i k = dataB f n k) := by
  induction i with
  | zero =>
    refine ⟨fun j hj => ?_, fun k hk => ?_⟩
    · show startB f n (0 + j) = _
      unfold startB
      show _ = (_ ^^ ones.testBit j)
      rw [ones_bit, Nat.zero_add]
    · show startB f n k = _
      unfold startB
      rw [decide_eq_false (by omega)]; cases dataB f n k <;> rfl
  | succ i ih =>
    obtain ⟨h1, h2⟩ := ih (by omega)
    have hd : dataB f n i = bitOf f i := by unfold dataB; rw [decide_eq_true (by omega)]; rfl
    have h0 := h1 0 (by omega)
    rw [Nat.add_zero, hd] at h0
    have hR := breg_lt (b := bitOf f) ones_lt i
    generalize hRR : breg (bitOf f) ones i = R at *
    have hS : breg (bitOf f) ones (i + 1) = step (R ^^^ (bitOf f i).toNat) := by rw [← hRR]; rfl
    have hodd : (R ^^^ (bitOf f i).toNat) % 2 = (bitOf f i ^^ R.testBit 0).toNat := by
      rw [xor_odd, show R % 2 = (R.testBit 0).toNat by rw [Nat.toNat_testBit]; simp]
      cases bitOf f i <;> cases R.testBit 0 <;> rfl
    have hhi : ∀ j, (R ^^^ (bitOf f i).toNat).testBit (j + 1) = R.testBit (j + 1) := fun j => by
      rw [Nat.testBit_xor]
      have : (bitOf f i).toNat.testBit (j + 1) = false := by
        cases bitOf f i
        · simp
        · exact Nat.testBit_lt_two_pow (Nat.lt_of_lt_of_le (by decide : (1 : Nat) < 2 ^ 1) (Nat.pow_le_pow_right (by omega) (by omega)))
      rw [this]; cases R.testBit (j + 1) <;> rfl
    have hbit : ∀ j, (breg (bitOf f) ones (i + 1)).testBit j = (R.testBit (j + 1) ^^ ((bitOf f i ^^ R.testBit 0) && poly.testBit j)) := fun j => by
      rw [hS]
      unfold step
      rw [hodd, Nat.testBit_xor, ← Nat.pow_one 2, Nat.testBit_div_two_pow, hhi]
      cases (bitOf f i ^^ R.testBit 0) <;> simp
    have hv : ∀ j, divB (startB f n) (i + 1) (i + j) = (divB (startB f n) i (i + j) ^^ ((bitOf f i ^^ R.testBit 0) && fl 15 j)) := fun j => by
      show (if divB (startB f n) i i = true then flips (divB (startB f n) i) i 15 else divB (startB f n) i) (i + j) = _
      rw [h0]
      by_cases ht : (bitOf f i ^^ R.testBit 0) = true
      · rw [if_pos ht, flips_at, ht]; rfl
      · rw [if_neg ht, Bool.eq_false_iff.2 ht]
        cases divB (startB f n) i (i + j) <;> rfl
    refine ⟨fun j hj => ?_, fun k hk => ?_⟩
    · rw [show i + 1 + j = i + (j + 1) by omega, hv, hbit, fl_poly j hj]
      by_cases hj2 : j + 1 < 32
      · rw [h1 (j + 1) hj2]
        cases dataB f n (i + (j + 1)) <;> cases R.testBit (j + 1) <;> cases (bitOf f i ^^ R.testBit 0) <;> cases poly.testBit j <;> rfl
      · rw [h2 (i + (j + 1)) (by omega), high_bit (j := j + 1) hR (by omega)]
        cases dataB f n (i + (j + 1)) <;> cases (bitOf f i ^^ R.testBit 0) <;> cases poly.testBit j <;> rfl
    · obtain ⟨j, rfl⟩ : ∃ j, k = i + j := ⟨k - i, by omega⟩
      rw [hv, h2 _ (by omega), fl_far 15 j (by omega)]
      cases dataB f n (i + j) <;> cases (bitOf f i ^^ R.testBit 0) <;> rfl
def outB (B : Nat → Bool) : Nat → Nat
  | 0 => 0
  | m + 1 => outB B m ||| ((!B m).toNat <<< m)
theorem one_shift (b : Bool) (m k : Nat) : (b.toNat <<< m).testBit k = (decide (k = m) && b) := by
  rw [Nat.testBit_shiftLeft]
  by_cases h : k = m
  · subst h; cases b <;> simp
  · by_cases h2 : m ≤ k
    · have : b.toNat.testBit (k - m) = false := by
        cases b
        · simp
        · exact Nat.testBit_lt_two_pow (Nat.lt_of_lt_of_le (by decide : (1 : Nat) < 2 ^ 1) (Nat.pow_le_pow_right (by omega) (by omega)))
      simp [h, this]
    · simp [h, h2]
theorem out_bit (B : Nat → Bool) (m k : Nat) : (outB B m).testBit k = (decide (k < m) && !B k) := by
  induction m with
  | zero => simp [outB]
  | succ m ih =>
    show (outB B m ||| ((!B m).toNat <<< m)).testBit k = _
    rw [Nat.testBit_or, ih, one_shift]
    by_cases h : k = m
    · subst h; simp
    · by_cases h2 : k < m
      · simp [h, h2, show k < m + 1 by omega]
      · simp [h, h2, show ¬ k < m + 1 by omega]
theorem out_lt (B : Nat → Bool) (m : Nat) : outB B m < 2 ^ m := lt_of_bits fun i hi => by rw [out_bit, decide_eq_false (by omega)]; rfl
/-- the division's rest is the checksum -/
theorem div_sum {f : Nat → Nat} (hf : ∀ i, f i < 256) (n : Nat) : outB (fun j => divB (startB f n) (8 * n) (8 * n + j)) 32 = sumB f n := by
  have h := (div_inv f n (8 * n) (Nat.le_refl _)).1
  have hR := breg_lt (b := bitOf f) ones_lt (8 * n)
  unfold sumB
  rw [reg_bits hf]
  apply Nat.eq_of_testBit_eq
  intro k
  rw [out_bit, Nat.testBit_xor, ones_bit]
  by_cases hk : k < 32
  · rw [decide_eq_true hk, h k hk]
    have : dataB f n (8 * n + k) = false := by unfold dataB; rw [decide_eq_false (by omega)]; rfl
    rw [this]
    cases (breg (bitOf f) ones (8 * n)).testBit k <;> rfl
  · rw [decide_eq_false hk, high_bit hR (by omega)]; rfl
def addB (s : Nat) (f : Nat → Nat) (n : Nat) : Nat := reg f (s ^^^ ones) n ^^^ ones
theorem add_zero_sum (f : Nat → Nat) (n : Nat) : addB 0 f n = sumB f n := by unfold addB sumB; rw [Nat.zero_xor]
def joinB (f g : Nat → Nat) (n i : Nat) : Nat := if i < n then f i else g (i - n)
theorem joinB_lt {f g : Nat → Nat} (hf : ∀ i, f i < 256) (hg : ∀ i, g i < 256) (n i : Nat) : joinB f g n i < 256 := by unfold joinB; split; exact hf i; exact hg _
theorem add_join (f g : Nat → Nat) (n m : Nat) : addB (sumB f n) g m = sumB (joinB f g n) (n + m) := by
  unfold addB sumB
  rw [Nat.xor_assoc, Nat.xor_self, Nat.xor_zero, reg_more, reg_congr (f := joinB f g n) (g := f) fun i hi => by unfold joinB; rw [if_pos hi]]
  rw [reg_congr (f := fun i => joinB f g n (n + i)) (g := g) fun i hi => by
    show joinB f g n (n + i) = _
    unfold joinB; rw [if_neg (by omega), Nat.add_sub_cancel_left]]

/-! ### bits inverted -/
def bendE (at_ : Int) (mask m k : Nat) : Bool := decide (at_ ≤ k ∧ (k : Int) < at_ + m) && mask.testBit ((k : Int) - at_).toNat
def bendB (f : Nat → Nat) (at_ : Int) (mask : Nat) : Nat → Nat → Nat
  | 0, j => f j
  | i + 1, j => if mask.testBit i = true ∧ (8 * j : Int) ≤ at_ + i ∧ at_ + i < 8 * j + 8 then bendB f at_ mask i j ^^^ 2 ^ (at_ + i - 8 * j).toNat else bendB f at_ mask i j
theorem bendB_lt {f : Nat → Nat} (hf : ∀ i, f i < 256) (at_ : Int) (mask m j : Nat) : bendB f at_ mask m j < 256 := by
  induction m with
  | zero => exact hf j
  | succ m ih =>
    simp only [bendB]
    split
    · exact Nat.xor_lt_two_pow (n := 8) ih (Nat.pow_lt_pow_right (by omega) (by omega))
    · exact ih
theorem bend_bit (f : Nat → Nat) (at_ : Int) (mask m j t : Nat) (ht : t < 8) : (bendB f at_ mask m j).testBit t = ((f j).testBit t ^^ bendE at_ mask m (8 * j + t)) := by
  induction m with
  | zero =>
    have : bendE at_ mask 0 (8 * j + t) = false := by unfold bendE; rw [decide_eq_false (by omega)]; rfl
    rw [this]; simp [bendB]
  | succ m ih =>
    simp only [bendB]
    by_cases hk : at_ + m = ((8 * j + t : Nat) : Int)
    · have e1 : bendE at_ mask m (8 * j + t) = false := by unfold bendE; rw [decide_eq_false (by omega)]; rfl
      have e2 : bendE at_ mask (m + 1) (8 * j + t) = mask.testBit m := by
        unfold bendE; rw [decide_eq_true (by omega), show (((8 * j + t : Nat) : Int) - at_).toNat = m by omega]; rfl
      rw [e1] at ih
      rw [e2]
      by_cases hm : mask.testBit m = true
      · rw [if_pos ⟨hm, by omega, by omega⟩, Nat.testBit_xor, ih, show (at_ + m - 8 * j).toNat = t by omega, Nat.testBit_two_pow_self, hm]
        cases (f j).testBit t <;> rfl
      · rw [if_neg fun h => hm h.1, ih, Bool.eq_false_iff.2 hm]
    · have e1 : bendE at_ mask (m + 1) (8 * j + t) = bendE at_ mask m (8 * j + t) := by
        unfold bendE
        by_cases h : at_ ≤ ((8 * j + t : Nat) : Int) ∧ ((8 * j + t : Nat) : Int) < at_ + m
        · rw [decide_eq_true h, decide_eq_true (by omega)]
        · rw [decide_eq_false h, decide_eq_false (by omega)]
      rw [e1]
      split
      · rename_i h
        rw [Nat.testBit_xor, ih, Nat.testBit_two_pow_of_ne (by omega)]
        cases (f j).testBit t <;> cases bendE at_ mask m (8 * j + t) <;> rfl
      · exact ih
theorem bend_bits (f : Nat → Nat) (at_ : Int) (mask k : Nat) : bitOf (bendB f at_ mask 32) k = (bitOf f k ^^ bendE at_ mask 32 k) := by
  unfold bitOf
  rw [bend_bit f at_ mask 32 _ _ (Nat.mod_lt _ (by omega)), show 8 * (k / 8) + k % 8 = k by omega]
theorem bend_twice {f : Nat → Nat} (hf : ∀ i, f i < 256) (at_ : Int) (mask j : Nat) : bendB (bendB f at_ mask 32) at_ mask 32 j = f j := by
  refine byte_ext (bendB_lt (bendB_lt hf _ _ _) _ _ _ _) (hf j) fun t ht => ?_
  rw [bend_bit _ _ _ _ _ _ ht, bend_bit _ _ _ _ _ _ ht]
  cases (f j).testBit t <;> cases bendE at_ mask 32 (8 * j + t) <;> rfl
theorem bendE_nat (a mask k : Nat) (hm : mask < 4294967296) : bendE (a : Int) mask 32 k = (decide (a ≤ k) && mask.testBit (k - a)) := by
  unfold bendE
  by_cases h : a ≤ k
  · rw [show ((k : Int) - (a : Int)).toNat = k - a by omega]
    by_cases h2 : k < a + 32
    · rw [decide_eq_true (by omega), decide_eq_true h]
    · rw [decide_eq_false (by omega), decide_eq_true h, high_bit hm (by omega)]; rfl
  · rw [decide_eq_false (by omega), decide_eq_false h]; rfl
/-- what was sealed and bent is opened just if nothing turned -/
theorem bent_good {f : Nat → Nat} (hf : ∀ i, f i < 256) (n a mask : Nat) (hm : mask < 4294967296) (ha : a ≤ 8 * (n + 4)) :
    (sumB (bendB (sealB f n) (a : Int) mask 32) n = word (fun i => bendB (sealB f n) (a : Int) mask 32 (n + i)) 4) ↔ ∀ i, i < n + 4 → bendB (sealB f n) (a : Int) mask 32 i = sealB f n i := by
  rw [good_iff (bendB_lt (sealB_lt hf n) _ _ _), ← seal_good hf n]
  exact reg_apart (sealB_lt hf n) (bendB_lt (sealB_lt hf n) _ _ _) hm ha fun i => by rw [bend_bits, bendE_nat a mask i hm]
/-! ### four bytes in a row -/
def apartB (f : Nat → Nat) (k : Nat) (x : Nat → Nat) (m i : Nat) : Nat := if k ≤ i ∧ i < k + m then f i ^^^ x (i - k) else f i
theorem apartB_lt {f x : Nat → Nat} (hf : ∀ i, f i < 256) (hx : ∀ i, x i < 256) (k m i : Nat) : apartB f k x m i < 256 := by
  unfold apartB
  split
  · exact Nat.xor_lt_two_pow (n := 8) (hf i) (hx _)
  · exact hf i
theorem apart_sums {f x : Nat → Nat} (hf : ∀ i, f i < 256) (hx : ∀ i, x i < 256) (n k : Nat) (hk : k ≤ n) : sumB (apartB f k x 4) n = sumB f n ↔ ∀ i, i < n → apartB f k x 4 i = f i := by
  have e : sumB (apartB f k x 4) n = sumB f n ↔ reg (apartB f k x 4) ones n = reg f ones n := by
    unfold sumB
    constructor
    · intro h
      have := congrArg (fun y => y ^^^ ones) h
      simpa only [Nat.xor_assoc, Nat.xor_self, Nat.xor_zero] using this
    · intro h; rw [h]
  rw [e]
  refine reg_apart (at_ := 8 * k) (m := word x 4) hf (apartB_lt hf hx k 4) (word_lt hx 4) (by omega) fun i => ?_
  rw [word_bit hx]
  unfold bitOf apartB
  by_cases h : k ≤ i / 8 ∧ i / 8 < k + 4
  · rw [if_pos h, Nat.testBit_xor, decide_eq_true (show 8 * k ≤ i by omega), decide_eq_true (show i - 8 * k < 8 * 4 by omega), show i / 8 - k = (i - 8 * k) / 8 by omega, show (i - 8 * k) % 8 = i % 8 by omega]; rfl
  · rw [if_neg h]
    by_cases h2 : 8 * k ≤ i
    · rw [decide_eq_true h2, decide_eq_false (show ¬ i - 8 * k < 8 * 4 by omega)]
      cases (f (i / 8)).testBit (i % 8) <;> rfl
    · rw [decide_eq_false h2]
      cases (f (i / 8)).testBit (i % 8) <;> rfl

/-! ### bits counted -/
def cnt (d : Nat → Bool) : Nat → Nat
  | 0 => 0
  | n + 1 => cnt d n + (d n).toNat
theorem cnt_congr {c d : Nat → Bool} {n : Nat} (h : ∀ i, i < n → c i = d i) : cnt c n = cnt d n := by
  induction n with
  | zero => rfl
  | succ n ih => simp only [cnt]; rw [ih fun i hi => h i (by omega), h n (by omega)]
theorem cnt_nil {d : Nat → Bool} {n : Nat} (h : ∀ i, i < n → d i = false) : cnt d n = 0 := by
  induction n with
  | zero => rfl
  | succ n ih => simp only [cnt]; rw [ih fun i hi => h i (by omega), h n (by omega)]; rfl
theorem cnt_le (d : Nat → Bool) (n : Nat) : cnt d n ≤ n := by
  induction n with
  | zero => exact Nat.le_refl _
  | succ n ih => simp only [cnt]; have : (d n).toNat ≤ 1 := by cases d n <;> decide
                 omega
theorem cnt_more (d : Nat → Bool) (m n : Nat) : cnt d (m + n) = cnt d m + cnt (fun i => d (m + i)) n := by
  induction n with
  | zero => rfl
  | succ n ih => show cnt d (m + n) + (d (m + n)).toNat = cnt d m + (cnt (fun i => d (m + i)) n + (d (m + n)).toNat); rw [ih]; omega
theorem cnt_one {c d : Nat → Bool} {n k : Nat} (hk : k < n) (h0 : d k = false) (h : ∀ i, i ≠ k → c i = d i) : cnt c n = cnt d n + (c k).toNat := by
  induction n with
  | zero => omega
  | succ n ih =>
    simp only [cnt]
    by_cases e : k = n
    · subst e
      rw [cnt_congr (d := d) fun i hi => h i (by omega), h0]; rfl
    · rw [ih (by omega), h n (by omega)]; omega
theorem cnt_bend (at_ : Int) (mask N : Nat) : cnt (bendE at_ mask 32) N = cnt (fun k => decide (0 ≤ at_ + k ∧ at_ + k < N) && mask.testBit k) 32 := by
  induction N with
  | zero =>
    rw [cnt_nil (n := 32) fun i hi => by rw [decide_eq_false (by omega)]; rfl]; rfl
  | succ N ih =>
    show cnt (bendE at_ mask 32) N + (bendE at_ mask 32 N).toNat = _
    rw [ih]
    by_cases h : at_ ≤ N ∧ (N : Int) < at_ + 32
    · rw [cnt_one (c := fun k => decide (0 ≤ at_ + k ∧ at_ + k < ((N + 1 : Nat) : Int)) && mask.testBit k) (d := fun k => decide (0 ≤ at_ + k ∧ at_ + k < (N : Int)) && mask.testBit k) (k := ((N : Int) - at_).toNat) (by omega)]
      · congr 2
        unfold bendE
        show _ = (decide (0 ≤ at_ + (((N : Int) - at_).toNat : Int) ∧ at_ + (((N : Int) - at_).toNat : Int) < ((N + 1 : Nat) : Int)) && mask.testBit ((N : Int) - at_).toNat)
        rw [decide_eq_true (by omega), decide_eq_true (by omega)]
      · rw [decide_eq_false (by omega)]; rfl
      · intro i hi
        by_cases h2 : 0 ≤ at_ + i ∧ at_ + i < (N : Int)
        · rw [decide_eq_true h2, decide_eq_true (by omega)]
        · rw [decide_eq_false h2, decide_eq_false (by omega)]
    · have : bendE at_ mask 32 N = false := by unfold bendE; rw [decide_eq_false (by omega)]; rfl
      rw [this]
      refine (cnt_congr fun i hi => ?_)
      by_cases h2 : 0 ≤ at_ + i ∧ at_ + i < (N : Int)
      · rw [decide_eq_true h2, decide_eq_true (by omega)]
      · rw [decide_eq_false h2, decide_eq_false (by omega)]
/-- the bits by which n bytes part -/
def part8 (f g : Nat → Nat) : Nat → Nat
  | 0 => 0
  | n + 1 => part8 f g n + cnt (fun t => (f n ^^^ g n).testBit t) 8
theorem part8_cnt (f g : Nat → Nat) (n : Nat) : part8 f g n = cnt (fun k => bitOf f k ^^ bitOf g k) (8 * n) := by
  induction n with
  | zero => rfl
  | succ n ih =>
    rw [show 8 * (n + 1) = 8 * n + 8 by omega, cnt_more, ← ih]
    show part8 f g n + _ = _
    congr 1
    refine cnt_congr fun t ht => ?_
    show _ = (bitOf f (8 * n + t) ^^ bitOf g (8 * n + t))
    unfold bitOf
    rw [Nat.testBit_xor, show (8 * n + t) / 8 = n by omega, show (8 * n + t) % 8 = t by omega]
theorem part8_bend (f : Nat → Nat) (at_ : Int) (mask n : Nat) : part8 f (bendB f at_ mask 32) n = cnt (fun k => decide (0 ≤ at_ + k ∧ at_ + k < ((8 * n : Nat) : Int)) && mask.testBit k) 32 := by
  rw [part8_cnt, ← cnt_bend]
  refine cnt_congr fun i hi => ?_
  rw [bend_bits]
  cases bitOf f i <;> cases bendE at_ mask 32 i <;> rfl
theorem cnt_stop {x t : Nat} (hx : x < 256) (ht : t ≤ 8) (h : x / 2 ^ t = 0) : cnt (fun s => x.testBit s) 8 = cnt (fun s => x.testBit s) t := by
  obtain ⟨k, hk⟩ : ∃ k, 8 = t + k := ⟨8 - t, by omega⟩
  rw [hk, cnt_more, cnt_nil (n := k) fun i _ => ?_]
  · rfl
  · have hl : x < 2 ^ t := by
      rcases Nat.lt_or_ge x (2 ^ t) with h1 | h1
      · exact h1
      · have := Nat.div_pos h1 (Nat.two_pow_pos t); omega
    exact Nat.testBit_lt_two_pow (Nat.lt_of_lt_of_le hl (Nat.pow_le_pow_right (by omega) (by omega)))

/-! ### bytes as a string -/
def strB (f : Nat → Nat) (n : Nat) : ByteArray := ((List.range n).map fun i => ((f i : Nat) : Int)).foldl (fun r k => r.push (UInt8.ofNat k.toNat)) ByteArray.empty
theorem strB_next (f : Nat → Nat) (n : Nat) : strB f (n + 1) = (strB f n).push (UInt8.ofNat (f n)) := by
  unfold strB
  rw [List.range_succ, List.map_append, List.foldl_append]
  rfl
theorem strB_size (f : Nat → Nat) (n : Nat) : (strB f n).size = n := by
  induction n with
  | zero => rfl
  | succ n ih => rw [strB_next, ByteArray.size_push, ih]
theorem push_inj {a b : ByteArray} {x y : UInt8} (h : a.push x = b.push y) : a = b ∧ x = y := by
  cases a with | mk a => cases b with | mk b =>
  have h' : a.push x = b.push y := congrArg ByteArray.data h
  obtain ⟨h1, h2⟩ := Array.push_eq_push.1 h'
  exact ⟨by rw [h2], h1⟩
theorem strB_ext {f g : Nat → Nat} (hf : ∀ i, f i < 256) (hg : ∀ i, g i < 256) (n : Nat) : strB f n = strB g n ↔ ∀ i, i < n → f i = g i := by
  induction n with
  | zero => exact ⟨fun _ i hi => absurd hi (by omega), fun _ => rfl⟩
  | succ n ih =>
    rw [strB_next, strB_next]
    constructor
    · intro h i hi
      obtain ⟨h1, h2⟩ := push_inj h
      by_cases e : i = n
      · subst e
        have := congrArg UInt8.toNat h2
        rw [UInt8.toNat_ofNat', UInt8.toNat_ofNat'] at this
        have a := hf i; have b := hg i
        omega
      · exact ih.1 h1 i (by omega)
    · intro h
      rw [ih.2 fun i hi => h i (by omega), h n (by omega)]
theorem strB_len {f g : Nat → Nat} {n m : Nat} (h : strB f n = strB g m) : n = m := by rw [← strB_size f n, h, strB_size]
end Go.Proofs.YtmdhlobonnikcaaDoor.Fx
