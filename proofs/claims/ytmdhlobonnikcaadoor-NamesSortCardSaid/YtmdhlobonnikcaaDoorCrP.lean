/- Checksums, plainly: the register, its steps, streams of bits. No Go. -/
namespace Go.Proofs.YtmdhlobonnikcaaDoor.Fx
set_option linter.unusedVariables false
def poly : Nat := 3988292384
def ones : Nat := 4294967295
def step (r : Nat) : Nat := (r / 2) ^^^ (if r % 2 = 1 then poly else 0)
def steps : Nat → Nat → Nat
  | 0, r => r
  | n + 1, r => step (steps n r)
theorem xor_half (a b : Nat) : (a ^^^ b) / 2 = a / 2 ^^^ b / 2 := by
  have := Nat.shiftRight_xor_distrib (a := a) (b := b) (i := 1)
  simpa [Nat.shiftRight_eq_div_pow] using this
theorem xor_pow (a b k : Nat) : (a ^^^ b) / 2 ^ k = a / 2 ^ k ^^^ b / 2 ^ k := by
  have := Nat.shiftRight_xor_distrib (a := a) (b := b) (i := k)
  simpa [Nat.shiftRight_eq_div_pow] using this
theorem xor_odd (a b : Nat) : (a ^^^ b) % 2 = (a % 2 + b % 2) % 2 := by
  have h := congrArg Bool.toNat (Nat.testBit_xor (x := a) (y := b) (i := 0))
  rw [Nat.toNat_testBit] at h
  simp only [Nat.pow_zero, Nat.div_one, Nat.testBit_zero] at h
  rcases Nat.mod_two_eq_zero_or_one a with ha | ha <;> rcases Nat.mod_two_eq_zero_or_one b with hb | hb <;> simp [ha, hb] at h ⊢ <;> omega
theorem xor_four (a b c d : Nat) : (a ^^^ b) ^^^ (c ^^^ d) = (a ^^^ c) ^^^ (b ^^^ d) := by
  apply Nat.eq_of_testBit_eq
  intro i
  simp only [Nat.testBit_xor]
  cases a.testBit i <;> cases b.testBit i <;> cases c.testBit i <;> cases d.testBit i <;> rfl
theorem xor_zero_iff {a b : Nat} : a ^^^ b = 0 ↔ a = b := by
  constructor
  · intro h
    apply Nat.eq_of_testBit_eq
    intro i
    have := congrArg (fun x => x.testBit i) h
    simp only [Nat.testBit_xor, Nat.zero_testBit] at this
    revert this
    cases a.testBit i <;> cases b.testBit i <;> simp
  · rintro rfl; exact Nat.xor_self a
theorem step_xor (a b : Nat) : step (a ^^^ b) = step a ^^^ step b := by
  unfold step
  rw [xor_half, xor_four]
  congr 1
  have h := xor_odd a b
  rcases Nat.mod_two_eq_zero_or_one a with ha | ha <;> rcases Nat.mod_two_eq_zero_or_one b with hb | hb <;> rw [ha, hb] at h <;> simp [h, ha, hb]
theorem steps_xor (k a b : Nat) : steps k (a ^^^ b) = steps k a ^^^ steps k b := by
  induction k with
  | zero => rfl
  | succ k ih => simp only [steps, ih, step_xor]
theorem step_double (x : Nat) : step (2 * x) = x := by
  unfold step
  rw [if_neg (by omega), Nat.xor_zero]
  omega
theorem steps_next (k x : Nat) : steps (k + 1) x = steps k (step x) := by
  induction k with
  | zero => rfl
  | succ k ih => show step (steps (k + 1) x) = step (steps k (step x)); rw [ih]
theorem steps_more (j k x : Nat) : steps (j + k) x = steps j (steps k x) := by
  induction j with
  | zero => rw [Nat.zero_add]; rfl
  | succ j ih => rw [show j + 1 + k = (j + k) + 1 by omega]; show step (steps (j + k) x) = step (steps j (steps k x)); rw [ih]
theorem steps_pow (k x : Nat) : steps k (2 ^ k * x) = x := by
  induction k generalizing x with
  | zero => simp [steps]
  | succ k ih =>
    rw [steps_next, show 2 ^ (k + 1) * x = 2 * (2 ^ k * x) by rw [Nat.pow_succ, Nat.mul_comm (2 ^ k) 2, Nat.mul_assoc], step_double, ih]
theorem cut_at (a k : Nat) : a = a % 2 ^ k ^^^ 2 ^ k * (a / 2 ^ k) := by
  apply Nat.eq_of_testBit_eq
  intro i
  rw [Nat.testBit_xor, Nat.testBit_mod_two_pow, Nat.testBit_two_pow_mul, Nat.testBit_div_two_pow]
  by_cases h : i < k
  · simp [h, Nat.not_le.2 h]
  · have h' : k ≤ i := by omega
    simp [h, h', Nat.sub_add_cancel h']
theorem steps_cut (k a : Nat) : steps k a = steps k (a % 2 ^ k) ^^^ a / 2 ^ k := by
  conv => lhs; rw [cut_at a k, steps_xor, steps_pow]
theorem steps_zero (k : Nat) : steps k 0 = 0 := by
  induction k with
  | zero => rfl
  | succ k ih => simp only [steps, ih]; rfl
theorem step_lt {r : Nat} (h : r < 4294967296) : step r < 4294967296 := by
  unfold step
  have h1 : r / 2 < 2 ^ 32 := by omega
  have h2 : (if r % 2 = 1 then poly else 0) < 2 ^ 32 := by unfold poly; split <;> omega
  exact Nat.xor_lt_two_pow h1 h2
theorem steps_lt {r : Nat} (k : Nat) (h : r < 4294967296) : steps k r < 4294967296 := by
  induction k with
  | zero => exact h
  | succ k ih => exact step_lt ih
theorem step_nil {r : Nat} (h : r < 4294967296) (e : step r = 0) : r = 0 := by
  unfold step at e
  have e' := xor_zero_iff.1 e
  split at e'
  · unfold poly at e'; omega
  · omega
theorem steps_nil {r : Nat} (k : Nat) (h : r < 4294967296) (e : steps k r = 0) : r = 0 := by
  induction k with
  | zero => exact e
  | succ k ih => exact ih (step_nil (steps_lt k h) e)
theorem xor_lt {a b : Nat} (ha : a < 4294967296) (hb : b < 4294967296) : a ^^^ b < 4294967296 := Nat.xor_lt_two_pow (n := 32) ha hb
theorem steps_inj {a b : Nat} (k : Nat) (ha : a < 4294967296) (hb : b < 4294967296) : steps k a = steps k b ↔ a = b := by
  constructor
  · intro h
    refine xor_zero_iff.1 (steps_nil k (xor_lt ha hb) ?_)
    rw [steps_xor, h, Nat.xor_self]
  · rintro rfl; rfl

/-! ### the table -/
def tabC : List Nat := [0, 498536548, 997073096, 651767980, 1994146192, 1802195444, 1303535960, 1342533948, 3988292384, 4027552580, 3604390888, 3412177804, 2607071920, 2262029012, 2685067896, 3183342108]
theorem tab_steps : ∀ i, i < 16 → tabC.getD i 0 = steps 4 i := by decide
theorem ctab_lt (i : Nat) : tabC.getD i 0 < 4294967296 := by
  by_cases h : i < 16
  · exact (show ∀ i, i < 16 → tabC.getD i 0 < 4294967296 by decide) i h
  · rw [List.getD_eq_getElem?_getD, List.getElem?_eq_none (by simp [tabC]; omega)]; decide
theorem four_steps (r : Nat) : steps 4 r = r / 16 ^^^ tabC.getD (r % 16) 0 := by
  rw [steps_cut 4 r, tab_steps _ (Nat.mod_lt _ (by omega)), Nat.xor_comm]
/-- a byte goes in -/
def byteIn (r c : Nat) : Nat := steps 8 (r ^^^ c)
theorem byteIn_tab (r c : Nat) : byteIn r c = ((r ^^^ c) / 16 ^^^ tabC.getD ((r ^^^ c) % 16) 0) / 16 ^^^ tabC.getD (((r ^^^ c) / 16 ^^^ tabC.getD ((r ^^^ c) % 16) 0) % 16) 0 := by
  unfold byteIn
  rw [show (8 : Nat) = 4 + 4 from rfl, steps_more, four_steps (r ^^^ c), four_steps]
theorem byteIn_lt {r c : Nat} (h : r < 4294967296) (hc : c < 256) : byteIn r c < 4294967296 := steps_lt _ (xor_lt h (by omega))
/-- the register behind n bytes -/
def reg (f : Nat → Nat) (r : Nat) : Nat → Nat
  | 0 => r
  | n + 1 => byteIn (reg f r n) (f n)
theorem reg_lt {f : Nat → Nat} {r : Nat} (hf : ∀ i, f i < 256) (h : r < 4294967296) (n : Nat) : reg f r n < 4294967296 := by
  induction n with
  | zero => exact h
  | succ n ih => exact byteIn_lt ih (hf n)
theorem reg_congr {f g : Nat → Nat} {r n : Nat} (h : ∀ i, i < n → f i = g i) : reg f r n = reg g r n := by
  induction n with
  | zero => rfl
  | succ n ih => simp only [reg]; rw [ih fun i hi => h i (by omega), h n (by omega)]
theorem reg_more (f : Nat → Nat) (r m n : Nat) : reg f r (m + n) = reg (fun i => f (m + i)) (reg f r m) n := by
  induction n with
  | zero => rfl
  | succ n ih => show byteIn (reg f r (m + n)) (f (m + n)) = _; rw [ih]; rfl

/-! ### streams of bits -/
def breg (b : Nat → Bool) (r : Nat) : Nat → Nat
  | 0 => r
  | n + 1 => step (breg b r n ^^^ (b n).toNat)
theorem bit_lt (b : Bool) : b.toNat < 4294967296 := by cases b <;> decide
theorem breg_lt {b : Nat → Bool} {r : Nat} (h : r < 4294967296) (n : Nat) : breg b r n < 4294967296 := by
  induction n with
  | zero => exact h
  | succ n ih => exact step_lt (xor_lt ih (bit_lt _))
theorem breg_congr {a b : Nat → Bool} {r n : Nat} (h : ∀ i, i < n → a i = b i) : breg a r n = breg b r n := by
  induction n with
  | zero => rfl
  | succ n ih => simp only [breg]; rw [ih fun i hi => h i (by omega), h n (by omega)]
theorem breg_more (b : Nat → Bool) (r m n : Nat) : breg b r (m + n) = breg (fun i => b (m + i)) (breg b r m) n := by
  induction n with
  | zero => rfl
  | succ n ih => show step (breg b r (m + n) ^^^ (b (m + n)).toNat) = _; rw [ih]; rfl
theorem bit_xor (a b : Bool) : (a ^^ b).toNat = a.toNat ^^^ b.toNat := by cases a <;> cases b <;> rfl
theorem breg_xor (a b : Nat → Bool) (r s n : Nat) : breg (fun i => a i ^^ b i) (r ^^^ s) n = breg a r n ^^^ breg b s n := by
  induction n with
  | zero => rfl
  | succ n ih => simp only [breg]; rw [ih, bit_xor, xor_four, step_xor]
theorem breg_nil {b : Nat → Bool} {n : Nat} (h : ∀ i, i < n → b i = false) : breg b 0 n = 0 := by
  induction n with
  | zero => rfl
  | succ n ih => simp only [breg]; rw [ih fun i hi => h i (by omega), h n (by omega)]; rfl
theorem mod_next (c k : Nat) : c % 2 ^ (k + 1) = c % 2 ^ k ^^^ 2 ^ k * (c.testBit k).toNat := by
  apply Nat.eq_of_testBit_eq
  intro i
  rw [Nat.testBit_xor, Nat.testBit_mod_two_pow, Nat.testBit_mod_two_pow, Nat.testBit_two_pow_mul]
  by_cases h : i < k
  · simp [h, Nat.not_le.2 h, show i < k + 1 by omega]
  · by_cases h2 : i = k
    · subst h2
      cases hc : c.testBit i <;> simp
    · have h3 : ¬ i < k + 1 := by omega
      have h4 : k ≤ i := by omega
      have h5 : (c.testBit k).toNat.testBit (i - k) = false := by
        cases c.testBit k
        · simp
        · exact Nat.testBit_lt_two_pow (Nat.lt_of_lt_of_le (by decide : (1 : Nat) < 2 ^ 1) (Nat.pow_le_pow_right (by omega) (by omega)))
      simp [h, h3, h4, h5]
/-- the bits of a number go in -/
theorem breg_word (c r k : Nat) : breg (fun i => c.testBit i) r k = steps k (r ^^^ c % 2 ^ k) := by
  induction k with
  | zero => simp [breg, steps, Nat.mod_one]
  | succ k ih =>
    show step (breg (fun i => c.testBit i) r k ^^^ (c.testBit k).toNat) = _
    rw [ih, mod_next, ← Nat.xor_assoc]
    show _ = step (steps k _)
    rw [steps_xor k (r ^^^ c % 2 ^ k), steps_pow]
def bitOf (f : Nat → Nat) (i : Nat) : Bool := (f (i / 8)).testBit (i % 8)
theorem reg_bits {f : Nat → Nat} (hf : ∀ i, f i < 256) (r n : Nat) : reg f r n = breg (bitOf f) r (8 * n) := by
  induction n with
  | zero => rfl
  | succ n ih =>
    show byteIn (reg f r n) (f n) = breg (bitOf f) r (8 * n + 8)
    rw [breg_more, ← ih, breg_congr (b := fun i => (f n).testBit i) fun i hi => ?_, breg_word]
    · rw [Nat.mod_eq_of_lt (hf n)]; rfl
    · show (f ((8 * n + i) / 8)).testBit ((8 * n + i) % 8) = _
      rw [show (8 * n + i) / 8 = n by omega, show (8 * n + i) % 8 = i by omega]
/-- a burst: the bits of a number below 2^32, from a place on -/
theorem burst {b : Nat → Bool} {at_ m n : Nat} (hm : m < 4294967296) (hb : ∀ i, b i = (decide (at_ ≤ i) && m.testBit (i - at_))) (ha : at_ ≤ n) : breg b 0 n = 0 ↔ ∀ i, i < n → b i = false := by
  constructor
  · intro h
    obtain ⟨k, rfl⟩ : ∃ k, n = at_ + k := ⟨n - at_, by omega⟩
    rw [breg_more, breg_nil (n := at_) fun i hi => by rw [hb, decide_eq_false (by omega)]; rfl, breg_congr (b := fun i => m.testBit i) fun i hi => by
      show b (at_ + i) = _
      rw [hb, decide_eq_true (by omega), Nat.add_sub_cancel_left]; rfl, breg_word, Nat.zero_xor] at h
    have h0 := steps_nil k (Nat.lt_of_le_of_lt (Nat.mod_le _ _) hm) h
    intro i hi
    rw [hb]
    by_cases hi2 : at_ ≤ i
    · have := congrArg (fun x => x.testBit (i - at_)) h0
      simp only [Nat.testBit_mod_two_pow, Nat.zero_testBit] at this
      rw [decide_eq_true (show i - at_ < k by omega)] at this
      simpa using fun _ => this
    · rw [decide_eq_false hi2]; rfl
  · exact breg_nil
theorem byte_ext {a b : Nat} (ha : a < 256) (hb : b < 256) (h : ∀ t, t < 8 → a.testBit t = b.testBit t) : a = b := by
  apply Nat.eq_of_testBit_eq
  intro i
  by_cases hi : i < 8
  · exact h i hi
  · rw [Nat.testBit_lt_two_pow (Nat.lt_of_lt_of_le (show a < 2 ^ 8 from ha) (Nat.pow_le_pow_right (by omega) (by omega))), Nat.testBit_lt_two_pow (Nat.lt_of_lt_of_le (show b < 2 ^ 8 from hb) (Nat.pow_le_pow_right (by omega) (by omega)))]
theorem bits_ext {f g : Nat → Nat} (hf : ∀ i, f i < 256) (hg : ∀ i, g i < 256) (n : Nat) : (∀ i, i < 8 * n → bitOf f i = bitOf g i) ↔ ∀ i, i < n → f i = g i := by
  constructor
  · intro h i hi
    refine byte_ext (hf i) (hg i) fun t ht => ?_
    have := h (8 * i + t) (by omega)
    unfold bitOf at this
    rwa [show (8 * i + t) / 8 = i by omega, show (8 * i + t) % 8 = t by omega] at this
  · intro h i hi
    unfold bitOf
    rw [h (i / 8) (by omega)]
/-- two streams that part within 32 bits: the registers are the same just if the bytes are -/
theorem reg_apart {f g : Nat → Nat} {r at_ m n : Nat} (hf : ∀ i, f i < 256) (hg : ∀ i, g i < 256) (hm : m < 4294967296) (ha : at_ ≤ 8 * n)
    (h : ∀ i, bitOf g i = (bitOf f i ^^ (decide (at_ ≤ i) && m.testBit (i - at_)))) : reg g r n = reg f r n ↔ ∀ i, i < n → g i = f i := by
  rw [reg_bits hg, reg_bits hf, breg_congr (fun i _ => h i), show r = r ^^^ 0 from (Nat.xor_zero r).symm, breg_xor, Nat.xor_zero, ← bits_ext hg hf]
  have hb := burst (b := fun i => decide (at_ ≤ i) && m.testBit (i - at_)) hm (fun _ => rfl) ha
  constructor
  · intro e i hi
    have e0 : breg (fun i => decide (at_ ≤ i) && m.testBit (i - at_)) 0 (8 * n) = 0 := by
      have := congrArg (fun x => breg (bitOf f) r (8 * n) ^^^ x) e
      simp only [Nat.xor_self] at this
      rwa [← Nat.xor_assoc, Nat.xor_self, Nat.zero_xor] at this
    rw [h i, hb.1 e0 i hi]
    cases bitOf f i <;> rfl
  · intro e
    rw [hb.2 fun i hi => ?_, Nat.xor_zero]
    have := e i hi
    rw [h i] at this
    revert this
    show _ → (decide (at_ ≤ i) && m.testBit (i - at_)) = false
    cases bitOf f i <;> cases (decide (at_ ≤ i) && m.testBit (i - at_)) <;> simp

/-! ### the checksum; what is sealed -/
def sumB (f : Nat → Nat) (n : Nat) : Nat := reg f ones n ^^^ ones
theorem ones_lt : ones < 4294967296 := by decide
theorem sumB_lt {f : Nat → Nat} (hf : ∀ i, f i < 256) (n : Nat) : sumB f n < 4294967296 := xor_lt (reg_lt hf ones_lt n) ones_lt
/-- n bytes (n at most 4) as a number, the lowest first -/
def word (f : Nat → Nat) : Nat → Nat
  | 0 => 0
  | n + 1 => word f n ||| (f n <<< (8 * n))
theorem word_bit {f : Nat → Nat} (hf : ∀ i, f i < 256) (n k : Nat) : (word f n).testBit k = (decide (k < 8 * n) && bitOf f k) := by
  induction n with
  | zero => simp [word]
  | succ n ih =>
    show (word f n ||| (f n <<< (8 * n))).testBit k = _
    rw [Nat.testBit_or, ih, Nat.testBit_shiftLeft]
    by_cases h : k < 8 * n
    · simp [h, show k < 8 * (n + 1) by omega, show ¬ 8 * n ≤ k by omega]
    · by_cases h2 : k < 8 * (n + 1)
      · have h3 : k / 8 = n := by omega
        have h4 : k % 8 = k - 8 * n := by omega
        simp [h, h2, bitOf, h3, h4, show 8 * n ≤ k by omega]
      · have : (f n).testBit (k - 8 * n) = false := Nat.testBit_lt_two_pow (Nat.lt_of_lt_of_le (show f n < 2 ^ 8 from hf n) (Nat.pow_le_pow_right (by omega) (by omega)))
        simp [h, h2, this]
theorem lt_of_bits {x k : Nat} (h : ∀ i, k ≤ i → x.testBit i = false) : x < 2 ^ k := Nat.lt_pow_two_of_testBit x (fun i hi => h i hi)
theorem word_lt {f : Nat → Nat} (hf : ∀ i, f i < 256) (n : Nat) : word f n < 2 ^ (8 * n) := lt_of_bits fun i hi => by
  rw [word_bit hf, decide_eq_false (by omega)]; rfl
theorem word_congr {f g : Nat → Nat} {n : Nat} (h : ∀ i, i < n → f i = g i) : word f n = word g n := by
  induction n with
  | zero => rfl
  | succ n ih => simp only [word]; rw [ih fun i hi => h i (by omega), h n (by omega)]
/-- four bytes go in as one number -/
theorem reg_word {f : Nat → Nat} (hf : ∀ i, f i < 256) (n : Nat) : reg f ones (n + 4) = steps 32 (reg f ones n ^^^ word (fun i => f (n + i)) 4) := by
  rw [reg_bits hf, show 8 * (n + 4) = 8 * n + 32 by omega, breg_more, ← reg_bits hf, breg_congr (b := fun i => (word (fun i => f (n + i)) 4).testBit i) fun i hi => ?_, breg_word]
  · rw [Nat.mod_eq_of_lt (word_lt (f := fun i => f (n + i)) (fun i => hf _) 4)]
  · rw [word_bit (fun i => hf _), decide_eq_true (by omega)]
    show (f ((8 * n + i) / 8)).testBit ((8 * n + i) % 8) = (true && (f (n + i / 8)).testBit (i % 8))
    rw [show (8 * n + i) / 8 = n + i / 8 by omega, show (8 * n + i) % 8 = i % 8 by omega]; rfl
theorem good_iff {f : Nat → Nat} (hf : ∀ i, f i < 256) (n : Nat) : sumB f n = word (fun i => f (n + i)) 4 ↔ reg f ones (n + 4) = steps 32 ones := by
  have hw : word (fun i => f (n + i)) 4 < 4294967296 := word_lt (f := fun i => f (n + i)) (fun i => hf _) 4
  rw [reg_word hf, steps_inj 32 (xor_lt (reg_lt hf ones_lt n) hw) ones_lt]
  unfold sumB
  constructor
  · intro h; rw [← h, ← Nat.xor_assoc, Nat.xor_self, Nat.zero_xor]
  · intro h
    have h2 := congrArg (fun x => reg f ones n ^^^ x) h
    simp only [← Nat.xor_assoc, Nat.xor_self, Nat.zero_xor] at h2
    exact h2.symm
def sealB (f : Nat → Nat) (n i : Nat) : Nat := if i < n then f i else if i < n + 4 then sumB f n / 2 ^ (8 * (i - n)) % 256 else 0
theorem sealB_lt {f : Nat → Nat} (hf : ∀ i, f i < 256) (n i : Nat) : sealB f n i < 256 := by
  unfold sealB
  split
  · exact hf i
  · split <;> omega
theorem word_of (s : Nat) (h : s < 4294967296) : word (fun i => s / 2 ^ (8 * i) % 256) 4 = s := by
  apply Nat.eq_of_testBit_eq
  intro k
  rw [word_bit fun i => by omega]
  by_cases hk : k < 32
  · rw [decide_eq_true (by omega)]
    show (true && (s / 2 ^ (8 * (k / 8)) % 2 ^ 8).testBit (k % 8)) = _
    rw [Nat.testBit_mod_two_pow, decide_eq_true (by omega), Nat.testBit_div_two_pow, show k % 8 + 8 * (k / 8) = k by omega]; rfl
  · rw [decide_eq_false (by omega), Nat.testBit_lt_two_pow (Nat.lt_of_lt_of_le (show s < 2 ^ 32 from h) (Nat.pow_le_pow_right (by omega) (by omega)))]; rfl
theorem seal_good {f : Nat → Nat} (hf : ∀ i, f i < 256) (n : Nat) : reg (sealB f n) ones (n + 4) = steps 32 ones := by
  rw [← good_iff (sealB_lt hf n)]
  rw [word_congr (g := fun i => sumB f n / 2 ^ (8 * i) % 256) fun i hi => ?_, word_of _ (sumB_lt hf n)]
  · unfold sumB
    rw [reg_congr (g := f) fun i hi => by unfold sealB; rw [if_pos hi]]
  · show sealB f n (n + i) = _
    unfold sealB
    rw [if_neg (by omega), if_pos (by omega), Nat.add_sub_cancel_left]
end Go.Proofs.YtmdhlobonnikcaaDoor.Fx
