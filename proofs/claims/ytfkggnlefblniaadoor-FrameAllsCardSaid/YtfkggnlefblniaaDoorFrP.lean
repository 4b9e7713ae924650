/- Layer 16, plain: a record's bytes, what is read of bytes, and what becomes of a record that is bent. -/
import Derived.Test.YtfkggnlefblniaaDoorNum
namespace Go.Proofs.YtfkggnlefblniaaDoor.Fx
open Go.ChangeShapes Go.WideShapes Go.ChangeAt Go.RowKit
set_option linter.unusedVariables false

/-- the twelve bytes of a head: a payload of m bytes, the number n -/
def headF (m n : Int) : Nat → Nat := joinB (joinB (fun _ => 0) (byteZ m) 0) (byteZ n) 4
theorem headF_lt (m n : Int) (i : Nat) : headF m n i < 256 := joinB_lt (joinB_lt (fun _ => by omega) (fun _ => byteZ_lt _ _) 0) (fun _ => byteZ_lt _ _) 4 i
theorem headF_low (m n : Int) {i : Nat} (h : i < 4) : headF m n i = byteZ m i := by
  unfold headF joinB; rw [if_pos h, if_neg (by omega), Nat.sub_zero]
theorem headF_high (m n : Int) (i : Nat) : headF m n (4 + i) = byteZ n i := by
  unfold headF joinB; rw [if_neg (by omega), Nat.add_sub_cancel_left]
/-- a record's bytes: 16 + m + 4 of them -/
def recF (p : Nat → Nat) (m : Nat) (n : Int) : Nat → Nat := joinB (sealB (headF m n) 12) (sealB p m) 16
theorem recF_lt {p : Nat → Nat} (hp : ∀ i, p i < 256) (m : Nat) (n : Int) (i : Nat) : recF p m n i < 256 := joinB_lt (sealB_lt (headF_lt _ _) 12) (sealB_lt hp m) 16 i
theorem recF_low (p : Nat → Nat) (m : Nat) (n : Int) {i : Nat} (h : i < 16) : recF p m n i = sealB (headF m n) 12 i := by unfold recF joinB; rw [if_pos h]
theorem recF_high (p : Nat → Nat) (m : Nat) (n : Int) (i : Nat) : recF p m n (16 + i) = sealB p m i := by unfold recF joinB; rw [if_neg (by omega), Nat.add_sub_cancel_left]
theorem sealB_low {f : Nat → Nat} {n i : Nat} (h : i < n) : sealB f n i = f i := by unfold sealB; rw [if_pos h]

/-- a sealed text opens -/
def Good (g : Nat → Nat) (n : Nat) : Prop := sumB g n = word (fun i => g (n + i)) 4
instance (g : Nat → Nat) (n : Nat) : Decidable (Good g n) := inferInstanceAs (Decidable (_ = _))
theorem sumB_congr {f g : Nat → Nat} {n : Nat} (h : ∀ i, i < n → f i = g i) : sumB f n = sumB g n := by unfold sumB; rw [reg_congr h]
theorem good_congr {f g : Nat → Nat} {n : Nat} (h : ∀ i, i < n + 4 → f i = g i) : Good f n ↔ Good g n := by
  unfold Good
  rw [sumB_congr (fun i hi => h i (by omega)), word_congr (f := fun i => f (n + i)) (g := fun i => g (n + i)) (fun i hi => h (n + i) (by omega))]
theorem good_seal {f : Nat → Nat} (hf : ∀ i, f i < 256) (n : Nat) : Good (sealB f n) n := (good_iff (sealB_lt hf n) n).2 (seal_good hf n)
theorem good_of {g : Nat → Nat} (hg : ∀ i, g i < 256) {n : Nat} (h : Good g n) : ∀ i, i < n + 4 → sealB g n i = g i := by
  intro i hi
  unfold sealB
  by_cases h1 : i < n
  · rw [if_pos h1]
  · rw [if_neg h1, if_pos hi]
    have hw : word (fun j => g (n + j)) 4 = sumB g n := h.symm
    rw [← hw]
    obtain ⟨k, rfl⟩ : ∃ k, i = n + k := ⟨i - n, by omega⟩
    rw [Nat.add_sub_cancel_left]
    apply Nat.eq_of_testBit_eq
    intro t
    rw [show (256 : Nat) = 2 ^ 8 from rfl, Nat.testBit_mod_two_pow, Nat.testBit_div_two_pow, word_bit (fun j => hg _)]
    by_cases ht : t < 8
    · rw [decide_eq_true ht, decide_eq_true (show t + 8 * k < 8 * 4 by omega)]
      show (true && (true && (g (n + (t + 8 * k) / 8)).testBit ((t + 8 * k) % 8))) = _
      rw [show (t + 8 * k) / 8 = k by omega, show (t + 8 * k) % 8 = t by omega]; rfl
    · rw [decide_eq_false ht, Nat.testBit_lt_two_pow (Nat.lt_of_lt_of_le (show g (n + k) < 2 ^ 8 from hg _) (Nat.pow_le_pow_right (by omega) (by omega)))]; rfl

/-! ### what stands at the beginning of bytes -/
def sizeF (g : Nat → Nat) : Nat := sumN g 4
def numF (g : Nat → Nat) : Int := valI (fun i => g (4 + i)) 8
def payF (g : Nat → Nat) : Nat → Nat := fun i => g (16 + i)
/-- there is a record at the beginning of the n bytes g, with at most most bytes of payload -/
def IsRec (g : Nat → Nat) (n : Nat) (most : Int) : Prop :=
  16 ≤ n ∧ Good g 12 ∧ 0 ≤ numF g ∧ (sizeF g : Int) ≤ most ∧ sizeF g + 20 ≤ n ∧ Good (payF g) (sizeF g)
theorem sizeF_val {g : Nat → Nat} (hg : ∀ i, g i < 256) : valI g 4 = (sizeF g : Nat) := valI_small g hg 4 (by omega)
theorem sizeF_lt {g : Nat → Nat} (hg : ∀ i, g i < 256) : sizeF g < 4294967296 := sumN_lt g hg 4
theorem sumN_congr {f g : Nat → Nat} : ∀ m, (∀ i, i < m → f i = g i) → sumN f m = sumN g m
  | 0, _ => rfl
  | m + 1, h => by
    show sumN f m + f m * _ = sumN g m + g m * _
    rw [sumN_congr m (fun i hi => h i (by omega)), h m (by omega)]
theorem sizeF_congr {f g : Nat → Nat} (h : ∀ i, i < 4 → f i = g i) : sizeF f = sizeF g := sumN_congr 4 h
theorem numF_congr {f g : Nat → Nat} (h : ∀ i, i < 12 → f i = g i) : numF f = numF g := valI_congr 8 fun i hi => h (4 + i) (by omega)
theorem sizeF_byte {m : Nat} (h : m < 4294967296) : sizeF (byteZ (m : Nat)) = m := by
  have h1 := valI_nb 4 (by omega) (m : Int) (by omega) (by omega)
  rw [sizeF_val (g := byteZ (m : Nat)) (fun i => byteZ_lt _ _)] at h1
  omega
theorem rec_size {p : Nat → Nat} {m : Nat} {n : Int} (h : m < 4294967296) : sizeF (recF p m n) = m := by
  rw [sizeF_congr (g := byteZ (m : Nat)) fun i hi => by rw [recF_low _ _ _ (by omega), sealB_low (by omega), headF_low _ _ hi], sizeF_byte h]
theorem rec_num {p : Nat → Nat} {m : Nat} {n : Int} (h1 : -9223372036854775808 ≤ n) (h2 : n ≤ 9223372036854775807) : numF (recF p m n) = n := by
  unfold numF
  rw [valI_congr (g := byteZ n) 8 fun i hi => by rw [recF_low _ _ _ (by omega), sealB_low (by omega), headF_high], valI_nb8 n h1 h2]
theorem rec_pay (p : Nat → Nat) (m : Nat) (n : Int) (i : Nat) : payF (recF p m n) i = sealB p m i := recF_high p m n i
theorem rec_head (p : Nat → Nat) (m : Nat) (n : Int) : Good (recF p m n) 12 :=
  (good_congr fun i hi => recF_low p m n (by omega)).2 (good_seal (headF_lt _ _) 12)
theorem rec_tail {p : Nat → Nat} (hp : ∀ i, p i < 256) (m : Nat) (n : Int) : Good (payF (recF p m n)) m :=
  (good_congr fun i hi => rec_pay p m n i).2 (good_seal hp m)
theorem head_congr {f g : Nat → Nat} (h : ∀ i, i < 16 → f i = g i) : Good f 12 ↔ Good g 12 := good_congr h
/-- whether there is a record hangs on the bytes that there are alone -/
theorem isRec_congr {f g : Nat → Nat} {n : Nat} {most : Int} (h : ∀ i, i < n → f i = g i) : IsRec f n most ↔ IsRec g n most := by
  unfold IsRec
  by_cases hn : 16 ≤ n
  · rw [head_congr (f := f) (g := g) (fun i hi => h i (by omega)), numF_congr (f := f) (g := g) (fun i hi => h i (by omega)), sizeF_congr (f := f) (g := g) (fun i hi => h i (by omega))]
    by_cases hs : sizeF g + 20 ≤ n
    · rw [good_congr (f := payF f) (g := payF g) fun i hi => h (16 + i) (by omega)]
    · simp [hs]
  · simp [hn]
/-- a record, with whatever stands behind it, is one -/
theorem isRec_rec {p g : Nat → Nat} (hp : ∀ i, p i < 256) {m k : Nat} {n most : Int} (hm : m < 4294967296) (h1 : 0 ≤ n) (h2 : n ≤ 9223372036854775807) (hk : m + 20 ≤ k) (hg : ∀ i, i < m + 20 → g i = recF p m n i) : IsRec g k most ↔ (m : Int) ≤ most := by
  have e1 : sizeF g = m := by rw [sizeF_congr (g := recF p m n) fun i hi => hg i (by omega), rec_size hm]
  have e2 : numF g = n := by rw [numF_congr (g := recF p m n) fun i hi => hg i (by omega), rec_num (by omega) h2]
  unfold IsRec
  rw [e1, e2]
  constructor
  · exact fun h => h.2.2.2.1
  · intro h
    exact ⟨by omega, (head_congr fun i hi => hg i (by omega)).2 (rec_head p m n), h1, h, hk, (good_congr fun i hi => hg (16 + i) (by omega)).2 (rec_tail hp m n)⟩
/-- what is read was a record's bytes -/
theorem rec_of {g : Nat → Nat} (hg : ∀ i, g i < 256) {n : Nat} {most : Int} (h : IsRec g n most) : ∀ i, i < sizeF g + 20 → recF (payF g) (sizeF g) (numF g) i = g i := by
  obtain ⟨h16, hh, hn, hs, he, hp⟩ := h
  intro i hi
  by_cases h1 : i < 16
  · rw [recF_low _ _ _ h1]
    have e : ∀ j, j < 12 → headF (sizeF g : Nat) (numF g) j = g j := by
      intro j hj
      by_cases h4 : j < 4
      · rw [headF_low _ _ h4, ← sizeF_val hg]
        have := nb_valI g hg 4 (by omega)
        have h5 : gl (nb 4 (valI g 4)) j = gl ((List.range 4).map g) j := congrArg (fun l => gl l j) this
        rw [gl_nb _ _ _ h4] at h5
        rw [h5]
        unfold gl
        simp [List.getD_eq_getElem?_getD, h4]
      · obtain ⟨t, rfl⟩ : ∃ t, j = 4 + t := ⟨j - 4, by omega⟩
        rw [headF_high]
        have := nb_valI (fun i => g (4 + i)) (fun i => hg _) 8 (by omega)
        have h5 : gl (nb 8 (valI (fun i => g (4 + i)) 8)) t = gl ((List.range 8).map fun i => g (4 + i)) t := congrArg (fun l => gl l t) this
        rw [gl_nb _ _ _ (by omega)] at h5
        show byteZ (valI (fun i => g (4 + i)) 8) t = _
        rw [h5]
        unfold gl
        simp [List.getD_eq_getElem?_getD, show t < 8 by omega]
    have hg12 := good_of hg hh i (by omega)
    rw [← hg12]
    unfold sealB
    by_cases h12 : i < 12
    · rw [if_pos h12, if_pos h12, e i h12]
    · rw [if_neg h12, if_neg h12, sumB_congr e]
  · obtain ⟨t, rfl⟩ : ∃ t, i = 16 + t := ⟨i - 16, by omega⟩
    rw [recF_high]
    exact good_of (g := payF g) (fun i => hg _) hp t (by omega)

/-! ### a record that is bent -/
theorem bendE_shift (at_ : Int) (mask k : Nat) (hm : mask < 4294967296) (h : at_ < 0) : bendE at_ mask 32 k = (decide (0 ≤ k) && (mask / 2 ^ (-at_).toNat).testBit (k - 0)) := by
  rw [Nat.testBit_div_two_pow, Nat.sub_zero, decide_eq_true (Nat.zero_le k), Bool.true_and]
  unfold bendE
  have e : ((k : Int) - at_).toNat = k + (-at_).toNat := by omega
  rw [e]
  by_cases h2 : (k : Int) < at_ + 32
  · rw [decide_eq_true ⟨by omega, h2⟩, Bool.true_and]
  · rw [decide_eq_false (fun h => h2 h.2), high_bit hm (by omega)]; rfl
/-- two sealed texts that part within 32 bits are both good just if they are the same -/
theorem good_bent {f g : Nat → Nat} (hf : ∀ i, f i < 256) (hg : ∀ i, g i < 256) {n mask : Nat} {at_ : Int} (hm : mask < 4294967296) (hb : at_ ≤ 8 * (n + 4))
    (h : ∀ i, bitOf g i = (bitOf f i ^^ bendE at_ mask 32 i)) (hgood : Good f n) : Good g n ↔ ∀ i, i < n + 4 → g i = f i := by
  have g1 := (good_iff hf n).1 hgood
  unfold Good
  rw [good_iff hg n, ← g1]
  by_cases ha : 0 ≤ at_
  · obtain ⟨a, rfl⟩ : ∃ a : Nat, at_ = (a : Int) := ⟨at_.toNat, by omega⟩
    exact reg_apart hf hg hm (at_ := a) (by omega) fun i => by rw [h i, bendE_nat a mask i hm]
  · exact reg_apart hf hg (m := mask / 2 ^ (-at_).toNat) (Nat.lt_of_le_of_lt (Nat.div_le_self _ _) hm) (at_ := 0) (by omega) fun i => by rw [h i, bendE_shift at_ mask i hm (by omega)]
/-- a record that is bent is none, whatever stands behind -/
theorem bent_none {p g : Nat → Nat} (hp : ∀ i, p i < 256) {m a mask k : Nat} {n most : Int} (hm : m < 4294967296) (hk : mask < 4294967296) (h1 : 0 ≤ n) (h2 : n ≤ 9223372036854775807) (ha : a < 8 * (m + 20))
    (hlt : ∀ i, g i < 256) (hg : ∀ i, i < m + 20 → g i = bendB (recF p m n) a mask 32 i) (hne : ¬ ∀ i, i < m + 20 → bendB (recF p m n) a mask 32 i = recF p m n i) : ¬ IsRec g k most := by
  intro ⟨h16, hh, hn, hs, he, hpay⟩
  obtain ⟨B, eB⟩ : ∃ B, bendB (recF p m n) a mask 32 = B := ⟨_, rfl⟩
  have lB : ∀ i, B i < 256 := by rw [← eB]; exact bendB_lt (recF_lt hp m n) _ _ _
  have bits : ∀ i, bitOf B i = (bitOf (recF p m n) i ^^ bendE (a : Int) mask 32 i) := by rw [← eB]; exact fun i => bend_bits _ _ _ _
  rw [eB] at hg hne
  apply hne
  have bitsP : ∀ i, bitOf (payF B) i = (bitOf (payF (recF p m n)) i ^^ bendE ((a : Int) - 128) mask 32 i) := by
    intro i
    have := bits (128 + i)
    unfold bitOf at this ⊢
    rw [show (128 + i) / 8 = 16 + i / 8 by omega, show (128 + i) % 8 = i % 8 by omega] at this
    show (B (16 + i / 8)).testBit (i % 8) = ((recF p m n (16 + i / 8)).testBit (i % 8) ^^ _)
    rw [this]
    congr 1
    unfold bendE
    rw [show (((128 + i : Nat) : Int) - (a : Int)) = ((i : Nat) : Int) - ((a : Int) - 128) by omega]
    congr 1
    exact decide_eq_decide.2 (by constructor <;> (intro hc; omega))
  -- the head
  have hB12 : Good B 12 := (head_congr fun i hi => hg i (by omega)).1 hh
  have same16 : ∀ i, i < 16 → B i = recF p m n i := by
    by_cases ha2 : (a : Int) ≤ 8 * (12 + 4)
    · exact (good_bent (recF_lt hp m n) lB hk (by omega) bits (rec_head p m n)).1 hB12
    · have : ∀ i, i < 8 * 16 → bitOf B i = bitOf (recF p m n) i := fun i hi => by
        rw [bits i]
        have : bendE (a : Int) mask 32 i = false := by unfold bendE; rw [decide_eq_false (by omega)]; rfl
        rw [this]
        cases bitOf (recF p m n) i <;> rfl
      exact (bits_ext lB (recF_lt hp m n) 16).1 this
  have es : sizeF g = m := by rw [sizeF_congr (g := recF p m n) fun i hi => by rw [hg i (by omega), same16 i (by omega)], rec_size hm]
  rw [es] at hpay
  have hBp : Good (payF B) m := (good_congr fun i hi => hg (16 + i) (by omega)).1 hpay
  have sameP := (good_bent (f := payF (recF p m n)) (g := payF B) (fun i => recF_lt hp m n _) (fun i => lB _) hk (by omega) bitsP (rec_tail hp m n)).1 hBp
  intro i hi
  by_cases h : i < 16
  · exact same16 i h
  · have := sameP (i - 16) (by omega)
    unfold payF at this
    rwa [show 16 + (i - 16) = i by omega] at this
end Go.Proofs.YtfkggnlefblniaaDoor.Fx
