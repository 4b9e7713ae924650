/- Names: numbers as hexadecimal digits: plain. -/
import Derived.Test.YtmdhlobonnikcaaDoorCrQ
import Derived.Laws.Strings
namespace Go.Proofs.YtmdhlobonnikcaaDoor.Fx
set_option linter.unusedVariables false

/-- a digit's sign -/
def hexd (v : Nat) : Nat := if v < 10 then 48 + v else 87 + v
/-- a sign's value, 16 if it is none -/
def hexv (c : Nat) : Nat := if 48 ≤ c ∧ c ≤ 57 then c - 48 else if 97 ≤ c ∧ c ≤ 102 then c - 87 else 16
theorem hexd_lt {v : Nat} (h : v < 16) : hexd v < 256 := by unfold hexd; split <;> omega
theorem hexd_any (v : Nat) : hexd (v % 16) < 256 := hexd_lt (by omega)
theorem hexv_hexd {v : Nat} (h : v < 16) : hexv (hexd v) = v := by
  unfold hexd hexv
  split
  · rw [if_pos (by omega)]; omega
  · rw [if_neg (by omega), if_pos (by omega)]; omega
theorem hexd_hexv {c : Nat} (h : hexv c < 16) : hexd (hexv c) = c := by
  unfold hexv at h ⊢
  unfold hexd
  repeat' split
  all_goals (repeat' split at h) <;> omega
theorem hexd_inj {v u : Nat} (hv : v < 16) (hu : u < 16) (h : hexd v = hexd u) : v = u := by
  rw [← hexv_hexd hv, h, hexv_hexd hu]
theorem hexd_less {v u : Nat} (hv : v < 16) (hu : u < 16) : hexd v < hexd u ↔ v < u := by
  unfold hexd
  constructor <;> intro h <;> (repeat' split at *) <;> omega
/-- digit i of m -/
def dg (m n i : Nat) : Nat := hexd (n / 16 ^ (m - 1 - i) % 16)
theorem dg_lt (m n i : Nat) : dg m n i < 256 := hexd_any _
/-- the number of the first k digits -/
def numF (f : Nat → Nat) : Nat → Nat
  | 0 => 0
  | k + 1 => numF f k * 16 + hexv (f k)
theorem numF_lt {f : Nat → Nat} : ∀ k, (∀ i, i < k → hexv (f i) < 16) → numF f k < 16 ^ k
  | 0, _ => by simp [numF]
  | k + 1, h => by
    have h1 := numF_lt k fun i hi => h i (by omega)
    have h2 := h k (by omega)
    rw [Nat.pow_succ]
    show numF f k * 16 + hexv (f k) < _
    omega
theorem numF_congr {f g : Nat → Nat} : ∀ k, (∀ i, i < k → f i = g i) → numF f k = numF g k
  | 0, _ => rfl
  | k + 1, h => by
    show numF f k * 16 + hexv (f k) = numF g k * 16 + hexv (g k)
    rw [numF_congr k fun i hi => h i (by omega), h k (by omega)]
theorem pow_step {m k : Nat} (h : k < m) : 16 ^ (m - k) = 16 ^ (m - 1 - k) * 16 := by
  rw [← Nat.pow_succ]
  congr 1
  omega
theorem numF_dg (m n : Nat) (hn : n < 16 ^ m) : ∀ k, k ≤ m → numF (dg m n) k = n / 16 ^ (m - k)
  | 0, _ => by rw [Nat.sub_zero, Nat.div_eq_of_lt hn]; rfl
  | k + 1, h => by
    show numF (dg m n) k * 16 + hexv (hexd (n / 16 ^ (m - 1 - k) % 16)) = _
    rw [numF_dg m n hn k (by omega), hexv_hexd (by omega), pow_step (by omega), ← Nat.div_div_eq_div_mul, show m - (k + 1) = m - 1 - k by omega]
    omega
theorem numF_back {m n : Nat} (hn : n < 16 ^ m) : numF (dg m n) m = n := by
  rw [numF_dg m n hn m (Nat.le_refl _), Nat.sub_self, Nat.pow_zero, Nat.div_one]
theorem numF_cut {f : Nat → Nat} {m : Nat} (h : ∀ i, i < m → hexv (f i) < 16) : ∀ d, d ≤ m → numF f m / 16 ^ d = numF f (m - d)
  | 0, _ => by simp
  | d + 1, hd => by
    rw [Nat.pow_succ, ← Nat.div_div_eq_div_mul, numF_cut h d (by omega)]
    obtain ⟨k, hk⟩ : ∃ k, m - d = k + 1 := ⟨m - d - 1, by omega⟩
    rw [hk, show m - (d + 1) = k by omega]
    show (numF f k * 16 + hexv (f k)) / 16 = _
    have := h k (by omega)
    omega
theorem dg_numF {f : Nat → Nat} {m : Nat} (h : ∀ i, i < m → hexv (f i) < 16) (i : Nat) (hi : i < m) : dg m (numF f m) i = f i := by
  unfold dg
  rw [numF_cut h (m - 1 - i) (by omega), show m - (m - 1 - i) = i + 1 by omega]
  show hexd ((numF f i * 16 + hexv (f i)) % 16) = _
  have := h i hi
  rw [show (numF f i * 16 + hexv (f i)) % 16 = hexv (f i) by omega]
  exact hexd_hexv this
/-- a name, sign by sign -/
def nmF (c n i : Nat) : Nat := if i = 0 then c else dg 16 n (i - 1)
theorem nmF_lt {c : Nat} (h : c < 256) (n i : Nat) : nmF c n i < 256 := by
  unfold nmF
  split
  · exact h
  · exact dg_lt _ _ _
/-- a name -/
def nmB (c n : Nat) : ByteArray := strB (nmF c n) 17
theorem nmB_size (c n : Nat) : (nmB c n).size = 17 := strB_size _ _
/-- a kind, and a number in the range -/
def NmOk (c n : Nat) : Prop := (c = 99 ∨ c = 106) ∧ n ≤ 4611686018427387904
/-- the sign of byte i -/
def byT (s : ByteArray) (i : Nat) : Nat := (s.data.toList.getD i 0).toNat
theorem byT_lt (s : ByteArray) (i : Nat) : byT s i < 256 := (s.data.toList.getD i 0).toNat_lt
theorem strB_list (f : Nat → Nat) : ∀ n, (strB f n).data.toList = (List.range n).map fun i => UInt8.ofNat (f i)
  | 0 => rfl
  | n + 1 => by
    rw [strB_next, List.range_succ, List.map_append, ← strB_list f n]
    show ((strB f n).data.push (UInt8.ofNat (f n))).toList = _
    simp
theorem byT_strB {f : Nat → Nat} {n i : Nat} (hi : i < n) (h : f i < 256) : byT (strB f n) i = f i := by
  unfold byT
  rw [strB_list, List.getD_eq_getElem?_getD, List.getElem?_map, List.getElem?_range hi]
  show (UInt8.ofNat (f i)).toNat = _
  rw [UInt8.toNat_ofNat']
  omega
theorem strB_byT (s : ByteArray) : strB (byT s) s.size = s := by
  apply ByteArray.ext
  apply Array.ext'
  rw [strB_list]
  have hl : s.data.toList.length = s.size := Array.length_toList
  apply List.ext_getElem?
  intro i
  by_cases hi : i < s.size
  · rw [List.getElem?_map, List.getElem?_range hi, List.getElem?_eq_getElem (by omega)]
    simp only [Option.map_some, Option.some.injEq]
    unfold byT
    rw [List.getD_eq_getElem?_getD, List.getElem?_eq_getElem (by omega), Option.getD_some]
    exact UInt8.ofNat_toNat
  · rw [List.getElem?_eq_none (by simp; omega), List.getElem?_eq_none (by omega)]
theorem nm_of {s : ByteArray} {c n : Nat} (hc : c < 256) (h : s = nmB c n) : byT s 0 = c ∧ ∀ i, i < 16 → byT s (1 + i) = dg 16 n i := by
  subst h
  constructor
  · exact byT_strB (by decide) (nmF_lt hc n 0)
  · intro i hi
    have := byT_strB (f := nmF c n) (n := 17) (i := 1 + i) (by omega) (nmF_lt hc n _)
    unfold nmB
    rw [this]
    unfold nmF
    rw [if_neg (by omega), Nat.add_sub_cancel_left]
/-- a text of 17 signs is a name if its digits are ones -/
theorem nm_is {s : ByteArray} (hs : s.size = 17) (h : ∀ i, i < 16 → hexv (byT s (1 + i)) < 16) : s = nmB (byT s 0) (numF (fun i => byT s (1 + i)) 16) := by
  have e := strB_byT s
  rw [hs] at e
  rw [← e]
  unfold nmB
  rw [strB_ext (fun i => byT_lt _ _) (fun i => nmF_lt (by rw [e]; exact byT_lt _ _) _ _)]
  rw [e]
  intro i hi
  unfold nmF
  split
  · rename_i h0; rw [h0]
  · rename_i h0
    rw [dg_numF (f := fun i => byT s (1 + i)) (m := 16) h (i - 1) (by omega)]
    show _ = byT s (1 + (i - 1))
    rw [show 1 + (i - 1) = i by omega]
theorem nm_num {s : ByteArray} {c n : Nat} (h : s = nmB c n) (hc : c < 256) (hn : n < 16 ^ 16) : numF (fun i => byT s (1 + i)) 16 = n := by
  rw [numF_congr 16 (g := dg 16 n) fun i hi => (nm_of hc h).2 i hi, numF_back hn]
theorem nm_hex {s : ByteArray} {c n : Nat} (h : s = nmB c n) (hc : c < 256) (i : Nat) (hi : i < 16) : hexv (byT s (1 + i)) < 16 := by
  rw [(nm_of hc h).2 i hi]
  unfold dg
  rw [hexv_hexd (by omega)]
  omega
theorem nm_inj {c d n m : Nat} (hc : c < 256) (hd : d < 256) (hn : n < 16 ^ 16) (hm : m < 16 ^ 16) (h : nmB c n = nmB d m) : c = d ∧ n = m := by
  refine ⟨?_, ?_⟩
  · have h1 := (nm_of (s := nmB c n) hc rfl).1
    have h2 := (nm_of (s := nmB d m) hd rfl).1
    rw [← h, h1] at h2
    exact h2
  · rw [← nm_num (s := nmB c n) rfl hc hn, h, nm_num rfl hd hm]
/-! ### order -/
def valL : List Nat → Nat
  | [] => 0
  | x :: xs => x * 16 ^ xs.length + valL xs
theorem valL_lt : ∀ xs : List Nat, (∀ x ∈ xs, x < 16) → valL xs < 16 ^ xs.length
  | [], _ => by simp [valL]
  | x :: xs, h => by
    have h1 := valL_lt xs fun y hy => h y (List.mem_cons_of_mem _ hy)
    have h2 := h x (List.mem_cons_self ..)
    show x * 16 ^ xs.length + valL xs < 16 ^ (xs.length + 1)
    rw [Nat.pow_succ, Nat.mul_comm _ 16]
    have : x * 16 ^ xs.length ≤ 15 * 16 ^ xs.length := Nat.mul_le_mul_right _ (by omega)
    omega
def hexl (xs : List Nat) : List UInt8 := xs.map fun v => UInt8.ofNat (hexd v)
theorem u8_lt {a b : Nat} (ha : a < 256) (hb : b < 256) : (UInt8.ofNat a < UInt8.ofNat b) ↔ a < b := by
  rw [UInt8.lt_iff_toNat_lt, UInt8.toNat_ofNat', UInt8.toNat_ofNat', Nat.mod_eq_of_lt ha, Nat.mod_eq_of_lt hb]
theorem u8_eq {a b : Nat} (ha : a < 256) (hb : b < 256) : (UInt8.ofNat a = UInt8.ofNat b) ↔ a = b := by
  constructor
  · intro h
    have := congrArg UInt8.toNat h
    rw [UInt8.toNat_ofNat', UInt8.toNat_ofNat'] at this
    omega
  · rintro rfl; rfl
theorem hexl_less : ∀ xs ys : List Nat, xs.length = ys.length → (∀ x ∈ xs, x < 16) → (∀ y ∈ ys, y < 16) → Op.bytesLess (hexl xs) (hexl ys) = decide (valL xs < valL ys)
  | [], [], _, _, _ => by simp [hexl, Op.bytesLess, valL]
  | [], _ :: _, h, _, _ => by simp at h
  | _ :: _, [], h, _, _ => by simp at h
  | x :: xs, y :: ys, hl, hx, hy => by
    have hl' : xs.length = ys.length := by simpa using hl
    have h1 := hx x (List.mem_cons_self ..)
    have h2 := hy y (List.mem_cons_self ..)
    have v1 := valL_lt xs fun y hy => hx y (List.mem_cons_of_mem _ hy)
    have v2 := valL_lt ys fun z hz => hy z (List.mem_cons_of_mem _ hz)
    have ih := hexl_less xs ys hl' (fun z hz => hx z (List.mem_cons_of_mem _ hz)) (fun z hz => hy z (List.mem_cons_of_mem _ hz))
    show (decide (UInt8.ofNat (hexd x) < UInt8.ofNat (hexd y)) || (UInt8.ofNat (hexd x) == UInt8.ofNat (hexd y) && Op.bytesLess (hexl xs) (hexl ys))) = decide (x * 16 ^ xs.length + valL xs < y * 16 ^ ys.length + valL ys)
    rw [ih, ← hl']
    rw [← hl'] at v2
    obtain ⟨Q, eQ⟩ : ∃ Q, 16 ^ xs.length = Q := ⟨_, rfl⟩
    rw [eQ] at v1 v2 ⊢
    have k1 : (UInt8.ofNat (hexd x) < UInt8.ofNat (hexd y)) ↔ x < y := (u8_lt (hexd_lt h1) (hexd_lt h2)).trans (hexd_less h1 h2)
    have k2 : (UInt8.ofNat (hexd x) = UInt8.ofNat (hexd y)) ↔ x = y := (u8_eq (hexd_lt h1) (hexd_lt h2)).trans ⟨hexd_inj h1 h2, fun h => by rw [h]⟩
    rcases Nat.lt_trichotomy x y with h | h | h
    · have : (x + 1) * Q ≤ y * Q := Nat.mul_le_mul_right _ h
      rw [Nat.add_mul] at this
      rw [decide_eq_true (k1.2 h), Bool.true_or, decide_eq_true (by omega)]
    · subst h
      rw [decide_eq_false (fun h => absurd (k1.1 h) (by omega)), Bool.false_or, beq_self_eq_true, Bool.true_and]
      congr 1
      exact propext ⟨fun h => by omega, fun h => by omega⟩
    · have : (y + 1) * Q ≤ x * Q := Nat.mul_le_mul_right _ h
      rw [Nat.add_mul] at this
      have e : (UInt8.ofNat (hexd x) == UInt8.ofNat (hexd y)) = false := beq_false_of_ne fun h2 => by have := k2.1 h2; omega
      rw [decide_eq_false (fun h2 => absurd (k1.1 h2) (by omega)), Bool.false_or, e, Bool.false_and, decide_eq_false (by omega)]
def dl : Nat → Nat → List Nat
  | 0, _ => []
  | m + 1, n => (n / 16 ^ m % 16) :: dl m n
theorem dl_len : ∀ m n, (dl m n).length = m
  | 0, _ => rfl
  | m + 1, n => by show (dl m n).length + 1 = _; rw [dl_len m n]
theorem dl_lt : ∀ m n x, x ∈ dl m n → x < 16
  | 0, _, _, h => by cases h
  | m + 1, n, x, h => by
    rcases List.mem_cons.1 h with rfl | h
    · omega
    · exact dl_lt m n x h
theorem dl_val : ∀ m n, valL (dl m n) = n % 16 ^ m
  | 0, n => by simp [dl, valL, Nat.mod_one]
  | m + 1, n => by
    show n / 16 ^ m % 16 * 16 ^ (dl m n).length + valL (dl m n) = _
    rw [dl_len, dl_val m n, Nat.mod_pow_succ, Nat.mul_comm, Nat.add_comm]
theorem dl_less {n k : Nat} (hn : n < 16 ^ 16) (hk : k < 16 ^ 16) : Op.bytesLess (hexl (dl 16 n)) (hexl (dl 16 k)) = decide (n < k) := by
  rw [hexl_less _ _ (by rw [dl_len, dl_len]) (dl_lt 16 n) (dl_lt 16 k), dl_val, dl_val, Nat.mod_eq_of_lt hn, Nat.mod_eq_of_lt hk]
theorem dg_list (n : Nat) : (strB (dg 16 n) 16).data.toList = hexl (dl 16 n) := by
  rw [strB_list]
  rfl
theorem nmB_list (c n : Nat) : (nmB c n).data.toList = UInt8.ofNat c :: hexl (dl 16 n) := by
  unfold nmB
  rw [strB_list]
  rfl
theorem nm_less {c n k : Nat} (hn : n < 16 ^ 16) (hk : k < 16 ^ 16) : Op.bytesLess (nmB c n).toList (nmB c k).toList = decide (n < k) := by
  rw [ByteArray.toList_eq, ByteArray.toList_eq, nmB_list, nmB_list, ← dl_less hn hk]
  show (decide (UInt8.ofNat c < UInt8.ofNat c) || (UInt8.ofNat c == UInt8.ofNat c && _)) = _
  rw [decide_eq_false (by rw [UInt8.lt_iff_toNat_lt]; omega), Bool.false_or, beq_self_eq_true, Bool.true_and]
end Go.Proofs.YtmdhlobonnikcaaDoor.Fx
