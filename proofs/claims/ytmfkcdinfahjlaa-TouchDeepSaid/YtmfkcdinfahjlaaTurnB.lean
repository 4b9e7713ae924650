/- Contracts of package turn: angles, steps, sines. -/
import Derived.Test.YtmfkcdinfahjlaaTurnA
import Derived.Test.YtmfkcdinfahjlaaTurnP
import Derived.Test.YtmfkcdinfahjlaaFixes
namespace Go.Proofs.Ytmfkcdinfahjlaa.Fx
open Go.ChangeShapes Go.WideShapes Go.ChangeAt Go.RowKit
set_option linter.unusedVariables false

/-- the low bits of a number of whatever sign -/
theorem and_low (x : Int) (i : Nat) (hi : i ≤ 62) : bits .and .i64 x (2 ^ i - 1) = x % 2 ^ i := by
  have hpos : 0 < 2 ^ i := Nat.two_pow_pos i
  have hdvd : (2 : Nat) ^ i ∣ 2 ^ 64 := Nat.pow_dvd_pow 2 (by omega)
  have hle : (2 : Nat) ^ i ≤ 2 ^ 62 := Nat.pow_le_pow_right (by decide) hi
  have e1 : (BitVec.ofInt 64 ((2 : Int) ^ i - 1)).toNat = 2 ^ i - 1 := by
    have c : ((2 : Int) ^ i - 1) = ((2 ^ i - 1 : Nat) : Int) := by rw [Int.natCast_sub hpos]; simp
    rw [c, BitVec.ofInt_natCast, BitVec.toNat_ofNat, Nat.mod_eq_of_lt (by omega)]
  have e2 : ((BitVec.ofInt 64 x).toNat : Int) = x % 18446744073709551616 := by
    rw [BitVec.toNat_ofInt]; omega
  have hd2 : (2 : Int) ^ i ∣ 18446744073709551616 := by
    have t := Int.natCast_dvd_natCast.2 hdvd
    have e64 : ((2 ^ 64 : Nat) : Int) = 18446744073709551616 := by decide
    rw [e64, Int.natCast_pow] at t
    exact t
  unfold bits
  show IntKind.i64.wrap ((BitVec.ofInt 64 x &&& BitVec.ofInt 64 (2 ^ i - 1)).toNat : Int) = _
  rw [BitVec.toNat_and, e1, Nat.and_two_pow_sub_one_eq_mod, IntKind.wrap_i64]
  have h : (((BitVec.ofInt 64 x).toNat % 2 ^ i : Nat) : Int) = x % 2 ^ i := by
    rw [Int.natCast_emod, e2]
    have hp : (((2 : Nat) ^ i : Nat) : Int) = (2 : Int) ^ i := by rw [Int.natCast_pow]; rfl
    rw [hp]
    exact Int.emod_emod_of_dvd x hd2
  rw [h]
  have b0 : 0 ≤ x % 2 ^ i := Int.emod_nonneg _ (by have : (0:Int) < 2 ^ i := Int.pow_pos (by omega); omega)
  have b1 : x % 2 ^ i < 2 ^ i := Int.emod_lt_of_pos _ (Int.pow_pos (by omega))
  have b2 : (2 : Int) ^ i ≤ 4611686018427387904 := by
    have t := Int.ofNat_le.2 hle
    have e62 : ((2 ^ 62 : Nat) : Int) = 4611686018427387904 := by decide
    rw [e62, Int.natCast_pow] at t
    exact t
  omega
theorem and32 (x : Int) : bits .and .i64 x 4294967295 = x % 4294967296 := and_low x 32 (by omega)
theorem and22 (x : Int) : bits .and .i64 x 4194303 = x % 4194304 := and_low x 22 (by omega)
theorem and10 (x : Int) : bits .and .i64 x 1023 = x % 1024 := and_low x 10 (by omega)
theorem and8 (x : Int) : bits .and .i64 x 255 = x % 256 := and_low x 8 (by omega)
theorem bring_all {a : Int} (h : I64 a) : bringF a (-9223372036854775807) 9223372036854775807 = cl a := by
  have := cl_bd h
  unfold L M at this
  unfold bringF
  rw [show cl (-9223372036854775807) = -9223372036854775807 from by decide, show cl 9223372036854775807 = 9223372036854775807 from by decide]
  rw [if_neg (by omega), if_neg (by omega)]
set_option maxRecDepth 100000 in
set_option maxHeartbeats 400000 in
theorem wrap_c (a : Int) (w : World) (h : I64 a) :
    Calls Try.prog 100 #[.int .i64 a] w fun e w' => e = .returned (.int .i64 (wrapF a)) ∧ w = w' := by
  have E : Hid _ := bring_all h
  have E2 : Hid _ := and32 (cl a)
  go_enter Try.func100, Try.ntmps100
  go_wp2_with fail
  refine (bring_c a _ _ _ h (by unfold I64; omega) (by unfold I64; omega)).mono ?_
  rintro e w' ⟨rfl, rfl⟩
  rw [E.out]
  go_wp2_with fail
  go_ret
  exact ⟨ret_i (by rw [E2.out]; rfl), rfl⟩
set_option maxRecDepth 100000 in
set_option maxHeartbeats 400000 in
theorem step_c (a : Int) (w : World) (h : I64 a) :
    Calls Try.prog 79 #[.int .i64 a] w fun e w' => e = .returned (.int .i64 (stepF a)) ∧ w = w' := by
  obtain ⟨b0, b1⟩ := wrapF_bd a
  go_enter Try.func79, Try.ntmps79
  go_wp2_with fail
  refine (wrap_c a _ h).mono ?_
  rintro e w' ⟨rfl, rfl⟩
  go_wp2_with fail
  go_ret
  exact ⟨ret_i (by unfold stepF; rfl), rfl⟩
theorem negF_tab (k : Int) : negF (tabF k) = -tabF k := by
  have := tabF_bd k; unfold negF cl; rw [if_neg (by omega)]
theorem I64_in {a : Int} (h0 : -9223372036854775808 ≤ a) (h1 : a ≤ 9223372036854775807) : I64 a := ⟨h0, h1⟩
theorem I64_tab (k : Int) : I64 (tabF k) := by have := tabF_bd k; unfold I64; omega
set_option maxRecDepth 100000 in
set_option maxHeartbeats 400000 in
theorem tsine_lo (k : Int) (w : World) (h0 : 0 ≤ k) (h1 : k ≤ 512) :
    Calls Try.prog 99 #[.int .i64 k] w fun e w' => e = .returned (.int .i64 (sn k)) ∧ Made w.heap.size w w' := by
  by_cases c : k ≤ 256
  · have E : Hid (sn k = tabF k) := by unfold Hid sn; rw [if_pos c]
    go_enter Try.func99, Try.ntmps99
    go_wp2_with fail
    refine (apisine_c k _ (by unfold I64; omega)).mono ?_
    rintro e w' ⟨rfl, hb⟩
    go_wp2_with fail
    go_ret
    exact ⟨ret_i E.out.symm, hb⟩
  · have E : Hid (sn k = tabF (512 - k)) := by unfold Hid sn; rw [if_neg c, if_pos h1]
    go_enter Try.func99, Try.ntmps99
    go_wp2_with fail
    refine (apisine_c (512 - k) _ (by unfold I64; omega)).mono ?_
    rintro e w' ⟨rfl, hb⟩
    go_wp2_with fail
    go_ret
    exact ⟨ret_i E.out.symm, hb⟩
theorem sn_up (k : Int) (h : 512 < k) (h1 : k ≤ 1024) : negF (sn (k - 512)) = sn k := by
  unfold sn
  by_cases c : k ≤ 768
  · rw [if_pos (by omega), if_neg (by omega), if_neg (by omega), if_pos c, negF_tab]
  · rw [if_neg (by omega), if_pos (by omega), if_neg (by omega), if_neg (by omega), if_neg c, negF_tab]
    congr 2; omega
theorem I64_sn (k : Int) : I64 (sn k) := by have := sn_bd k; unfold I64; omega
theorem I64_cs (k : Int) : I64 (cs k) := I64_sn _
set_option maxRecDepth 100000 in
set_option maxHeartbeats 400000 in
theorem tsine_c (k : Int) (w : World) (h0 : 0 ≤ k) (h1 : k < 1024) :
    Calls Try.prog 99 #[.int .i64 k] w fun e w' => e = .returned (.int .i64 (sn k)) ∧ Made w.heap.size w w' := by
  by_cases c : k ≤ 512
  · exact tsine_lo k w h0 c
  · have E : Hid (negF (sn (k - 512)) = sn k) := sn_up k (by omega) (by omega)
    go_enter Try.func99, Try.ntmps99
    go_wp2_with fail
    refine (tsine_lo (k - 512) _ (by omega) (by omega)).mono ?_
    rintro e w' ⟨rfl, hb⟩
    go_wp2_with fail
    refine (neg_c _ _ (I64_sn _)).mono ?_
    rintro e w' ⟨rfl, rfl⟩
    go_wp2_with fail
    go_ret
    exact ⟨ret_i E.out, hb⟩
set_option maxRecDepth 100000 in
set_option maxHeartbeats 400000 in
theorem tcosine_c (k : Int) (w : World) (h0 : 0 ≤ k) (h1 : k < 1024) :
    Calls Try.prog 98 #[.int .i64 k] w fun e w' => e = .returned (.int .i64 (cs k)) ∧ Made w.heap.size w w' := by
  go_enter Try.func98, Try.ntmps98
  go_wp2_with fail
  refine (tsine_c ((k + 256) % 1024) _ (by omega) (by omega)).mono ?_
  rintro e w' ⟨rfl, hb⟩
  go_wp2_with fail
  go_ret
  exact ⟨rfl, hb⟩
/-- a rotation as a value -/
abbrev rotV (c s : Int) : Value := .agg #[.int .i64 c, .int .i64 s]
set_option maxRecDepth 100000 in
set_option maxHeartbeats 1000000 in
theorem rotation_c (k : Int) (w : World) (h0 : 0 ≤ k) (h1 : k < 1024) :
    Calls Try.prog 78 #[.int .i64 k] w fun e w' => e = .returned (rotV (cs k) (sn k)) ∧ Made w.heap.size w w' := by
  go_enter Try.func78, Try.ntmps78
  go_wp2_with fail
  refine (tcosine_c k _ h0 h1).mono ?_
  rintro e w1 ⟨rfl, hb1⟩
  go_wp2_with fail
  refine (tsine_c k _ h0 h1).mono ?_
  rintro e w2 ⟨rfl, hb2⟩
  have H1 := (has_new w 103 #[.int .i64 0, .int .i64 0]).stays hb1 (by simp)
  have H2 := H1.stays hb2 H1.here
  have k0 := H2.at_ 0
  have k1 := H2.at_ 1
  have m0 := H2.free 0
  have m1 := H2.free 1
  have hw := hid (((Made.rfl_ w.heap.size w).cells (Nat.le_refl _) _ _).then_ ((hb1.low (by simp)).then_ (hb2.low (by have := H1.here; omega))))
  clear H1 H2 hb1 hb2
  simp at k0 k1
  go_wp2_with fail
  refine bodyPost_ret (v := rotV (cs k) (sn k)) (by simp [results, Try.results78, go_sem, k0, k1]) rfl ⟨rfl, ?_⟩
  exact (hw.out.put (Nat.le_refl _) _).put (Nat.le_refl _) _
set_option maxRecDepth 100000 in
set_option maxHeartbeats 1000000 in
theorem turnOf_c (a : Int) (w : World) (h : I64 a) :
    Calls Try.prog 56 #[.int .i64 a] w fun e w' => e = .returned (rotV (cs (stepF a)) (sn (stepF a))) ∧ Made w.heap.size w w' := by
  obtain ⟨b0, b1⟩ := stepF_bd a
  have HA : Hid (I64 a) := h
  clear h
  go_enter Try.func56, Try.ntmps56
  go_wp2_with fail
  refine (step_c a _ HA.out).mono ?_
  rintro e w' ⟨rfl, rfl⟩
  go_wp2_with fail
  refine (rotation_c _ _ b0 b1).mono ?_
  rintro e w1 ⟨rfl, hb1⟩
  have H1 := (has_new w 103 #[.int .i64 0, .int .i64 0]).stays hb1 (by simp)
  have k0 := H1.at_ 0
  have k1 := H1.at_ 1
  have m0 := H1.free 0
  have m1 := H1.free 1
  have hw := hid (((Made.rfl_ w.heap.size w).cells (Nat.le_refl _) _ _).then_ (hb1.low (by simp)))
  clear H1 hb1
  simp at k0 k1
  go_wp2_with fail
  refine bodyPost_ret (v := rotV (cs (stepF a)) (sn (stepF a))) (by simp [results, Try.results56, go_sem, k0, k1]) rfl ⟨rfl, ?_⟩
  exact (hw.out.put (Nat.le_refl _) _).put (Nat.le_refl _) _
theorem step_is (a n : Int) (w : World) (h : I64 a) (e : stepF a = n) :
    Calls Try.prog 79 #[.int .i64 a] w fun e w' => e = .returned (.int .i64 n) ∧ w = w' := by subst e; exact step_c a w h
theorem turnOf_is (a k : Int) (w : World) (h : I64 a) (e : stepF a = k) :
    Calls Try.prog 56 #[.int .i64 a] w fun e w' => e = .returned (rotV (cs k) (sn k)) ∧ Made w.heap.size w w' := by subst e; exact turnOf_c a w h
theorem I64_wf {n : Int} (h : (Lit.int .i64 n).wf = true) : I64 n := bounds_i64 h
theorem I8_wf {n : Int} (h : (Lit.int .i8 n).wf = true) : -128 ≤ n ∧ n ≤ 127 := bounds_i8 h
theorem cl_id {a : Int} (h : -9223372036854775807 ≤ a) : cl a = a := by unfold cl; rw [if_neg (by omega)]
theorem stepF_at {a : Int} (h : -9223372036854775807 ≤ a) : stepF a = a % 4294967296 / 4194304 := by unfold stepF wrapF; rw [cl_id h]
end Go.Proofs.Ytmfkcdinfahjlaa.Fx
