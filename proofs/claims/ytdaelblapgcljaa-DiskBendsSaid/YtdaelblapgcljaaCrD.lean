/- Contracts of package crc: Bend, Seal. -/
import Derived.Test.YtdaelblapgcljaaCrC
namespace Go.Proofs.Ytdaelblapgcljaa.Fx
open Go.ChangeShapes Go.WideShapes Go.ChangeAt Go.RowKit
set_option linter.unusedVariables false

theorem and1_32 {a : Nat} (ha : a < 4294967296) : bits .and .u32 (a : Int) 1 = ((a % 2 : Nat) : Int) := by
  have := u32_and_nat a 1 ha (by omega)
  rw [show ((1 : Nat) : Int) = 1 from rfl] at this
  rw [this, show (1 : Nat) = 2 ^ 1 - 1 from rfl, Nat.and_two_pow_sub_one_eq_mod]
theorem bit_div (x i : Nat) : x.testBit i = decide (x / 2 ^ i % 2 = 1) := Nat.testBit_eq_decide_div_mod_eq
theorem div_cast (x k : Nat) : (x : Int) / 2 ^ k = ((x / 2 ^ k : Nat) : Int) := by
  rw [Int.natCast_ediv, Int.natCast_pow]; rfl
set_option maxRecDepth 100000 in
set_option maxHeartbeats 4000000 in
theorem cbend_c {n c mask : Nat} {ao : Option Addr} {f : Nat → Nat} {at_ : Int} {w : World} (hf : ∀ i, f i < 256) (hB : By w ao n f) (hn : n ≤ 1099511627776) (hm : mask < 4294967296) (h1 : -2305843009213693952 ≤ at_) (h2 : at_ ≤ 2305843009213693952) :
    Calls Try.prog 25 #[.slice ao n c, .int .i64 at_, .int .u32 (mask : Nat)] w fun e w' => ∃ v, e = .returned v ∧ OB w' w.heap.size v n (bendB f at_ mask 32) ∧ Made w.heap.size w w' := by
  have HB := hid hB; have HF := hid hf
  clear hB hf
  go_enter Try.func25, Try.ntmps25
  go_wp2_with fail
  refine (ccopied_c HB.out hn).mono ?_
  rintro e w1 ⟨v, rfl, hO, hM⟩
  obtain ⟨ao1, c1, rfl, hc1, hc2, _⟩ := hO.shape
  have HO := hid hO; have HM := hid hM
  clear hO hM hc1 hc2
  go_wp2_with fail
  go_loopg [11] 32 (fun g i wx => ∃ k : Nat, k + g = 32 ∧ i = .int .i64 (k : Nat) ∧ Hid (OB wx w.heap.size (.slice ao1 n c1) n (bendB f at_ mask k)) ∧ Hid (Made w.heap.size w wx))
  case atStart => exact ⟨0, by omega, by first | rfl | trivial, HO.out, HM.out⟩
  case round =>
    obtain ⟨k, hk, rfl, HO2, HM2⟩ := hrel
    by_cases hlt : k < 32
    · have d1 := div_cast mask k
      obtain ⟨y, ey⟩ : ∃ y, mask / 2 ^ k = y := ⟨_, rfl⟩
      have ly : y < 4294967296 := by rw [← ey]; exact Nat.lt_of_le_of_lt (Nat.div_le_self _ _) hm
      have a1 := and1_32 ly
      have HT : Hid (mask.testBit k = decide (y % 2 = 1)) := by unfold Hid; rw [bit_div, ey]
      rw [ey] at d1
      clear ey
      rcases Nat.mod_two_eq_zero_or_one y with hy | hy
      · have HT2 : Hid (mask.testBit k = false) := by unfold Hid; rw [HT.out, hy]; rfl
        rw [hy] at a1
        clear HT hy
        go_wp2_with fail
        go_roundg (32 - k - 1)
        case rel => exact ⟨k + 1, by omega, by go_num, HO2.out.congr fun j hj => by simp only [bendB]; rw [HT2.out, if_neg (by simp)], HM2.out⟩
        case measure => omega
      · have HT2 : Hid (mask.testBit k = true) := by unfold Hid; rw [HT.out, hy]; rfl
        rw [hy] at a1
        clear HT hy
        go_wp2_with fail
        refine (cinvert_c (f := bendB f at_ mask k) (bit := at_ + k) (bendB_lt HF.out _ _ _) HO2.out hn (by omega) (by omega)).mono ?_
        rintro e wy ⟨rfl, hO3, hM3⟩
        have HO3 := hid hO3
        have HM3 := hid (HM2.out.then_ hM3)
        clear hO3 hM3
        go_wp2_with fail
        go_roundg (32 - k - 1)
        case rel =>
          exact ⟨k + 1, by omega, by go_num, HO3.out.congr fun j hj => by
            unfold invF; simp only [bendB]; rw [HT2.out]; simp only [true_and], HM3.out⟩
        case measure => omega
    · have e : k = 32 := by omega
      subst e
      go_wp2_with fail
      go_ret
      exact ⟨_, rfl, HO2.out, HM2.out⟩
/-- a row of bytes is made, empty -/
theorem make_8 (n : Nat) (hn : n ≤ 549755813888) (w : World) : (Instr.makeSlice 29 (.int .i64 0) (.int .i64 ((n : Int) + 4))).run Try.prog w =
    .ok (.slice (some ⟨w.heap.size, 0, none⟩) 0 (n + 4)) (w.alloc (.cells (madeCells #[Value.int .u8 0] (n + 4)) 5)) := by
  obtain ⟨i0, hi, hz0, hz1, hz2⟩ := info_parts info8
  have h := run_make (P := Try.prog) w 29 5 i0 _ Try.underlying29 hi hz0 .i64 .i64 0 ((n : Int) + 4) (by omega) (by omega) (by rw [hz2]; omega) (by omega)
  rw [hz1, show ((n : Int) + 4).toNat = n + 4 by omega, Nat.mul_one] at h
  exact h
theorem made_8 (w : World) (n : Nat) (hn : n ≤ 1099511627776) (f : Nat → Nat) : OB (w.alloc (.cells (madeCells #[Value.int .u8 0] n) 5)) w.heap.size (.slice (some ⟨w.heap.size, 0, none⟩) 0 n) 0 f :=
  World.ownsRow_made w _ n (Nat.le_refl _) (by unfold maxLen; omega) (by rw [size_madeCells, Nat.mul_one])
theorem By.one (w : World) (x : Nat) : By (w.alloc (.cells #[Value.int .u8 (x : Nat)] 5)) (some ⟨w.heap.size, 0, none⟩) 1 (fun _ => x) := fun _ => ⟨w.heap.size, 0, rfl, fun i hi => by
  obtain rfl : i = 0 := by omega
  have := (has_new w 5 #[Value.int .u8 (x : Nat)]).at_ 0
  rw [Nat.add_zero, this]
  rfl⟩
end Go.Proofs.Ytdaelblapgcljaa.Fx
