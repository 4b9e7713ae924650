/- Contracts of package crc: Bend, Seal. -/
import Derived.Test.YtfkggnlefblniaaDoorCrC
namespace Go.Proofs.YtfkggnlefblniaaDoor.Fx
open Go.ChangeShapes Go.WideShapes Go.ChangeAt Go.RowKit
set_option linter.unusedVariables false

theorem and1_32 {a : Nat} (ha : a < 4294967296) : bits .and .u32 (a : Int) 1 = ((a % 2 : Nat) : Int) := by
  have := u32_and_nat a 1 ha (by omega)
  rw [show ((1 : Nat) : Int) = 1 from rfl] at this
  rw [this, show (1 : Nat) = 2 ^ 1 - 1 from rfl, Nat.and_two_pow_sub_one_eq_mod]
theorem bit_div (x i : Nat) : x.testBit i = decide (x / 2 ^ i % 2 = 1) := Nat.testBit_eq_decide_div_mod_eq
theorem div_cast (x k : Nat) : (x : Int) / 2 ^ k = ((x / 2 ^ k : Nat) : Int) := by
  rw [Int.natCast_ediv, Int.natCast_pow]; rfl
set_option maxRecDepth 100000 in
set_option maxHeartbeats 4000000 in
theorem cbend_c {n c mask : Nat} {ao : Option Addr} {f : Nat → Nat} {at_ : Int} {w : World} (hf : ∀ i, f i < 256) (hB : By w ao n f) (hn : n ≤ 1099511627776) (hm : mask < 4294967296) (h1 : -2305843009213693952 ≤ at_) (h2 : at_ ≤ 2305843009213693952) :
    Calls Tryd.prog 15 #[.slice ao n c, .int .i64 at_, .int .u32 (mask : Nat)] w fun e w' => ∃ v, e = .returned v ∧ OB w' w.heap.size v n (bendB f at_ mask 32) ∧ Made w.heap.size w w' := by
  have HB := hid hB; have HF := hid hf
  clear hB hf
  go_enter Tryd.func15, Tryd.ntmps15
  go_wp2_with fail
  refine (ccopied_c HB.out hn).mono ?_
  rintro e w1 ⟨v, rfl, hO, hM⟩
  obtain ⟨ao1, c1, rfl, hc1, hc2, _⟩ := hO.shape
  have HO := hid hO; have HM := hid hM
  clear hO hM hc1 hc2
  go_wp2_with fail
  go_loopg [11] 32 (fun g i wx => ∃ k : Nat, k + g = 32 ∧ i = .int .i64 (k : Nat) ∧ Hid (OB wx w.heap.size (.slice ao1 n c1) n (bendB f at_ mask k)) ∧ Hid (Made w.heap.size w wx))
  case atStart => exact ⟨0, by omega, by first | rfl | trivial, HO.out, HM.out⟩
  case round =>
    obtain ⟨k, hk, rfl, HO2, HM2⟩ := hrel
    by_cases hlt : k < 32
    · have d1 := div_cast mask k
      obtain ⟨y, ey⟩ : ∃ y, mask / 2 ^ k = y := ⟨_, rfl⟩
      have ly : y < 4294967296 := by rw [← ey]; exact Nat.lt_of_le_of_lt (Nat.div_le_self _ _) hm
      have a1 := and1_32 ly
      have HT : Hid (mask.testBit k = decide (y % 2 = 1)) := by unfold Hid; rw [bit_div, ey]
      rw [ey] at d1
      clear ey
      rcases Nat.mod_two_eq_zero_or_one y with hy | hy
      · have HT2 : Hid (mask.testBit k = false) := by unfold Hid; rw [HT.out, hy]; rfl
        rw [hy] at a1
        clear HT hy
        go_wp2_with fail
        go_roundg (32 - k - 1)
        case rel => exact ⟨k + 1, by omega, by go_num, HO2.out.congr fun j hj => by simp only [bendB]; rw [HT2.out, if_neg (by simp)], HM2.out⟩
        case measure => omega
      · have HT2 : Hid (mask.testBit k = true) := by unfold Hid; rw [HT.out, hy]; rfl
        rw [hy] at a1
        clear HT hy
        go_wp2_with fail
        refine (cinvert_c (f := bendB f at_ mask k) (bit := at_ + k) (bendB_lt HF.out _ _ _) HO2.out hn (by omega) (by omega)).mono ?_
        rintro e wy ⟨rfl, hO3, hM3⟩
        have HO3 := hid hO3
        have HM3 := hid (HM2.out.then_ hM3)
        clear hO3 hM3
        go_wp2_with fail
        go_roundg (32 - k - 1)
        case rel =>
          exact ⟨k + 1, by omega, by go_num, HO3.out.congr fun j hj => by
            unfold invF; simp only [bendB]; rw [HT2.out]; simp only [true_and], HM3.out⟩
        case measure => omega
    · have e : k = 32 := by omega
      subst e
      go_wp2_with fail
      go_ret
      exact ⟨_, rfl, HO2.out, HM2.out⟩
/-- a row of bytes is made, empty -/
theorem make_8 (n : Nat) (hn : n ≤ 549755813888) (w : World) : (Instr.makeSlice 22 (.int .i64 0) (.int .i64 ((n : Int) + 4))).run Tryd.prog w =
    .ok (.slice (some ⟨w.heap.size, 0, none⟩) 0 (n + 4)) (w.alloc (.cells (madeCells #[Value.int .u8 0] (n + 4)) 5)) := by
  obtain ⟨i0, hi, hz0, hz1, hz2⟩ := info_parts info8
  have h := run_make (P := Tryd.prog) w 22 5 i0 _ Tryd.underlying22 hi hz0 .i64 .i64 0 ((n : Int) + 4) (by omega) (by omega) (by rw [hz2]; omega) (by omega)
  rw [hz1, show ((n : Int) + 4).toNat = n + 4 by omega, Nat.mul_one] at h
  exact h
theorem made_8 (w : World) (n : Nat) (hn : n ≤ 1099511627776) (f : Nat → Nat) : OB (w.alloc (.cells (madeCells #[Value.int .u8 0] n) 5)) w.heap.size (.slice (some ⟨w.heap.size, 0, none⟩) 0 n) 0 f :=
  World.ownsRow_made w _ n (Nat.le_refl _) (by unfold maxLen; omega) (by rw [size_madeCells, Nat.mul_one])
theorem By.one (w : World) (x : Nat) : By (w.alloc (.cells #[Value.int .u8 (x : Nat)] 5)) (some ⟨w.heap.size, 0, none⟩) 1 (fun _ => x) := fun _ => ⟨w.heap.size, 0, rfl, fun i hi => by
  obtain rfl : i = 0 := by omega
  have := (has_new w 5 #[Value.int .u8 (x : Nat)]).at_ 0
  rw [Nat.add_zero, this]
  rfl⟩
set_option maxRecDepth 100000 in
set_option maxHeartbeats 4000000 in
theorem cseal_c {n c : Nat} {ao : Option Addr} {f : Nat → Nat} {w : World} (hf : ∀ i, f i < 256) (hT : Tab w) (hB : By w ao n f) (hn : n ≤ 549755813888) :
    Calls Tryd.prog 19 #[.slice ao n c] w fun e w' => ∃ v, e = .returned v ∧ OB w' w.heap.size v (n + 4) (sealB f n) ∧ Made w.heap.size w w' := by
  have HB := hid hB; have HT := hid hT; have HF := hid hf
  have hmk := make_8 n hn w
  have M1 : Hid (Made w.heap.size w (w.alloc (.cells (madeCells #[Value.int .u8 0] (n + 4)) 5))) := (Made.rfl_ _ _).cells (Nat.le_refl _) _ _
  obtain ⟨v1, w2, hr, hO, hg, hz⟩ := append_by (c := c) 22 (made_8 w (n + 4) (by omega) f) (hB.kept M1.out) (by omega) (by simp)
  have HR := hid hr
  have M2 : Hid (Made w.heap.size w w2) := M1.out.app hg hz (by simp) (fun k hk => by cases hk; exact Nat.le_refl _)
  have HO : Hid (OB w2 w.heap.size v1 (n + 0) (sealB f n)) := by
    rw [Nat.zero_add] at hO
    refine hO.congr fun i hi => ?_
    unfold joinB sealB
    rw [if_neg (by omega), if_pos (by omega), Nat.sub_zero]
  clear hB hT hf M1 hr hO hg hz
  go_enter Tryd.func19, Tryd.ntmps19
  go_wp2_with fail
  refine (csum_c HF.out HT.out HB.out (by omega)).mono ?_
  rintro e w1 ⟨rfl, rfl⟩
  obtain ⟨S0, eS⟩ : ∃ S, sumB f n = S := ⟨_, rfl⟩
  have ES := hid eS
  rw [eS]
  have lS : S0 < 4294967296 := by rw [← eS]; exact sumB_lt HF.out n
  clear eS
  go_wp2_with (at_builtin; refine Lib.wpList_append_run _ rfl _ _ _ _ rfl _ _ rfl rfl _ _ HR.out ?_)
  go_loopg [3, 4, 13] 4 (fun g s v i wr => ∃ k : Nat, k + g = 4 ∧ i = .int .i64 (k : Nat) ∧ s = .int .u32 (S0 / 2 ^ (8 * k) : Nat) ∧ Hid (OB wr w.heap.size v (n + k) (sealB f n)) ∧ Hid (Made w.heap.size w wr))
  case atStart => exact ⟨0, by omega, by first | rfl | trivial, by simp, HO.out, M2.out⟩
  case round =>
    obtain ⟨k, hk, rfl, rfl, HO2, HM2⟩ := hrel
    by_cases hlt : k < 4
    · obtain ⟨x, ex⟩ : ∃ x, S0 / 2 ^ (8 * k) = x := ⟨_, rfl⟩
      have lx : x < 4294967296 := by rw [← ex]; exact Nat.lt_of_le_of_lt (Nat.div_le_self _ _) lS
      rw [ex]
      obtain ⟨y, ey⟩ : ∃ y, x % 256 = y := ⟨_, rfl⟩
      obtain ⟨z, ez⟩ : ∃ z, x / 256 = z := ⟨_, rfl⟩
      have d1 : (x : Int) % 256 = (y : Int) := by omega
      have d2 : (x : Int) / 256 = (z : Int) := by omega
      have HZ : Hid (z = S0 / 2 ^ (8 * (k + 1))) := by
        unfold Hid
        rw [← ez, ← ex, Nat.div_div_eq_div_mul, show 8 * (k + 1) = 8 * k + 8 by omega, Nat.pow_add]
      have HY : Hid (y = sealB f n (n + k)) := by
        unfold Hid sealB
        rw [if_neg (by omega), if_pos (by omega), ES.out, Nat.add_sub_cancel_left, ex, ey]
      obtain ⟨W, eW⟩ : ∃ W, W = wr.alloc (.cells #[Value.int .u8 (y : Nat)] 5) := ⟨_, rfl⟩
      have M3 : Made wr.heap.size wr W := by rw [eW]; exact (Made.rfl_ _ _).cells (Nat.le_refl _) _ _
      have B3 : By W (some ⟨wr.heap.size, 0, none⟩) 1 (fun _ => y) := by rw [eW]; exact By.one wr y
      have hs3 : w.heap.size ≤ W.heap.size := Nat.le_trans HM2.out.1.size M3.1.size
      obtain ⟨v4, w4, hr, hO, hg, hz⟩ := append_by (c := 1) 22 (HO2.out.kept M3) B3 (by omega) hs3
      have HR2 := hid hr
      have M4 : Hid (Made w.heap.size w w4) := (HM2.out.then_ (M3.low HM2.out.1.size)).app hg hz hs3 (fun b hb => ((HO2.out.kept M3).lt b hb).1)
      have O4 : Hid (OB w4 w.heap.size v4 (n + (k + 1)) (sealB f n)) := by
        refine hO.congr fun i hi => ?_
        unfold joinB
        by_cases h : i < n + k
        · rw [if_pos h]
        · rw [if_neg h, show i = n + k by omega, HY.out]
      rw [eW] at HR2
      clear hr hO hg hz M3 B3 hs3 eW HY ex ey ez
      go_wp2_with (at_builtin; refine Lib.wpList_append_run _ rfl _ _ _ _ rfl _ _ rfl rfl _ _ HR2.out ?_)
      go_roundg (4 - k - 1)
      case rel => exact ⟨k + 1, by omega, by go_num, by rw [HZ.out], O4.out, M4.out⟩
      case measure => omega
    · have e : k = 4 := by omega
      subst e
      go_wp2_with fail
      go_ret
      exact ⟨_, rfl, HO2.out, HM2.out⟩
end Go.Proofs.YtfkggnlefblniaaDoor.Fx
