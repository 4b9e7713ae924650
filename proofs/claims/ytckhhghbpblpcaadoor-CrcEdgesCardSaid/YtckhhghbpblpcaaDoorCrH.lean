/- The walk of CrcEdges. -/
import Derived.Test.YtckhhghbpblpcaaDoorCrF
import Derived.Test.YtckhhghbpblpcaaDoorCrO
namespace Go.Proofs.YtckhhghbpblpcaaDoor.Fx
open Go.ChangeShapes Go.WideShapes Go.ChangeAt Go.RowKit
set_option linter.unusedVariables false

theorem xor8e {a b : Nat} (ha : a < 256) (hb : b < 256) : bits .xor .u8 (a : Int) (b : Int) = ((a ^^^ b : Nat) : Int) := u8_xor_nat a b ha hb
theorem ret_b' {a b : Bool} (h : a = b) : Ending.returned (.bool a) = .returned (.bool b) := by rw [h]
theorem part8_le (f g : Nat → Nat) (n : Nat) : part8 f g n ≤ 8 * n := by rw [part8_cnt]; exact cnt_le _ _
set_option maxRecDepth 100000 in
set_option maxHeartbeats 8000000 in
theorem crcedges_walk {n c mask : Nat} {ao : Option Addr} {f : Nat → Nat} {at_ : Int} {w : World} (hT : Tab w) (hA : ByIn w ao n c f) (hm : mask < 4294967296) (h1 : -9223372036854775808 ≤ at_) (h2 : at_ ≤ 9223372036854775807) :
    Calls Tryd.prog 5 #[.slice ao n c, .int .i64 at_, .int .u32 (mask : Nat)] w fun e w' => e = .returned (.bool true) ∧ Below w.heap.size w w' := by
  obtain ⟨hA, hf, hna, hca⟩ := hA
  have HA := hid hA; have HT := hid hT; have HF := hid hf
  clear hA hT hf hna
  go_enter Tryd.func5, Tryd.ntmps5
  go_wp2_with fail
  refine (cfit_c HT.out).mono ?_
  rintro e w1 ⟨rfl, hw1⟩
  have HA1 := hid (HA.out.bel hw1)
  have HW1 := hid hw1
  clear hw1 HA HT
  by_cases hlen : n > 200
  · go_wp2_with fail
    go_ret
    exact ⟨rfl, HW1.out⟩
  by_cases hlo : at_ < -1099511627776
  · go_wp2_with fail
    go_ret
    exact ⟨rfl, HW1.out⟩
  by_cases hhi : at_ > 1099511627776
  · go_wp2_with fail
    go_ret
    exact ⟨rfl, HW1.out⟩
  go_wp2_with fail
  refine (cbend_c (at_ := at_) HF.out HA1.out (by omega) hm (by omega) (by omega)).mono ?_
  rintro e w2 ⟨v2, rfl, hO, hM⟩
  obtain ⟨o2, c2, rfl, _, _, _⟩ := hO.shape
  have HB2 := hid hO.by_
  have HA2 := hid (HA1.out.kept hM)
  have HM2 := hid hM
  have HBL : Hid (∀ i, bendB f at_ mask 32 i < 256) := bendB_lt HF.out at_ mask 32
  have HE : Hid (part8 f (bendB f at_ mask 32) n = cnt (fun k => decide (0 ≤ at_ + k ∧ at_ + k < ((8 * n : Nat) : Int)) && mask.testBit k) 32) := part8_bend f at_ mask n
  obtain ⟨B, eB⟩ : ∃ B, bendB f at_ mask 32 = B := ⟨_, rfl⟩
  rw [eB] at HB2 HBL HE
  obtain ⟨N, eN⟩ : ∃ N, 8 * n = N := ⟨_, rfl⟩
  have eN2 : (8 : Int) * (n : Int) = (N : Int) := by omega
  rw [eN] at HE
  have EN := hid eN
  clear hO hM eB eN HA1
  go_wp2_with fail
  go_loopg [8, 33] n (fun g s i wx => ∃ k : Nat, k + g = n ∧ i = .int .i64 (k : Nat) ∧ s = .int .i64 (part8 f B k : Nat) ∧ Hid (Made w2.heap.size w2 wx))
  case atStart => exact ⟨0, by omega, by first | rfl | trivial, rfl, Made.rfl_ _ _⟩
  case round =>
    obtain ⟨k, hk, rfl, rfl, HM⟩ := hrel
    by_cases hlt : k < n
    · have ha3 := HA2.out.kept HM.out
      have hb3 := HB2.out.kept HM.out
      obtain ⟨b, off, rfl, hc⟩ := ha3 (by omega)
      obtain ⟨b4, off4, rfl, hc4⟩ := hb3 (by omega)
      have c0 := hc k hlt
      have c4 := hc4 k hlt
      obtain ⟨x, ex⟩ : ∃ x, f k = x := ⟨_, rfl⟩
      obtain ⟨y, ey⟩ : ∃ x, B k = x := ⟨_, rfl⟩
      have lx : x < 256 := by rw [← ex]; exact HF.out k
      have ly : y < 256 := by rw [← ey]; exact HBL.out k
      rw [ex] at c0
      rw [ey] at c4
      have x1 := xor8e lx ly
      obtain ⟨X, eX⟩ : ∃ X, x ^^^ y = X := ⟨_, rfl⟩
      have lX : X < 256 := by rw [← eX]; exact Nat.xor_lt_two_pow (n := 8) lx ly
      rw [eX] at x1
      obtain ⟨P, eP⟩ : ∃ P, part8 f B k = P := ⟨_, rfl⟩
      have lP : P ≤ 8 * k := by rw [← eP]; exact part8_le f B k
      have HP : Hid (part8 f B (k + 1) = P + cnt (fun t => X.testBit t) 8) := by
        unfold Hid
        show part8 f B k + cnt (fun t => (f k ^^^ B k).testBit t) 8 = _
        rw [eP, ex, ey, eX]
      rw [eP]
      clear hc hc4 ha3 hb3 ex ey eX eP
      go_upto_region 10 with fail
      refine reg_made (by kernel_rfl) (by kernel_rfl) ?_
      intro T hTT fw hfw
      have d0 := Class.reads hfw c0
      have d4 := Class.reads hfw c4
      repeat (go_big_quiet_step (fail))
      refine wpQuiet_nil ?_
      intro w3 h3
      have k3 := hfw.here h3
      have HM3 := hid (HM.out.then_ (k3.low HM.out.1.size))
      clear h3 k3 hfw d0 d4 c0 c4 HM
      go_wp2_with fail
      go_loopg [8, 10] 8 (fun g s i wx => ∃ t : Nat, t + g = 8 ∧ i = .int .u8 (X / 2 ^ t : Nat) ∧ s = .int .i64 ((P + cnt (fun t => X.testBit t) t : Nat)) ∧ Hid (w3 = wx))
      case atStart => exact ⟨0, by omega, by simp, by simp [cnt], rfl⟩
      case round =>
        obtain ⟨t, ht, rfl, rfl, HW⟩ := hrel
        have hW := HW.out
        subst hW
        obtain ⟨q, eq⟩ : ∃ q, P + cnt (fun t => X.testBit t) t = q := ⟨_, rfl⟩
        have lq : q ≤ 8 * k + t := by
          have := cnt_le (fun t => X.testBit t) t
          omega
        obtain ⟨u, eu⟩ : ∃ u, X / 2 ^ t = u := ⟨_, rfl⟩
        have lu : u < 256 := by rw [← eu]; exact Nat.lt_of_le_of_lt (Nat.div_le_self _ _) lX
        rw [eq, eu]
        by_cases hu : u = 0
        · subst hu
          have HN : Hid (q = part8 f B (k + 1)) := by
            unfold Hid
            rw [HP.out, ← eq, cnt_stop lX (by omega) eu]
          clear eq eu
          go_wp2_with fail
          go_roundg (n - k - 1)
          case rel => exact ⟨k + 1, by omega, by go_num, by rw [HN.out], HM3.out⟩
          case measure => omega
        · have ht8 : t < 8 := by
            rcases Nat.lt_or_ge t 8 with h | h
            · exact h
            · have e : t = 8 := by omega
              subst e
              omega
          have hpos : 0 < u := by omega
          have a1 := and1_8 lu
          obtain ⟨z, ez⟩ : ∃ z, u % 2 = z := ⟨_, rfl⟩
          have lz : z ≤ 1 := by omega
          rw [ez] at a1
          obtain ⟨u2, eu2⟩ : ∃ z, u / 2 = z := ⟨_, rfl⟩
          have d2 : (u : Int) / 2 = (u2 : Int) := by omega
          have HU : Hid (u2 = X / 2 ^ (t + 1)) := by
            unfold Hid
            rw [← eu2, ← eu, Nat.div_div_eq_div_mul, Nat.pow_succ]
          have HZ : Hid (q + z = P + cnt (fun t => X.testBit t) (t + 1)) := by
            unfold Hid
            show _ = P + (cnt (fun t => X.testBit t) t + (X.testBit t).toNat)
            rw [← eq, ← ez, ← eu, bit_nat]
            omega
          clear eq eu ez eu2 hu
          go_wp2_with fail
          go_roundg (8 - t - 1)
          case rel => exact ⟨t + 1, by omega, by rw [← HU.out], by rw [← HZ.out]; go_num, rfl⟩
          case measure => omega
    · have e : k = n := by omega
      subst e
      obtain ⟨S, eS⟩ : ∃ S, part8 f B k = S := ⟨_, rfl⟩
      rw [eS] at HE
      rw [eS]
      clear eS
      go_wp2_with fail
      go_loopg [11, 55] 32 (fun g s i wx => ∃ m : Nat, m + g = 32 ∧ i = .int .i64 (m : Nat) ∧ s = .int .i64 (cnt (fun k => decide (0 ≤ at_ + k ∧ at_ + k < (N : Int)) && mask.testBit k) m : Nat) ∧ Hid (wr = wx))
      case atStart => exact ⟨0, by omega, by first | rfl | trivial, rfl, rfl⟩
      case round =>
        obtain ⟨m, hm2, rfl, rfl, HW⟩ := hrel
        have hW := HW.out
        subst hW
        obtain ⟨q, eq⟩ : ∃ q, cnt (fun k => decide (0 ≤ at_ + k ∧ at_ + k < (N : Int)) && mask.testBit k) m = q := ⟨_, rfl⟩
        have lq : q ≤ m := by rw [← eq]; exact cnt_le _ _
        rw [eq]
        by_cases hltm : m < 32
        · have HN : Hid (cnt (fun k => decide (0 ≤ at_ + k ∧ at_ + k < (N : Int)) && mask.testBit k) (m + 1) = q + (decide (0 ≤ at_ + m ∧ at_ + m < (N : Int)) && mask.testBit m).toNat) := by
            unfold Hid
            show cnt (fun k => decide (0 ≤ at_ + k ∧ at_ + k < (N : Int)) && mask.testBit k) m + _ = _
            rw [eq]
          clear eq
          by_cases hi1 : 0 ≤ at_ + m
          · by_cases hi2 : at_ + m < (N : Int)
            · have d1 := div_cast mask m
              obtain ⟨y, ey⟩ : ∃ y, mask / 2 ^ m = y := ⟨_, rfl⟩
              have ly : y < 4294967296 := by rw [← ey]; exact Nat.lt_of_le_of_lt (Nat.div_le_self _ _) hm
              have a1 := and1_32 ly
              obtain ⟨z, ez⟩ : ∃ z, y % 2 = z := ⟨_, rfl⟩
              have lz : z ≤ 1 := by omega
              rw [ez] at a1
              have HZ : Hid (cnt (fun k => decide (0 ≤ at_ + k ∧ at_ + k < (N : Int)) && mask.testBit k) (m + 1) = q + z) := by
                unfold Hid
                rw [HN.out, decide_eq_true ⟨hi1, hi2⟩, Bool.true_and, ← bit_nat, ey, ez]
              rw [ey] at d1
              clear ey ez HN
              go_wp2_with fail
              go_roundg (32 - m - 1)
              case rel => exact ⟨m + 1, by omega, by go_num, by rw [HZ.out]; go_num, rfl⟩
              case measure => omega
            · have HZ : Hid (cnt (fun k => decide (0 ≤ at_ + k ∧ at_ + k < (N : Int)) && mask.testBit k) (m + 1) = q) := by
                unfold Hid
                rw [HN.out, decide_eq_false (fun h => hi2 h.2)]; rfl
              clear HN
              go_wp2_with fail
              go_roundg (32 - m - 1)
              case rel => exact ⟨m + 1, by omega, by go_num, by rw [HZ.out], rfl⟩
              case measure => omega
          · have HZ : Hid (cnt (fun k => decide (0 ≤ at_ + k ∧ at_ + k < (N : Int)) && mask.testBit k) (m + 1) = q) := by
              unfold Hid
              rw [HN.out, decide_eq_false (fun h => hi1 h.1)]; rfl
            clear HN
            go_wp2_with fail
            go_roundg (32 - m - 1)
            case rel => exact ⟨m + 1, by omega, by go_num, by rw [HZ.out], rfl⟩
            case measure => omega
        · have e : m = 32 := by omega
          subst e
          have HS : Hid (S = q) := by unfold Hid; rw [HE.out, eq]
          have hS := HS.out
          subst hS
          clear eq
          go_wp2_with fail
          go_ret
          first
            | exact ⟨rfl, HW1.out.trans ((HM2.out.then_ (HM.out.low HM2.out.1.size)).1.mono HW1.out.size)⟩
            | exact ⟨ret_b' (by simp), HW1.out.trans ((HM2.out.then_ (HM.out.low HM2.out.1.size)).1.mono HW1.out.size)⟩
theorem crcedges_i {n c : Nat} {ao : Option Addr} {f : Nat → Nat} {at_ m : Int} {w : World} (hT : Tab w) (hA : ByIn w ao n c f) (h1 : (Lit.int .i64 at_).wf = true) (h2 : (Lit.int .u32 m).wf = true) :
    Calls Tryd.prog 5 #[.slice ao n c, .int .i64 at_, .int .u32 m] w fun e w' => e = .returned (.bool true) ∧ Below w.heap.size w w' := by
  have b1 := bounds_i64 h1
  have b2 := bounds_u32 h2
  have h := crcedges_walk (mask := m.toNat) (at_ := at_) hT hA (by omega) (by omega) (by omega)
  rwa [show ((m.toNat : Nat) : Int) = m by omega] at h
end Go.Proofs.YtckhhghbpblpcaaDoor.Fx
