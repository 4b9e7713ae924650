/- The statements' own numbers and names; the anchor. -/
import Derived.Test.YtmdhlobonnikcaaDoorNmC
namespace Go.Proofs.YtmdhlobonnikcaaDoor.Fx
open Go.ChangeShapes Go.WideShapes Go.ChangeAt Go.RowKit
set_option linter.unusedVariables false

def mayN (n : Int) : Nat := min (if n < 0 then (-(n + 1)).toNat else n.toNat) 4611686018427387904
theorem mayN_le (n : Int) : mayN n ≤ 4611686018427387904 := Nat.min_le_right _ _
theorem iret {a b : Int} (h : a = b) : Ending.returned (.int .i64 a) = .returned (.int .i64 b) := by rw [h]
theorem may_i {n : Int} (h1 : -9223372036854775808 ≤ n) : (mayN n : Int) = min (if n < 0 then -(n + 1) else n) 4611686018427387904 := by
  unfold mayN
  split <;> omega
set_option maxRecDepth 100000 in
set_option maxHeartbeats 2000000 in
theorem may_c {n : Int} {w : World} (h1 : -9223372036854775808 ≤ n) (h2 : n ≤ 9223372036854775807) : Calls Tryd.prog 8 #[.int .i64 n] w fun e w' => e = .returned (.int .i64 (mayN n : Nat)) ∧ w = w' := by
  have HM := hid (may_i h1)
  by_cases hn : n < 0
  · rw [if_pos hn] at HM
    have e0 : decide (n < 0) = true := decide_eq_true hn
    have HM2 := hid HM
    go_enter Tryd.func8, Tryd.ntmps8
    go_wp2_with fail
    all_goals (go_ret; exact ⟨iret (by have := HM.out; omega), rfl⟩)
  · rw [if_neg hn] at HM
    have e0 : decide (n < 0) = false := decide_eq_false hn
    go_enter Tryd.func8, Tryd.ntmps8
    go_wp2_with fail
    all_goals (go_ret; exact ⟨iret (by have := HM.out; omega), rfl⟩)
def hexS : ByteArray := ⟨#[48, 49, 50, 51, 52, 53, 54, 55, 56, 57, 97, 98, 99, 100, 101, 102]⟩
theorem hexS_at (v : Nat) (hv : v < 16) : hexS.extract v (v + 1) = strB (fun _ => hexd v) 1 := by
  have : v = 0 ∨ v = 1 ∨ v = 2 ∨ v = 3 ∨ v = 4 ∨ v = 5 ∨ v = 6 ∨ v = 7 ∨ v = 8 ∨ v = 9 ∨ v = 10 ∨ v = 11 ∨ v = 12 ∨ v = 13 ∨ v = 14 ∨ v = 15 := by omega
  rcases this with rfl | rfl | rfl | rfl | rfl | rfl | rfl | rfl | rfl | rfl | rfl | rfl | rfl | rfl | rfl | rfl <;> decide +kernel
/-- the last k digits -/
def lastS (N k : Nat) : ByteArray := strB (fun i => dg 16 N (16 - k + i)) k
theorem lastS_next (N k : Nat) (hk : k < 16) : strB (fun _ => hexd (N / 16 ^ k % 16)) 1 ++ lastS N k = lastS N (k + 1) := by
  unfold lastS
  rw [strB_app, Nat.add_comm 1 k, strB_ext]
  · intro i hi
    unfold joinB
    split
    · rename_i h0
      have : i = 0 := by omega
      subst this
      unfold dg
      rw [show 16 - 1 - (16 - (k + 1) + 0) = k by omega]
    · show dg 16 N (16 - k + (i - 1)) = _
      rw [show 16 - k + (i - 1) = 16 - (k + 1) + i by omega]
  · intro i
    unfold joinB
    split
    · exact hexd_any _
    · exact dg_lt _ _ _
  · intro i
    exact dg_lt _ _ _
theorem lastS_16 (c N : Nat) : strB (fun _ => c) 1 ++ lastS N 16 = nmB c N := by
  unfold lastS nmB
  rw [strB_app]
  congr 1
  funext i
  unfold joinB nmF
  by_cases h : i = 0
  · rw [if_pos (by omega), if_pos h]
  · rw [if_neg (by omega), if_neg h]
    show dg 16 N (16 - 16 + (i - 1)) = _
    rw [show 16 - 16 + (i - 1) = i - 1 by omega]
set_option maxRecDepth 100000 in
set_option maxHeartbeats 4000000 in
theorem told_c {s : ByteArray} {N : Nat} {w : World} (hs : s.size = 1) (hN : N < 9223372036854775808) : Calls Tryd.prog 12 #[.string s, .int .i64 (N : Nat)] w fun e w' => e = .returned (.string (s ++ lastS N 16)) ∧ w = w' := by
  obtain ⟨L, eL⟩ : ∃ L, s ++ lastS N 16 = L := ⟨_, rfl⟩
  rw [eL]
  have EL := hid eL
  clear eL
  go_enter Tryd.func12, Tryd.ntmps12
  go_wp2_with fail
  go_loopg [1, 5, 6] 16 (fun g x t i wx => ∃ k : Nat, k + g = 16 ∧ x = .int .i64 (N / 16 ^ k : Nat) ∧ t = .string (lastS N k) ∧ i = .int .i64 (k : Nat) ∧ Hid (w = wx))
  case atStart => exact ⟨0, by omega, by simp, rfl, rfl, rfl⟩
  case round =>
    obtain ⟨k, hk, rfl, rfl, rfl, HW⟩ := hrel
    have hW := HW.out
    subst hW
    obtain ⟨x, ex⟩ : ∃ x, N / 16 ^ k = x := ⟨_, rfl⟩
    have lx : x < 9223372036854775808 := by rw [← ex]; exact Nat.lt_of_le_of_lt (Nat.div_le_self _ _) hN
    obtain ⟨t, et⟩ : ∃ t, lastS N k = t := ⟨_, rfl⟩
    have ht : t.size = k := by rw [← et]; exact strB_size _ _
    rw [ex, et]
    by_cases hlt : k < 16
    · have a1 := nand15 x
      obtain ⟨v, ev⟩ : ∃ v, x % 16 = v := ⟨_, rfl⟩
      have lv : v < 16 := by omega
      rw [ev] at a1
      have HD := hid (hexS_at v lv)
      have HL := hid (lastS_next N k hlt)
      rw [ex, ev, et] at HL
      obtain ⟨y, ey⟩ : ∃ y, x / 16 = y := ⟨_, rfl⟩
      have d1 : (x : Int) / 16 = (y : Int) := by omega
      have HY : Hid (N / 16 ^ (k + 1) = y) := by unfold Hid; rw [Nat.pow_succ, ← Nat.div_div_eq_div_mul, ex, ey]
      have HT := hid ht
      clear ex et ev ey ht
      obtain ⟨D, eD⟩ : ∃ D, strB (fun _ => hexd v) 1 = D := ⟨_, rfl⟩
      have hD1 : D.size = 1 := by rw [← eD]; exact strB_size _ _
      have hS : (Instr.slice 9 (.string ⟨#[48, 49, 50, 51, 52, 53, 54, 55, 56, 57, 97, 98, 99, 100, 101, 102]⟩) (some (.int .i64 (v : Nat))) (some (.int .i64 ((v : Nat) + 1))) none).run Tryd.prog w = .ok (.string D) w := by
        rw [run_slice_string w 9 _ .i64 .i64 (v : Nat) ((v : Nat) + 1) Tryd.underlying9 (by omega) (by omega) (by show ((v : Nat) : Int) + 1 ≤ ((16 : Nat) : Int); omega)]
        rw [← eD, ← HD.out]
        rfl
      rw [eD] at HL
      obtain ⟨t', et'⟩ : ∃ t', D ++ t = t' := ⟨_, rfl⟩
      have HL2 : Hid (t' = lastS N (k + 1)) := by unfold Hid; rw [← et', HL.out]
      have a2 : ¬ (9223372036854775807 < D.size + t.size) := by have := HT.out; omega
      clear eD hD1
      go_wp2_with fail
      go_roundg (16 - k - 1)
      case rel => exact ⟨k + 1, by omega, by rw [HY.out], by rw [HL2.out], by go_num, rfl⟩
      case measure => omega
    · have e : k = 16 := by omega
      subst e
      have a2 : ¬ (9223372036854775807 < s.size + t.size) := by omega
      have HE : Hid (s ++ t = L) := by unfold Hid; rw [← et]; exact EL.out
      clear ex et ht hs
      go_wp2_with fail
      go_ret
      exact ⟨by rw [← HE.out]; rfl, rfl⟩
theorem fit_told (N : Nat) : (⟨#[99]⟩ : ByteArray) ++ lastS N 16 = nmB 99 N ∧ (⟨#[106]⟩ : ByteArray) ++ lastS N 16 = nmB 106 N := ⟨lastS_16 99 N, lastS_16 106 N⟩
theorem nm_255 : nmB 99 255 = ⟨#[99, 48, 48, 48, 48, 48, 48, 48, 48, 48, 48, 48, 48, 48, 48, 102, 102]⟩ := by decide +kernel
/-- what is told of a name -/
theorem ParR.of {c n : Nat} {e : Ending} (h : ParR (nmB c n) e) (hn : NmOk c n) : e = .returned (.tuple #[.int .u8 (c : Nat), .int .i64 (n : Nat), .bool true]) := by
  obtain ⟨d, m, q, rfl, h1, h2⟩ := h
  cases q with
  | false => exact absurd rfl ((h2 rfl).2.2 c n hn)
  | true =>
    obtain ⟨k1, k2⟩ := h1 rfl
    obtain ⟨rfl, rfl⟩ := nm_inj hn.c k1.c hn.n k1.n k2
    rfl
theorem nm_max (c n : Nat) : (nmB c n).size ≤ maxLen := by rw [nmB_size]; unfold maxLen; omega
theorem parse_of {c n : Nat} {w : World} (hn : NmOk c n) (hT : TabN w) : Calls Tryd.prog 11 #[.string (nmB c n)] w fun e w' => e = .returned (.tuple #[.int .u8 (c : Nat), .int .i64 (n : Nat), .bool true]) ∧ w = w' :=
  (parse_c (nm_max c n) hT).mono fun e w' h => ⟨h.1.of hn, h.2⟩
set_option maxRecDepth 100000 in
set_option maxHeartbeats 4000000 in
theorem fit_c {w : World} (hT : TabN w) : Calls Tryd.prog 7 #[] w fun e w' => e = .returned (.bool true) ∧ Made w.heap.size w w' := by
  have HT := hid hT
  clear hT
  go_enter Tryd.func7, Tryd.ntmps7
  go_wp2_with fail
  refine (segment_c (N := 255) (by omega) HT.out).mono ?_
  rintro e w1 ⟨rfl, hM⟩
  have HM := hid hM
  have HT1 := hid (HT.out.bel hM.1)
  clear hM
  go_wp2_with fail
  refine (parse_of (c := 106) (n := 255) ⟨.inr rfl, by omega⟩ HT1.out).mono ?_
  rintro e w2 ⟨rfl, rfl⟩
  go_wp2_with fail
  refine (check_c (N := 255) (by omega) HT1.out).mono ?_
  rintro e w3 ⟨rfl, hM⟩
  have HM2 := hid (HM.out.then_ (hM.low HM.out.1.size))
  clear hM
  have q : ((nmB 99 255).toList == [99, 48, 48, 48, 48, 48, 48, 48, 48, 48, 48, 48, 48, 48, 48, 102, 102]) = true := by rw [nm_255, ByteArray.toList_eq]; rfl
  go_wp2_with fail
  go_ret
  exact ⟨rfl, HM2.out⟩
end Go.Proofs.YtmdhlobonnikcaaDoor.Fx
