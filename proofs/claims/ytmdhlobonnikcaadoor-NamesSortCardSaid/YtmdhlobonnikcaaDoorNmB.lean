/- Package names: names of checkpoints and of segments; a digit's value; a number. -/
import Derived.Test.YtmdhlobonnikcaaDoorNmA
import Derived.Laws.IdiomStrings
import Derived.Laws.Strings2
import Derived.Lib.BitFns
namespace Go.Proofs.YtmdhlobonnikcaaDoor.Fx
open Go.ChangeShapes Go.WideShapes Go.ChangeAt Go.RowKit
set_option linter.unusedVariables false

set_option maxRecDepth 100000 in
set_option maxHeartbeats 2000000 in
theorem check_c {N : Nat} {w : World} (hN : N < 9223372036854775808) (hT : TabN w) : Calls Tryd.prog 9 #[.int .i64 (N : Nat)] w fun e w' => e = .returned (.string (nmB 99 N)) ∧ Made w.heap.size w w' := by
  have HT := hid hT
  clear hT
  go_enter Tryd.func9, Tryd.ntmps9
  go_wp2_with fail
  refine (name_c (c := 99) (by omega) hN HT.out).mono ?_
  rintro e w1 ⟨rfl, hM⟩
  have HM := hid hM
  clear hM
  go_wp2_with fail
  go_ret
  exact ⟨rfl, HM.out⟩
set_option maxRecDepth 100000 in
set_option maxHeartbeats 2000000 in
theorem segment_c {N : Nat} {w : World} (hN : N < 9223372036854775808) (hT : TabN w) : Calls Tryd.prog 10 #[.int .i64 (N : Nat)] w fun e w' => e = .returned (.string (nmB 106 N)) ∧ Made w.heap.size w w' := by
  have HT := hid hT
  clear hT
  go_enter Tryd.func10, Tryd.ntmps10
  go_wp2_with fail
  refine (name_c (c := 106) (by omega) hN HT.out).mono ?_
  rintro e w1 ⟨rfl, hM⟩
  have HM := hid hM
  clear hM
  go_wp2_with fail
  go_ret
  exact ⟨rfl, HM.out⟩
def digV : Array Value := #[.int .u8 48, .int .u8 49, .int .u8 50, .int .u8 51, .int .u8 52, .int .u8 53, .int .u8 54, .int .u8 55, .int .u8 56, .int .u8 57, .int .u8 97, .int .u8 98, .int .u8 99, .int .u8 100, .int .u8 101, .int .u8 102]
theorem dig_at (k : Nat) (hk : k < 16) (w : World) : (Instr.index 46 (.agg digV) (.int .i64 (k : Nat))).run Tryd.prog w = .ok (.int .u8 (hexd k : Nat)) w := by
  have : k = 0 ∨ k = 1 ∨ k = 2 ∨ k = 3 ∨ k = 4 ∨ k = 5 ∨ k = 6 ∨ k = 7 ∨ k = 8 ∨ k = 9 ∨ k = 10 ∨ k = 11 ∨ k = 12 ∨ k = 13 ∨ k = 14 ∨ k = 15 := by omega
  rcases this with rfl | rfl | rfl | rfl | rfl | rfl | rfl | rfl | rfl | rfl | rfl | rfl | rfl | rfl | rfl | rfl <;> first | rfl | (unfold hexd; rfl) | (simp [Instr.index, asIntOf, run_underlying Tryd.underlying46]; trace_state; done)
theorem hexv_of {k c : Nat} (hk : k < 16) (h : hexd k = c) : hexv c = k := by rw [← h, hexv_hexd hk]
theorem hexv_none {c : Nat} (h : ∀ j, j < 16 → hexd j ≠ c) : ¬ hexv c < 16 := fun h2 => h _ h2 (hexd_hexv h2)
set_option maxRecDepth 100000 in
set_option maxHeartbeats 4000000 in
theorem value_c {c : Nat} {w : World} (hc : c < 256) (hT : TabN w) :
    Calls Tryd.prog 17 #[.int .u8 (c : Nat)] w fun e w' => e = .returned (.tuple #[.int .u64 ((if hexv c < 16 then hexv c else 0 : Nat) : Int), .bool (decide (hexv c < 16))]) ∧ w = w' := by
  have t0 := hT 0 (by omega); have t1 := hT 1 (by omega); have t2 := hT 2 (by omega); have t3 := hT 3 (by omega)
  have t4 := hT 4 (by omega); have t5 := hT 5 (by omega); have t6 := hT 6 (by omega); have t7 := hT 7 (by omega)
  have t8 := hT 8 (by omega); have t9 := hT 9 (by omega); have t10 := hT 10 (by omega); have t11 := hT 11 (by omega)
  have t12 := hT 12 (by omega); have t13 := hT 13 (by omega); have t14 := hT 14 (by omega); have t15 := hT 15 (by omega)
  clear hT
  simp only [show hexd 0 = 48 from rfl, show hexd 1 = 49 from rfl, show hexd 2 = 50 from rfl, show hexd 3 = 51 from rfl, show hexd 4 = 52 from rfl, show hexd 5 = 53 from rfl, show hexd 6 = 54 from rfl, show hexd 7 = 55 from rfl, show hexd 8 = 56 from rfl, show hexd 9 = 57 from rfl, show hexd 10 = 97 from rfl, show hexd 11 = 98 from rfl, show hexd 12 = 99 from rfl, show hexd 13 = 100 from rfl, show hexd 14 = 101 from rfl, show hexd 15 = 102 from rfl] at t0 t1 t2 t3 t4 t5 t6 t7 t8 t9 t10 t11 t12 t13 t14 t15
  obtain ⟨A, eA⟩ : ∃ A, (if hexv c < 16 then hexv c else 0) = A := ⟨_, rfl⟩
  obtain ⟨q, eq⟩ : ∃ q, decide (hexv c < 16) = q := ⟨_, rfl⟩
  rw [eA, eq]
  have EA := hid eA; have EQ := hid eq
  clear eA eq
  go_enter Tryd.func17, Tryd.ntmps17
  go_wp2_with fail
  clear t0 t1 t2 t3 t4 t5 t6 t7 t8 t9 t10 t11 t12 t13 t14 t15
  rw [show (#[.int .u8 48, .int .u8 49, .int .u8 50, .int .u8 51, .int .u8 52, .int .u8 53, .int .u8 54, .int .u8 55, .int .u8 56, .int .u8 57, .int .u8 97, .int .u8 98, .int .u8 99, .int .u8 100, .int .u8 101, .int .u8 102] : Array Value) = digV from rfl]
  obtain ⟨V, eV⟩ : ∃ V, digV = V := ⟨_, rfl⟩
  have HV : Hid (∀ k, k < 16 → ∀ w, (Instr.index 46 (.agg V) (.int .i64 (k : Nat))).run Tryd.prog w = .ok (.int .u8 (hexd k : Nat)) w) := by rw [← eV]; exact dig_at
  rw [eV]
  clear eV
  go_loopg [4, 5, 7] 16 (fun g a b i wx => ∃ k : Nat, k + g = 16 ∧ i = .int .i64 (k : Nat) ∧ Hid (∀ j, j < k → hexd j ≠ c) ∧ Hid (w = wx))
  case atStart => exact ⟨0, by omega, rfl, fun j hj => absurd hj (by omega), rfl⟩
  case round =>
    obtain ⟨k, hk, rfl, HS, HW⟩ := hrel
    have hW := HW.out
    subst hW
    by_cases hlt : k < 16
    · have hx := HV.out k hlt w
      obtain ⟨d, ed⟩ : ∃ d, hexd k = d := ⟨_, rfl⟩
      have ld : d < 256 := by rw [← ed]; exact hexd_lt hlt
      rw [ed] at hx
      have ED := hid ed
      clear ed
      by_cases hq : d = c
      · have e0 : ((d : Int) == (c : Int)) = true := by simp; omega
        have hv := hexv_of hlt (ED.out.trans hq)
        have HR : Hid (A = k) := by unfold Hid; rw [← EA.out, if_pos (by omega), hv]
        have HD : Hid (q = true) := by unfold Hid; rw [← EQ.out]; exact decide_eq_true (by omega)
        have lk : (k : Int) % 18446744073709551616 = (k : Int) := by omega
        clear hv hq
        go_wp2_with fail
        refine bodyPost_ret (v := .tuple #[.int .u64 (k : Nat), .bool true]) (by simp [results, Tryd.results17, go_sem]) rfl ?_
        exact ⟨by rw [HD.out, HR.out], rfl⟩
      · have e0 : ((d : Int) == (c : Int)) = false := by simp; omega
        have HS2 : Hid (∀ j, j < k + 1 → hexd j ≠ c) := fun j hj => by
          by_cases e : j = k
          · rw [e, ED.out]; exact hq
          · exact HS.out j (by omega)
        clear hq
        go_wp2_with fail
        go_roundg (16 - k - 1)
        case rel => exact ⟨k + 1, by omega, by go_num, HS2, rfl⟩
        case measure => omega
    · have e : k = 16 := by omega
      subst e
      have HN : Hid (¬ hexv c < 16) := hexv_none HS.out
      go_wp2_with fail
      refine bodyPost_ret (v := .tuple #[.int .u64 0, .bool false]) (by simp [results, Tryd.results17, go_sem]) rfl ?_
      exact ⟨by rw [← EQ.out, ← EA.out, decide_eq_false HN.out, if_neg HN.out]; rfl, rfl⟩
end Go.Proofs.YtmdhlobonnikcaaDoor.Fx
