/- TurnTables: the walk. -/
import Derived.Test.YthagioaenjlofaaTurnF
namespace Go.Proofs.Ythagioaenjlofaa.Fx
open Go.ChangeShapes Go.WideShapes Go.ChangeAt Go.RowKit
set_option linter.unusedVariables false

theorem tabled_is (c s : Int) (b : Bool) (w : World) (e : tabledB c s 1024 = b) :
    Calls Try.prog 13 #[rotV c s] w fun e w' => e = .returned (.bool b) ∧ Made w.heap.size w w' := by subst e; exact tabled_c c s w
set_option maxRecDepth 100000 in
set_option maxHeartbeats 2000000 in
theorem tables_walk (c s n0 : Int) (w : World) (hn : I64 n0) :
    Calls Try.prog 4 #[.int .i64 c, .int .i64 s, .int .i64 n0] w fun e w' => e = .returned (.bool true) ∧ Grown w w' := by
  obtain ⟨n, eN⟩ : ∃ n, bits .and .i64 n0 1023 = n := ⟨_, rfl⟩
  have n0' : 0 ≤ n ∧ n < 1024 := by rw [← eN, and10]; omega
  obtain ⟨n1, n2⟩ := n0'
  have E1 : Hid (stepF (n * 4194304) = n) := by unfold Hid; rw [stepF_at (by omega)]; omega
  have T1 : Hid (tabledB (cs n) (sn n) 1024 = true) := tabledB_yes n n1 n2
  have T2 : Hid (tabledB (cs n) (sn n + 1) 1024 = false) := tabled_next n1 n2
  have T3 : Hid (tabledB (cs n - 3) (sn n) 1024 = false) := tabled_left
  obtain ⟨bs0, bs1⟩ := sn_bd n
  obtain ⟨bc0, bc1⟩ := cs_bd n
  go_enter Try.func4, Try.ntmps4
  go_wp2_with fail
  refine (tfit_c _).mono ?_
  rintro e w1 ⟨rfl, hb1⟩
  go_wp2_with fail
  refine (turnOf_is (n * 4194304) n _ (by unfold I64; omega) E1.out).mono ?_
  rintro e w2 ⟨rfl, hb2⟩
  have G2 : Hid (Grown w w2) := gthen hb1.grown hb2.grown
  clear hb1 hb2
  go_wp2_with fail
  refine (tabled_is (cs n) (sn n) true _ T1.out).mono ?_
  rintro e w3 ⟨rfl, hb3⟩
  have c0 : w3.cell? ⟨w2.heap.size, 0, none⟩ = some (.int .i64 (cs n)) := hb3.reads (by go_simp)
  have c1 : w3.cell? ⟨w2.heap.size, 1, none⟩ = some (.int .i64 (sn n)) := hb3.reads (by go_simp)
  have G3 : Hid (Grown w w3) := gthen (by repeat (first | exact G2.out | apply Grown.drew | apply Grown.alloc)) hb3.grown
  clear hb3
  go_wp2_with fail
  refine (tabled_is (cs n) (sn n + 1) false _ T2.out).mono ?_
  rintro e w4 ⟨rfl, hb4⟩
  have d0 : w4.cell? ⟨w2.heap.size, 0, none⟩ = some (.int .i64 (cs n)) := hb4.reads c0
  have d1 : w4.cell? ⟨w2.heap.size, 1, none⟩ = some (.int .i64 (sn n)) := hb4.reads c1
  have G4 : Hid (Grown w w4) := gthen G3.out hb4.grown
  clear hb4 c0 c1
  go_wp2_with fail
  refine (tabled_is (cs n - 3) (sn n) false _ T3.out).mono ?_
  rintro e w5 ⟨rfl, hb5⟩
  have G5 : Hid (Grown w w5) := gthen G4.out hb5.grown
  clear hb5 d0 d1
  go_wp2_with fail
  go_loopg [8, 38] 1024 (fun g t i wr => ∃ (k : Nat) (b : Bool), k + g = 1024 ∧ i = .int .i64 k ∧ t = .bool b ∧ Hid (tabledB c s k = b) ∧ Hid (Grown w wr))
  case atStart => exact ⟨0, false, by omega, rfl, rfl, rfl, G5.out⟩
  case round =>
    obtain ⟨k, b, hk, rfl, rfl, HT, HM⟩ := hrel
    by_cases hlt : k < 1024
    · cases b with
      | true =>
        have HN : Hid (tabledB c s (k + 1) = true) := by unfold Hid; rw [tabledB_succ, HT.out]; rfl
        go_wp2_with fail
        go_roundg (1023 - k)
        case rel => exact ⟨k + 1, true, by omega, by go_num, rfl, HN, HM.out⟩
        case measure => omega
      | false =>
        by_cases e1 : sn k = s
        · have e1' : (sn k == s) = true := by simpa using e1
          by_cases e2 : cs k = c
          · have e2' : (sn ((k + 256) % 1024) == c) = true := by have h := e2; unfold cs at h; simpa using h
            have HN : Hid (tabledB c s (k + 1) = true) := by unfold Hid; rw [tabledB_succ, e1, e2]; simp
            clear e1 e2
            go_wp2_with fail
            refine (lsine_c k _ (by omega) (by omega)).mono ?_
            rintro e w6 ⟨rfl, hb6⟩
            go_wp2_with fail
            refine (lsine_c ((k + 256) % 1024) _ (by omega) (by omega)).mono ?_
            rintro e w7 ⟨rfl, hb7⟩
            have HG : Hid (Grown w w7) := gthen HM.out (gthen hb6.grown hb7.grown)
            clear hb6 hb7
            go_wp2_with fail
            go_roundg (1023 - k)
            case rel => exact ⟨k + 1, true, by omega, by go_num, rfl, HN, HG.out⟩
            case measure => omega
          · have e2' : (sn ((k + 256) % 1024) == c) = false := by have h := e2; unfold cs at h; simpa using h
            have HN : Hid (tabledB c s (k + 1) = false) := by unfold Hid; rw [tabledB_succ, HT.out]; simp [e2]
            clear e1 e2
            go_wp2_with fail
            refine (lsine_c k _ (by omega) (by omega)).mono ?_
            rintro e w6 ⟨rfl, hb6⟩
            go_wp2_with fail
            refine (lsine_c ((k + 256) % 1024) _ (by omega) (by omega)).mono ?_
            rintro e w7 ⟨rfl, hb7⟩
            have HG : Hid (Grown w w7) := gthen HM.out (gthen hb6.grown hb7.grown)
            clear hb6 hb7
            go_wp2_with fail
            go_roundg (1023 - k)
            case rel => exact ⟨k + 1, false, by omega, by go_num, rfl, HN, HG.out⟩
            case measure => omega
        · have e1' : (sn k == s) = false := by simpa using e1
          have HN : Hid (tabledB c s (k + 1) = false) := by unfold Hid; rw [tabledB_succ, HT.out]; simp [e1]
          clear e1
          go_wp2_with fail
          refine (lsine_c k _ (by omega) (by omega)).mono ?_
          rintro e w6 ⟨rfl, hb6⟩
          have HG : Hid (Grown w w6) := gthen HM.out hb6.grown
          clear hb6
          go_wp2_with fail
          go_roundg (1023 - k)
          case rel => exact ⟨k + 1, false, by omega, by go_num, rfl, HN, HG.out⟩
          case measure => omega
    · have e : k = 1024 := by omega
      subst e
      go_wp2_with fail
      refine (tabled_is c s b _ HT.out).mono ?_
      rintro e w6 ⟨rfl, hb6⟩
      have HG : Hid (Grown w w6) := gthen HM.out hb6.grown
      clear hb6
      go_wp2_with fail
      go_ret
      exact ⟨by simp, HG.out⟩
end Go.Proofs.Ythagioaenjlofaa.Fx
