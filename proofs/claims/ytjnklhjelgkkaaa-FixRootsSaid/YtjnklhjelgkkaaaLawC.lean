/- FixAdds: the walk. -/
import Derived.Test.YtjnklhjelgkkaaaLawB
import Derived.Deep.DeepCutAuto
namespace Go.Proofs.Ytjnklhjelgkkaaa.Fx
open Go.ChangeShapes Go.WideShapes Go.ChangeAt Go.RowKit
set_option linter.unusedVariables false

theorem addF_comm (a b : Int) : addF a b = addF b a := by unfold addF; rw [Int.add_comm]
theorem cl_of {a : Int} (h : -9223372036854775807 ≤ a) : cl a = a := by unfold cl; rw [if_neg (by omega)]
theorem negF_of {a : Int} (h : -9223372036854775807 ≤ a) : negF a = -a := by unfold negF; rw [cl_of h]
theorem sat_neg (a : Int) : sat (-a) = - sat a := by unfold sat; (repeat' split) <;> omega
theorem cl_neg {a : Int} (h : L ≤ a ∧ a ≤ M) : cl (-a) = - cl a := by unfold cl L M at *; (repeat' split) <;> omega
theorem subF_eq {a b : Int} (hb : L ≤ b ∧ b ≤ M) : subF a b = addF a (-b) := by
  unfold subF; rw [negF_of hb.1]
theorem subF_anti {a b : Int} (ha : L ≤ a ∧ a ≤ M) (hb : L ≤ b ∧ b ≤ M) : subF a b = - subF b a := by
  rw [subF_eq hb, subF_eq ha]; unfold addF; rw [← sat_neg, cl_neg ha, cl_neg hb]
  congr 1; omega
theorem gtrans {a b c : World} {k j : Nat} (h : Grown (a.drewN k) b) (h2 : Grown (b.drewN j) c) : Grown a c := Grown.trans h h2
theorem subF_bd (a b : Int) : L ≤ subF a b ∧ subF a b ≤ M := sat_bd _
theorem cl_cl (a : Int) : cl (cl a) = cl a := by unfold cl; (repeat' split) <;> omega
set_option maxHeartbeats 1000000 in
theorem adds_walk (a b : Int) (w : World) (ha : I64 a) (hb : I64 b) :
    Calls Try.prog 3 #[.int .i64 a, .int .i64 b] w fun e w' => e = .returned (.bool true) ∧ Grown w w' := by
  have HA : Hid (I64 a) := ha
  have HB : Hid (I64 b) := hb
  obtain ⟨a0, a1⟩ := ha
  obtain ⟨b0, b1⟩ := hb
  go_enter Try.func3, Try.ntmps3
  go_wp2_with fail
  refine (fit_c _).mono ?_
  rintro e w' ⟨rfl, k, rfl⟩
  go_upto_if 8 with fail
  go_cut [0] (fun s0 wx => s0 = .int .i64 (cl a) ∧ wx = w.drewN k)
  case first =>
    by_cases c : a < -9223372036854775807
    · go_wp2_with fail
      go_meet
      exact ⟨by unfold cl; rw [if_pos c], rfl⟩
    · go_wp2_with fail
      go_meet
      exact ⟨by unfold cl; rw [if_neg (by omega)], rfl⟩
  case rest =>
    obtain ⟨rfl, rfl⟩ := hcut
    go_upto_if 10 with fail
    go_cut [1] (fun s1 wx => s1 = .int .i64 (cl b) ∧ wx = w.drewN k)
    case first =>
      by_cases c : b < -9223372036854775807
      · go_wp2_with fail
        go_meet
        exact ⟨by unfold cl; rw [if_pos c], rfl⟩
      · go_wp2_with fail
        go_meet
        exact ⟨by unfold cl; rw [if_neg (by omega)], rfl⟩
    case rest =>
      obtain ⟨rfl, rfl⟩ := hcut
      have hA := cl_bd HA.out
      have hB := cl_bd HB.out
      clear HA HB a0 a1 b0 b1
      generalize cl a = A at *
      generalize cl b = B at *
      have ia : I64 A := by unfold L M I64 at *; omega
      have ib : I64 B := by unfold L M I64 at *; omega
      have inb : I64 (-B) := by unfold L M I64 at *; omega
      have E1 : Hid _ := subF_eq (a := A) hB
      have E2 : Hid _ := negF_of hA.1
      have E3 : Hid _ := addF_comm A B
      have E4 : Hid _ := subF_anti hA hB
      obtain ⟨x0, x1⟩ := absF_bd ia
      obtain ⟨y0, y1⟩ := subF_bd B A
      obtain ⟨c0, c1⟩ := hA
      obtain ⟨d0, d1⟩ := hB
      simp only [L, M] at c0 c1 d0 d1 x1 y0 y1
      go_wp2_with fail
      refine (add_c A B _ ia ib).mono ?_
      rintro e w' ⟨rfl, rfl⟩
      go_wp2_with fail
      refine (lsum_c A B _ ia ib).mono ?_
      rintro e w1 ⟨rfl, hg1⟩
      go_wp2_with fail
      refine (sub_c A B _ ia ib).mono ?_
      rintro e w' ⟨rfl, rfl⟩
      rw [E1.out]
      go_wp2_with fail
      refine (lsum_c A (-B) _ ia inb).mono ?_
      rintro e w2 ⟨rfl, hg2⟩
      go_wp2_with fail
      refine (neg_c A _ ia).mono ?_
      rintro e w' ⟨rfl, rfl⟩
      rw [E2.out]
      go_wp2_with fail
      refine (abs_c A _ ia).mono ?_
      rintro e w' ⟨rfl, rfl⟩
      go_wp2_with fail
      refine (lsize_c A _ ia).mono ?_
      rintro e w' ⟨rfl, rfl⟩
      go_wp2_with fail
      refine (add_c A B _ ia ib).mono ?_
      rintro e w' ⟨rfl, rfl⟩
      go_wp2_with fail
      refine (add_c B A _ ib ia).mono ?_
      rintro e w' ⟨rfl, rfl⟩
      rw [← E3.out]
      go_wp2_with fail
      refine (sub_c A B _ ia ib).mono ?_
      rintro e w' ⟨rfl, rfl⟩
      go_wp2_with fail
      refine (sub_c B A _ ib ia).mono ?_
      rintro e w' ⟨rfl, rfl⟩
      rw [E4.out]
      go_wp2_with fail
      go_ret
      exact ⟨by simp, gtrans (j := 0) hg1.grown hg2.grown⟩
end Go.Proofs.Ytjnklhjelgkkaaa.Fx
