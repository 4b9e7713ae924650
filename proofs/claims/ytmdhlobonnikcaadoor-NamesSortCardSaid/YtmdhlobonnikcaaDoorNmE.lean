/- The walk of NamesBack. -/
import Derived.Test.YtmdhlobonnikcaaDoorNmD
import Derived.Test.YtmdhlobonnikcaaDoorCrO
namespace Go.Proofs.YtmdhlobonnikcaaDoor.Fx
open Go.ChangeShapes Go.WideShapes Go.ChangeAt Go.RowKit
set_option linter.unusedVariables false

theorem tabN_of {w : World} (h : laidMet Tryd.prog [("bagatelle/names.digits", Rows.laid_bagatelle_names_digits)] w) : TabN w := by
  have hT := Lib.tabIs_of_head (P := Tryd.prog) (W := w) (name := "bagatelle/names.digits") (k := .u8) (zs := [48, 49, 50, 51, 52, 53, 54, 55, 56, 57, 97, 98, 99, 100, 101, 102]) (rest := []) (g := 0) (t := 46) (e := 5) (n := 16) (by kernel_rfl) (by kernel_rfl) Tryd.underlying46 Tryd.underlying5 (by kernel_rfl) (by kernel_rfl) h
  intro i hi
  have := hT.cell (g := 0) (by kernel_rfl) i hi
  rw [this]
  have : i = 0 ∨ i = 1 ∨ i = 2 ∨ i = 3 ∨ i = 4 ∨ i = 5 ∨ i = 6 ∨ i = 7 ∨ i = 8 ∨ i = 9 ∨ i = 10 ∨ i = 11 ∨ i = 12 ∨ i = 13 ∨ i = 14 ∨ i = 15 := by omega
  rcases this with rfl | rfl | rfl | rfl | rfl | rfl | rfl | rfl | rfl | rfl | rfl | rfl | rfl | rfl | rfl | rfl <;> rfl
set_option maxRecDepth 100000 in
set_option maxHeartbeats 8000000 in
theorem namesback_walk {n m : Int} {w : World} (hT : TabN w) (hn : -9223372036854775808 ≤ n ∧ n ≤ 9223372036854775807) (hm : -9223372036854775808 ≤ m ∧ m ≤ 9223372036854775807) :
    Calls Tryd.prog 3 #[.int .i64 n, .int .i64 m] w fun e w' => e = .returned (.bool true) ∧ Made w.heap.size w w' := by
  have HT := hid hT
  have hn1 := hn.1; have hn2 := hn.2; have hm1 := hm.1; have hm2 := hm.2
  clear hT hn hm
  go_enter Tryd.func3, Tryd.ntmps3
  go_wp2_with fail
  refine (fit_c HT.out).mono ?_
  rintro e w1 ⟨rfl, hM⟩
  have HM := hid hM
  have HT1 := hid (HT.out.bel hM.1)
  clear hM HT
  go_wp2_with fail
  refine (may_c hn1 hn2).mono ?_
  rintro e w2 ⟨rfl, rfl⟩
  go_wp2_with fail
  refine (may_c hm1 hm2).mono ?_
  rintro e w2 ⟨rfl, rfl⟩
  have la := mayN_le n; have lb := mayN_le m
  obtain ⟨a, ea⟩ : ∃ a, mayN n = a := ⟨_, rfl⟩
  obtain ⟨b, eb⟩ : ∃ b, mayN m = b := ⟨_, rfl⟩
  rw [ea] at la ⊢
  rw [eb] at lb ⊢
  clear ea eb hn1 hn2 hm1 hm2
  go_wp2_with fail
  refine (check_c (N := a) (by omega) HT1.out).mono ?_
  rintro e w2 ⟨rfl, hM⟩
  have HM2 := hid (HM.out.then_ (hM.low HM.out.1.size))
  have HT2 := hid (HT1.out.bel hM.1)
  clear hM HM HT1
  go_wp2_with fail
  refine (segment_c (N := a) (by omega) HT2.out).mono ?_
  rintro e w3 ⟨rfl, hM⟩
  have HM3 := hid (HM2.out.then_ (hM.low HM2.out.1.size))
  have HT3 := hid (HT2.out.bel hM.1)
  clear hM HM2 HT2
  go_wp2_with fail
  refine (parse_of (c := 99) (n := a) ⟨.inl rfl, la⟩ HT3.out).mono ?_
  rintro e w4 ⟨rfl, rfl⟩
  go_wp2_with fail
  refine (parse_of (c := 106) (n := a) ⟨.inr rfl, la⟩ HT3.out).mono ?_
  rintro e w4 ⟨rfl, rfl⟩
  have F := fit_told a
  have F1 := hid F.1; have F2 := hid F.2
  clear F
  go_wp2_with fail
  refine (told_c (s := ⟨#[99]⟩) rfl (by omega)).mono ?_
  rintro e w4 ⟨rfl, rfl⟩
  rw [F1.out]
  have q1 : ((nmB 99 a).toList == (nmB 99 a).toList) = true := str_yes rfl
  go_wp2_with fail
  refine (told_c (s := ⟨#[106]⟩) rfl (by omega)).mono ?_
  rintro e w4 ⟨rfl, rfl⟩
  rw [F2.out]
  have q2 : ((nmB 106 a).toList == (nmB 106 a).toList) = true := str_yes rfl
  go_wp2_with fail
  refine (check_c (N := b) (by omega) HT3.out).mono ?_
  rintro e w4 ⟨rfl, hM⟩
  have HM4 := hid (HM3.out.then_ (hM.low HM3.out.1.size))
  have HT4 := hid (HT3.out.bel hM.1)
  clear hM HM3 HT3
  have l1 : Op.bytesLess (nmB 99 b).toList (nmB 99 a).toList = decide ((b : Int) < (a : Int)) := by
    rw [nm_less (by omega) (by omega)]
    exact decide_eq_decide.2 (by omega)
  obtain ⟨d, ed⟩ : ∃ d, decide ((b : Int) < (a : Int)) = d := ⟨_, rfl⟩
  rw [ed] at l1
  have ed2 : decide (b < a) = d := by rw [← ed]; exact decide_eq_decide.2 (by omega)
  have q3 : (d == d) = true := by cases d <;> rfl
  have l2 : ((nmB 99 b).toList == (nmB 99 a).toList) = ((b : Int) == (a : Int)) := by
    by_cases e : b = a
    · subst e; rw [str_yes rfl]; simp
    · rw [str_no fun h => e (nm_inj (by omega) (by omega) (by omega) (by omega) h).2]; simp; omega
  obtain ⟨f, ef⟩ : ∃ f, ((b : Int) == (a : Int)) = f := ⟨_, rfl⟩
  rw [ef] at l2
  have ef2 : (b == a) = f := by
    rw [← ef]
    by_cases e : b = a
    · subst e; simp
    · rw [beq_false_of_ne e, beq_false_of_ne (by omega)]
  have q4 : (f == f) = true := by cases f <;> rfl
  go_wp2_with fail
  refine (check_c (N := b) (by omega) HT4.out).mono ?_
  rintro e w5 ⟨rfl, hM⟩
  have HM5 := hid (HM4.out.then_ (hM.low HM4.out.1.size))
  clear hM
  go_wp2_with fail
  go_ret
  exact ⟨rfl, HM5.out⟩
theorem bd64 {n : Int} (h : (Lit.int .i64 n).wf = true) : -9223372036854775808 ≤ n ∧ n ≤ 9223372036854775807 := (by have := bounds_i64 h; omega)
end Go.Proofs.YtmdhlobonnikcaaDoor.Fx
