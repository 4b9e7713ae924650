/- The walk of CrcSums. -/
import Derived.Test.YtckhhghbpblpcaaDoorCrF
import Derived.Test.YtckhhghbpblpcaaDoorCrO
namespace Go.Proofs.YtckhhghbpblpcaaDoor.Fx
open Go.ChangeShapes Go.WideShapes Go.ChangeAt Go.RowKit
set_option linter.unusedVariables false

theorem sum_none (f : Nat → Nat) : sumB f 0 = 0 := Nat.xor_self _
set_option maxRecDepth 100000 in
set_option maxHeartbeats 4000000 in
theorem crcsums_walk {na ca nb cb : Nat} {oa ob : Option Addr} {f g : Nat → Nat} {w : World} (hT : Tab w) (hA : ByIn w oa na ca f) (hB : ByIn w ob nb cb g) :
    Calls Tryd.prog 3 #[.slice oa na ca, .slice ob nb cb] w fun e w' => e = .returned (.bool true) ∧ Below w.heap.size w w' := by
  obtain ⟨hA, hf, hna, hca⟩ := hA
  obtain ⟨hB, hg, hnb, hcb⟩ := hB
  clear hna hnb
  have HA := hid hA; have HB := hid hB; have HT := hid hT; have HF := hid hf; have HG := hid hg
  clear hA hB hT hf hg
  go_enter Tryd.func3, Tryd.ntmps3
  go_wp2_with fail
  refine (cfit_c HT.out).mono ?_
  rintro e w1 ⟨rfl, hw1⟩
  have HA1 := hid (HA.out.bel hw1)
  have HB1 := hid (HB.out.bel hw1)
  have HT1 := hid (HT.out.bel hw1)
  have HW1 := hid hw1
  clear hw1 HA HB HT
  by_cases hlen : na + nb > 400
  · go_wp2_with fail
    go_ret
    exact ⟨rfl, HW1.out⟩
  · obtain ⟨v2, w2, hr2, hO2, hM2⟩ := append_copy (c := ca) 22 HA1.out (by omega)
    obtain ⟨v3, w3, hr3, hO3, hg3, hz3⟩ := append_by (c := cb) 22 hO2 (HB1.out.kept hM2) (by omega) hM2.1.size
    have hM3 : Made w1.heap.size w1 w3 := hM2.app hg3 hz3 hM2.1.size (fun b hb => (hO2.lt b hb).1)
    obtain ⟨o3, c3, rfl, _⟩ := hO3.shape
    have HR2 := hid hr2; have HR3 := hid hr3
    have HM3 := hid hM3
    have HY3 := hid hO3.by_
    have HA3 := hid (HA1.out.kept hM3)
    have HB3 := hid (HB1.out.kept hM3)
    have HT3 := hid (HT1.out.kept hM3)
    clear hr2 hO2 hM2 hr3 hO3 hg3 hz3 hM3 HA1 HB1 HT1
    have HJ : Hid (∀ i, joinB f g na i < 256) := joinB_lt HF.out HG.out na
    have HE : Hid (addB (sumB f na) g nb = sumB (joinB f g na) (na + nb)) := add_join f g na nb
    go_wp2_with (at_builtin; first | refine Lib.wpList_append_run _ rfl _ _ _ _ rfl _ _ rfl rfl _ _ HR2.out ?_ | refine Lib.wpList_append_run _ rfl _ _ _ _ rfl _ _ rfl rfl _ _ HR3.out ?_)
    clear HR2 HR3
    refine (csum_c HJ.out HT3.out HY3.out (by omega)).mono ?_
    rintro e w4 ⟨rfl, rfl⟩
    obtain ⟨S, eS⟩ : ∃ S, sumB (joinB f g na) (na + nb) = S := ⟨_, rfl⟩
    have ES := hid eS
    rw [eS]
    clear eS
    go_wp2_with fail
    refine (lsum_c HJ.out HY3.out (by omega)).mono ?_
    rintro e w4 ⟨rfl, hM4⟩
    rw [ES.out]
    have HM4 := hid (HM3.out.then_ (hM4.low HM3.out.1.size))
    have HY4 := hid (HY3.out.kept hM4)
    have HA4 := hid (HA3.out.kept hM4)
    have HB4 := hid (HB3.out.kept hM4)
    have HT4 := hid (HT3.out.kept hM4)
    clear hM4 HM3 HY3 HA3 HB3 HT3
    go_wp2_with fail
    refine (csum_c HF.out HT4.out HA4.out (by omega)).mono ?_
    rintro e w5 ⟨rfl, rfl⟩
    go_wp2_with fail
    refine (cadd_c (sumB_lt HF.out na) HG.out HT4.out HB4.out (by omega)).mono ?_
    rintro e w5 ⟨rfl, rfl⟩
    rw [HE.out, ES.out]
    go_wp2_with fail
    refine (lsum_c HJ.out HY4.out (by omega)).mono ?_
    rintro e w5 ⟨rfl, hM5⟩
    rw [ES.out]
    have HM5 := hid (HM4.out.then_ (hM5.low HM4.out.1.size))
    have HT5 := hid (HT4.out.kept hM5)
    clear hM5 HM4 HT4
    go_wp2_with fail
    refine (csum_c (f := f) HF.out HT5.out (fun h => absurd h (by omega)) (by omega)).mono ?_
    rintro e w6 ⟨rfl, rfl⟩
    rw [sum_none]
    go_wp2_with fail
    go_ret
    exact ⟨rfl, HW1.out.trans (HM5.out.1.mono HW1.out.size)⟩
end Go.Proofs.YtckhhghbpblpcaaDoor.Fx
