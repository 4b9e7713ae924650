/- Layer 16: a head is read; frame.Next. -/
import Derived.Test.YtfkggnlefblniaaDoorFrA
namespace Go.Proofs.YtfkggnlefblniaaDoor.Fx
open Go.ChangeShapes Go.WideShapes Go.ChangeAt Go.RowKit
set_option linter.unusedVariables false

set_option maxRecDepth 100000 in
set_option maxHeartbeats 4000000 in
theorem rhead_c {n c : Nat} {ao : Option Addr} {g : Nat → Nat} {w : World} (hg : ∀ i, g i < 256) (hT : Tab w) (hB : By w ao n g) (hnc : n ≤ c) (hn : n ≤ 1099511627776) :
    Calls Tryd.prog 22 #[.slice ao n c] w fun e w' => ∃ a b q, e = .returned (.tuple #[.int .i64 a, .int .i64 b, .bool q]) ∧ (q = true ↔ 16 ≤ n ∧ Good g 12) ∧ (q = true → a = (sizeF g : Nat) ∧ b = numF g) ∧ (q = false → a = 0 ∧ b = 0) ∧ Made w.heap.size w w' := by
  have HF := hid hg; have HT := hid hT; have HB := hid hB
  clear hg hT hB
  by_cases h16 : n < 16
  · go_enter Tryd.func22, Tryd.ntmps22
    go_wp2_with fail
    refine bodyPost_ret (v := .tuple #[.int .i64 0, .int .i64 0, .bool false]) (by simp [results, Tryd.results22, go_sem]) rfl ?_
    exact ⟨0, 0, false, rfl, ⟨(fun h => by cases h), fun h => by omega⟩, (fun h => by cases h), fun _ => ⟨rfl, rfl⟩, Made.rfl_ _ _⟩
  · have hge : 16 ≤ n := by omega
    have H16 := hid hge
    obtain ⟨b, off, rfl, _⟩ := HB.out (by omega)
    have B1 := hid (HB.out.take hge)
    go_enter Tryd.func22, Tryd.ntmps22
    go_wp2_with fail
    refine (copen_c HF.out HT.out B1.out (by omega) (by omega) (by omega)).mono ?_
    rintro e w1 ⟨v, q, rfl, hq, hO, hM⟩
    have HQ : Hid (q = true ↔ Good g 12) := hq
    have HM := hid hM
    clear hq hM
    cases q with
    | false =>
      have HN : Hid (¬ Good g 12) := fun h => by have := HQ.out.2 h; cases this
      clear HQ hO
      go_wp2_with fail
      refine bodyPost_ret (v := .tuple #[.int .i64 0, .int .i64 0, .bool false]) (by simp [results, Tryd.results22, go_sem]) rfl ?_
      exact ⟨0, 0, false, rfl, ⟨(fun h => by cases h), fun h => absurd h.2 HN.out⟩, (fun h => by cases h), fun _ => ⟨rfl, rfl⟩, HM.out⟩
    | true =>
      have HG : Hid (Good g 12) := HQ.out.1 rfl
      obtain ⟨ao1, c1, rfl, _, _, _⟩ := (hO rfl).shape
      have B2 := hid (hO rfl).by_
      clear hO HQ
      go_wp2_with fail
      refine (pnew_c B2.out (by omega)).mono ?_
      rintro e w2 ⟨pb, ao2, c2, rfl, hp, hR, hM⟩
      have HR := hid hR
      have HP := hid (Nat.le_trans HM.out.1.size hp)
      have HM2 := hid (HM.out.then_ (hM.low HM.out.1.size))
      clear hp hR hM B2
      go_wp2_with fail
      refine (rnum_c HR.out HF.out (m := 4) (by omega) (by omega) (by omega)).mono ?_
      rintro e w3 ⟨rfl, ⟨ao3, c3, hR⟩, ho⟩
      have HR2 := hid hR
      have HM3 := hid (On1.made_ HM2.out ho HM2.out.1.size HP.out)
      obtain ⟨X, eX⟩ : ∃ X, valI g 4 = X := ⟨_, rfl⟩
      have EX := hid eX
      rw [eX]
      clear hR ho eX HR HM2
      go_wp2_with fail
      refine (rnum_c HR2.out (fun i => HF.out _) (m := 8) (by omega) (by omega) (by omega)).mono ?_
      rintro e w4 ⟨rfl, ⟨ao4, c4, hR⟩, ho⟩
      have HM4 := hid (On1.made_ HM3.out ho HM3.out.1.size HP.out)
      obtain ⟨Y, eY⟩ : ∃ Y, valI (fun i => g (4 + i)) 8 = Y := ⟨_, rfl⟩
      have EY := hid eY
      rw [eY]
      clear hR ho eY HR2 HM3
      go_wp2_with fail
      refine bodyPost_ret (v := .tuple #[.int .i64 X, .int .i64 Y, .bool true]) (by simp [results, Tryd.results22, go_sem]) rfl ?_
      exact ⟨X, Y, true, rfl, ⟨fun _ => ⟨H16.out, HG.out⟩, fun _ => rfl⟩, fun _ => ⟨by rw [← EX.out, sizeF_val HF.out], EY.out.symm⟩, (fun h => by cases h), HM4.out⟩
end Go.Proofs.YtfkggnlefblniaaDoor.Fx
