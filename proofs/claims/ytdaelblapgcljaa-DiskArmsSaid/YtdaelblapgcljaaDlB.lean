/- Layer 17: DiskArms. -/
import Derived.Test.YtdaelblapgcljaaDlA
namespace Go.Proofs.Ytdaelblapgcljaa.Fx
open Go.ChangeShapes Go.WideShapes Go.ChangeAt Go.RowKit Go.Maps Go.Sort
set_option linter.unusedVariables false

/-- the disk of DiskArms behind i appends, of which z did something -/
def stA (dn fl i z : Nat) (off : Bool) : Dsk := ⟨1048576, ((1 + i : Nat) : Int), ((1 + dn : Nat) : Int), ((1 + fl : Nat) : Int), off, [⟨1, List.replicate z 1, 0⟩], [⟨sA, 1⟩], [], [⟨ByteArray.empty, sA, 1⟩], 1⟩
theorem stA_start (dn fl : Nat) (h1 : dn < 20) (h2 : fl < 24) : armD (createD (newD 1048576) sA).1 dn fl = stA dn fl 0 0 false := by
  have e : (createD (newD 1048576) sA).1 = ⟨1048576, 1, -1, -1, false, [⟨1, [], 0⟩], [⟨sA, 1⟩], [], [⟨ByteArray.empty, sA, 1⟩], 1⟩ := by rfl
  rw [e]
  unfold armD stA
  simp only
  rw [if_pos (by omega), if_pos (by omega)]
  congr 1
theorem look_stA (dn fl i z : Nat) (off : Bool) : lookD (stA dn fl i z off).names sA = some ⟨sA, 1⟩ := by rfl
theorem size_stA (dn fl i z : Nat) (off : Bool) : sizeD (stA dn fl i z off) = z := by
  show ((fileD [⟨1, List.replicate z 1, 0⟩] 1).map fun f => f.b.length).getD 0 + 0 = z
  have : fileD [⟨1, List.replicate z 1, 0⟩] 1 = some ⟨1, List.replicate z 1, 0⟩ := by rfl
  rw [this]
  simp
theorem op_stA (dn fl i z : Nat) (off : Bool) : opD (stA dn fl i z off) = (stA dn fl (i + 1) z (off || decide (dn ≤ i)), if (off || decide (dn ≤ i)) = true then 8 else if i = fl then 7 else 0) := by
  have e1 : (decide ((0 : Int) ≤ ((1 + dn : Nat) : Int)) && decide (((1 + dn : Nat) : Int) ≤ ((1 + i : Nat) : Int))) = decide (dn ≤ i) := by
    rw [decide_eq_true (by omega : (0 : Int) ≤ ((1 + dn : Nat) : Int)), Bool.true_and]
    exact decide_eq_decide.mpr (by omega)
  unfold opD
  show ((⟨1048576, ((1 + i : Nat) : Int) + 1, ((1 + dn : Nat) : Int), ((1 + fl : Nat) : Int), off || (decide ((0 : Int) ≤ ((1 + dn : Nat) : Int)) && decide (((1 + dn : Nat) : Int) ≤ ((1 + i : Nat) : Int))), [⟨1, List.replicate z 1, 0⟩], [⟨sA, 1⟩], [], [⟨ByteArray.empty, sA, 1⟩], 1⟩ : Dsk), if (off || (decide ((0 : Int) ≤ ((1 + dn : Nat) : Int)) && decide (((1 + dn : Nat) : Int) ≤ ((1 + i : Nat) : Int)))) = true then (8 : Int) else if (0 : Int) ≤ ((1 + fl : Nat) : Int) ∧ ((1 + i : Nat) : Int) = ((1 + fl : Nat) : Int) then 7 else 0) = _
  rw [e1]
  unfold stA
  refine Prod.ext ?_ ?_
  · simp only
    rw [show ((1 + i : Nat) : Int) + 1 = ((1 + (i + 1) : Nat) : Int) by omega]
  · simp only
    congr 1
    by_cases h : i = fl
    · rw [if_pos h, if_pos (by omega)]
    · rw [if_neg h, if_neg (by omega)]
theorem app_down (dn fl i z : Nat) (h : dn ≤ i) : appendD (stA dn fl i z (decide (dn < i))) sA [1] = (stA dn fl (i + 1) z (decide (dn < i + 1)), 8) := by
  have e := op_stA dn fl i z (decide (dn < i))
  have e2 : (decide (dn < i) || decide (dn ≤ i)) = true := by rw [decide_eq_true h]; simp
  rw [e2, if_pos rfl] at e
  rw [appendD_no (c := 8) (.inl ⟨by rw [e], by decide⟩), e]
  rw [decide_eq_true (show dn < i + 1 by omega)]
theorem app_fail (dn fl i z : Nat) (h : ¬ dn ≤ i) (hf : i = fl) : appendD (stA dn fl i z (decide (dn < i))) sA [1] = (stA dn fl (i + 1) z (decide (dn < i + 1)), 7) := by
  have e := op_stA dn fl i z (decide (dn < i))
  have e2 : (decide (dn < i) || decide (dn ≤ i)) = false := by rw [decide_eq_false h, decide_eq_false (by omega)]; rfl
  rw [e2, if_neg (by simp), if_pos hf] at e
  rw [appendD_no (c := 7) (.inl ⟨by rw [e], by decide⟩), e]
  rw [decide_eq_false (show ¬ dn < i + 1 by omega)]
theorem app_good (dn fl i z : Nat) (h : ¬ dn ≤ i) (hf : ¬ i = fl) (hz : z < 100) : appendD (stA dn fl i z (decide (dn < i))) sA [1] = (stA dn fl (i + 1) (z + 1) (decide (dn < i + 1)), 0) := by
  have e := op_stA dn fl i z (decide (dn < i))
  have e2 : (decide (dn < i) || decide (dn ≤ i)) = false := by rw [decide_eq_false h, decide_eq_false (by omega)]; rfl
  rw [e2, if_neg (by simp), if_neg hf] at e
  rw [appendD_yes (by rw [e]) (look_stA _ _ _ _ _) (by rw [size_stA]; show ¬ (1048576 : Int) < (z : Int) + ((1 : Nat) : Int); omega), e]
  rw [decide_eq_false (show ¬ dn < i + 1 by omega)]
  have : putD (stA dn fl i z (decide (dn < i))).files (⟨sA, 1⟩ : Nam).f (fun f => { f with b := f.b ++ [1] }) = [⟨1, List.replicate (z + 1) 1, 0⟩] := by
    show [(⟨1, List.replicate z 1 ++ [1], 0⟩ : Fil)] = _
    rw [List.replicate_succ']
  rw [this]
  rfl
/-- behind the crash -/
def endA (i z : Nat) : Dsk := ⟨1048576, ((1 + i : Nat) : Int), -1, -1, false, [⟨1, List.replicate (min z 5) 1, min z 5⟩], [⟨sA, 1⟩], [⟨sA, 1⟩], [], 1⟩
theorem crash_stA (dn fl i z : Nat) (off : Bool) : crashL (stA dn fl i z off) 1 [5] = endA i z := by
  have hcut : cutL (stA dn fl i z off).files [5] = [⟨1, List.replicate (min z 5) 1, min z 5⟩] := by
    show [cut1 ⟨1, List.replicate z 1, 0⟩ [5]] = _
    congr 1
    unfold cut1
    simp only [List.length_replicate]
    by_cases h : z = 0
    · subst h; rfl
    · rw [if_neg h]
      have hl : limK ⟨1, List.replicate z 1, 0⟩ [5] = min z 5 := by
        unfold limK
        simp only [List.headD_cons, List.length_replicate]
        omega
      rw [hl, Nat.zero_add, List.take_replicate, show min (min z 5) z = min z 5 by omega]
  unfold crashL
  have : limN (stA dn fl i z off) 1 = 1 := by rfl
  rw [this, hcut]
  show armD { settleL ⟨1048576, ((1 + i : Nat) : Int), ((1 + dn : Nat) : Int), ((1 + fl : Nat) : Int), off, [⟨1, List.replicate (min z 5) 1, min z 5⟩], [⟨sA, 1⟩], [], [⟨ByteArray.empty, sA, 1⟩], 1⟩ 1 with off := false } (-1) (-1) = _
  rfl
theorem read_endA (i z : Nat) : readD (endA i z) sA = ((opD (endA i z)).1, 0, List.replicate (min z 5) 1) := readD_yes (n := ⟨sA, 1⟩) (f := ⟨1, List.replicate (min z 5) 1, min z 5⟩) (by rfl) (by rfl) (by rfl)
end Go.Proofs.Ytdaelblapgcljaa.Fx
