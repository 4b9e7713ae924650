/- FixSums: the walks. -/
import Derived.Test.YtjnklhjelgkkaaaLawD
import Derived.LoopTactic
namespace Go.Proofs.Ytjnklhjelgkkaaa.Fx
open Go.ChangeShapes Go.WideShapes Go.ChangeAt Go.RowKit
set_option linter.unusedVariables false

/-- the sum from the first on -/
def sumL (zs : List Int) : Int := zs.foldl addF 0
theorem sumL_bd (zs : List Int) : Rg (sumL zs) := by
  have key : ∀ (l : List Int) (x : Int), Rg x → Rg (l.foldl addF x) := by
    intro l
    induction l with
    | nil => intro x h; exact h
    | cons a l ih => intro x _; exact ih _ (addF_bd _ _)
  exact key zs 0 (by unfold Rg; omega)
theorem sumL_step (zs : List Int) (k : Nat) (hk : k < zs.length) : sumL (zs.take (k + 1)) = addF (sumL (zs.take k)) (zs.getD k 0) := by
  unfold sumL
  rw [List.take_add_one, List.foldl_append]
  simp [List.getD, List.getElem?_eq_getElem hk]
theorem addF_cl (a b : Int) : addF a (cl b) = addF a b := by unfold addF; rw [cl_cl]
set_option maxHeartbeats 400000 in
theorem sum_none (a : Option Addr) (cap : Nat) (w : World) : Calls Try.prog 27 #[.slice a 0 cap] w fun e w' => e = .returned (.int .i64 0) ∧ w = w' := by
  go_enter Try.func27, Try.ntmps27
  go_wp2
  go_loop [3, 8] (fun t i => i = .int .i64 0 ∧ t = .int .i64 0) (fun _ _ => 0)
  case atStart => exact ⟨rfl, rfl⟩
  case round =>
    obtain ⟨rfl, rfl⟩ := hrel
    go_wp2
    go_ret
    exact ⟨rfl, rfl⟩
set_option maxHeartbeats 1000000 in
theorem sum_c (b off len cap : Nat) (zs : List Int) (w : World) (hz : len ≤ zs.length) (hbig : len ≤ 9223372036854775807) (hw : ∀ n ∈ zs, I64 n)
    (hc : Hid (∀ j, j < zs.length → w.cell? ⟨b, off + j, none⟩ = some (.int .i64 (zs.getD j 0)))) :
    Calls Try.prog 27 #[.slice (some ⟨b, off, none⟩) len cap] w fun e w' => e = .returned (.int .i64 (sumL (zs.take len))) ∧ w = w' := by
  have HW : Hid (∀ n ∈ zs, I64 n) := hw
  clear hw
  go_enter Try.func27, Try.ntmps27
  go_wp2
  go_loop [3, 8] (fun t i => ∃ k : Nat, k ≤ len ∧ i = .int .i64 k ∧ t = .int .i64 (sumL (zs.take k))) (fun _ i => len - (intOf i).toNat)
  case atStart => exact ⟨0, Nat.zero_le _, rfl, rfl⟩
  case round =>
    obtain ⟨k, hk, rfl, rfl⟩ := hrel
    by_cases hlt : k < len
    · have hS : Hid _ := sumL_step zs k (by omega)
      have hcell := hc.out k (by omega)
      have iz : I64 (zs.getD k 0) := by
        have hm : zs.getD k 0 ∈ zs := by
          rw [List.getD_eq_getElem?_getD, List.getElem?_eq_getElem (by omega)]; exact List.getElem_mem _
        exact HW.out _ hm
      generalize zs.getD k 0 = z at *
      have is := Rg_I64 (sumL_bd (zs.take k))
      go_wp2_with (go_at_call 13; refine (add_c _ z _ is iz).mono ?_; rintro e w' ⟨rfl, rfl⟩)
      go_round
      case rel => exact ⟨k + 1, by omega, by go_num, by rw [hS.out]⟩
      case measure => simp [intOf]; omega
    · go_wp2
      go_ret
      have : k = len := by omega
      subst this
      exact ⟨rfl, rfl⟩
theorem bdr (w : World) (k : Nat) : Below w.heap.size w (w.drewN k) := ⟨rfl, rfl, rfl, Nat.le_refl _, fun _ _ => rfl⟩
set_option maxHeartbeats 1000000 in
theorem sums_none (a : Option Addr) (cap : Nat) (w : World) : Calls Try.prog 8 #[.slice a 0 cap] w fun e w' => e = .returned (.bool true) ∧ Below w.heap.size w w' := by
  go_enter Try.func8, Try.ntmps8
  go_wp2_with fail
  refine (fit_c _).mono ?_
  rintro e w' ⟨rfl, k, rfl⟩
  go_wp2_with fail
  go_loop [3, 13] (fun t i => i = .int .i64 0 ∧ t = .int .i64 0) (fun _ _ => 0)
  case atStart => exact ⟨rfl, rfl⟩
  case round =>
    obtain ⟨rfl, rfl⟩ := hrel
    go_wp2_with fail
    refine (sum_none _ _ _).mono ?_
    rintro e w' ⟨rfl, rfl⟩
    go_wp2_with fail
    go_ret
    exact ⟨rfl, bdr _ _⟩
set_option maxHeartbeats 1000000 in
theorem sums_some (b off len cap : Nat) (zs : List Int) (w : World) (h0 : 0 < len) (hz : len ≤ zs.length) (hbig : len ≤ 9223372036854775807) (hw : ∀ n ∈ zs, I64 n)
    (hc : Hid (∀ j, j < zs.length → w.cell? ⟨b, off + j, none⟩ = some (.int .i64 (zs.getD j 0)))) :
    Calls Try.prog 8 #[.slice (some ⟨b, off, none⟩) len cap] w fun e w' => e = .returned (.bool true) ∧ Below w.heap.size w w' := by
  have HW : Hid (∀ n ∈ zs, I64 n) := hw
  clear hw
  have hbk : b < w.heap.size := World.block_lt_of_cell? (a := ⟨b, off + 0, none⟩) _ (hc.out 0 (by omega))
  by_cases c30 : 30 < len
  · go_enter Try.func8, Try.ntmps8
    go_wp2_with fail
    refine (fit_c _).mono ?_
    rintro e w' ⟨rfl, k, rfl⟩
    go_wp2_with fail
    go_ret
    exact ⟨rfl, bdr _ _⟩
  · go_enter Try.func8, Try.ntmps8
    go_wp2_with fail
    refine (fit_c _).mono ?_
    rintro e w' ⟨rfl, kf, rfl⟩
    go_wp2_with fail
    go_loopw [3, 13] (fun t i wr => ∃ k : Nat, k ≤ len ∧ i = .int .i64 k ∧ t = .int .i64 (sumL (zs.take k)) ∧ Below w.heap.size w wr) (fun _ i _ => len - (intOf i).toNat)
    case atStart => exact ⟨0, Nat.zero_le _, rfl, rfl, bdr _ _⟩
    case round =>
      obtain ⟨k, hk, rfl, rfl, hB⟩ := hrel
      have HB : Hid _ := hB
      by_cases hlt : k < len
      · have hS : Hid _ := sumL_step zs k (by omega)
        have hcell := (hB.cell (p := ⟨b, off + k, none⟩) hbk).trans (hc.out k (by omega))
        clear hB
        have iz : I64 (zs.getD k 0) := by
          have hm : zs.getD k 0 ∈ zs := by
            rw [List.getD_eq_getElem?_getD, List.getElem?_eq_getElem (by omega)]; exact List.getElem_mem _
          exact HW.out _ hm
        generalize zs.getD k 0 = z at *
        have is := Rg_I64 (sumL_bd (zs.take k))
        have icz := I64_cl iz
        have em : max z (-9223372036854775807) = cl z := by unfold cl; omega
        go_wp2_with fail
        refine (lsum_c _ (cl z) _ is icz).mono ?_
        rintro e w1 ⟨rfl, hb1⟩
        have HX : Hid _ := hb1.below
        clear hb1
        rw [addF_cl]
        go_wp2_with fail
        go_roundw
        case rel => exact ⟨k + 1, by omega, by go_num, by rw [hS.out], HB.out.trans (HX.out.mono HB.out.size)⟩
        case measure => simp [intOf]; omega
      · clear hB
        go_wp2_with fail
        have hc' : Hid _ := fun j hj => (HB.out.cell (p := ⟨b, off + j, none⟩) hbk).trans (hc.out j hj)
        refine (sum_c b off len cap zs _ hz hbig HW.out hc').mono ?_
        rintro e w' ⟨rfl, rfl⟩
        have : k = len := by omega
        subst this
        go_wp2_with fail
        go_ret
        exact ⟨by simp, HB.out⟩
end Go.Proofs.Ytjnklhjelgkkaaa.Fx
