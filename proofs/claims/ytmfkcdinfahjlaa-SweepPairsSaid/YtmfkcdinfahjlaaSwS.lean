/- The sorts and the clone, and what they leave. -/
import Derived.Test.YtmfkcdinfahjlaaSwW
import Derived.Test.YtmfkcdinfahjlaaLay
import Derived.Shelf.SlSortCmp.NoneTotal
import Derived.Shelf.SlicesE.Clone
namespace Go.Proofs.Ytmfkcdinfahjlaa.Fx
open Go.ChangeShapes Go.WideShapes Go.ChangeAt Go.RowKit
set_option linter.unusedVariables false

def cmpF (a b : Int) : Int := if a < b then -1 else if b < a then 1 else 0
theorem cmpF_neg (a b : Int) : cmpF a b < 0 ↔ a < b := by unfold cmpF; (repeat' split) <;> omega
theorem cmpF_zero (a b : Int) : cmpF a b = 0 ↔ a = b := by unfold cmpF; (repeat' split) <;> omega
def cmpP (x y : Int × Int) : Int := if cmpF x.1 y.1 = 0 then cmpF x.2 y.2 else cmpF x.1 y.1
theorem cmpP_neg (x y : Int × Int) : cmpP x y < 0 ↔ x.1 < y.1 ∨ x.1 = y.1 ∧ x.2 < y.2 := by
  unfold cmpP
  split
  · rename_i h
    rw [cmpF_zero] at h
    rw [cmpF_neg]; omega
  · rename_i h
    rw [cmpF_zero] at h
    rw [cmpF_neg]; omega
theorem ltI_eq (x y : It) : ltOf (fun x y : It => cmpF x.lx y.lx) x y = decide (x.lx < y.lx) := by
  unfold ltOf
  exact decide_eq_decide.2 (cmpF_neg _ _)
theorem ltP_eq (x y : Int × Int) : ltOf cmpP x y = ltP x y := by
  unfold ltOf
  rw [Bool.eq_iff_iff, ltP_iff, decide_eq_true_iff]
  exact cmpP_neg x y
theorem swoI : Go.Sort.SWO (ltOf fun x y : It => cmpF x.lx y.lx) where
  irrefl x := by rw [ltI_eq]; simp
  trans x y z h1 h2 := by rw [ltI_eq] at *; simp at *; omega
  ntrans x y z h1 h2 := by rw [ltI_eq] at *; simp at *; omega
theorem not_ltP (p q : Int × Int) : ltP p q = false ↔ q.1 < p.1 ∨ q.1 = p.1 ∧ q.2 ≤ p.2 := by
  rw [← Bool.not_eq_true, ltP_iff]; omega
theorem swoP : Go.Sort.SWO (ltOf cmpP) where
  irrefl x := by rw [ltP_eq, not_ltP]; omega
  trans x y z h1 h2 := by rw [ltP_eq, ltP_iff] at *; omega
  ntrans x y z h1 h2 := by rw [ltP_eq, not_ltP] at *; omega
theorem totalP (x y : Int × Int) (h1 : ltOf cmpP x y = false) (h2 : ltOf cmpP y x = false) : x = y := by
  rw [ltP_eq, not_ltP] at *
  exact Prod.ext (by omega) (by omega)

/-! ### the closures -/
set_option maxRecDepth 100000 in
set_option maxHeartbeats 1000000 in
theorem nanA_c (a : Int) (w : World) : Calls Try.prog 81 #[.int .i64 a] w fun e w' => e = .returned (.bool false) ∧ w' = w := by
  go_enter Try.func81, Try.ntmps81
  go_wp2_with fail
  go_ret
  exact ⟨by simp, rfl⟩
set_option maxRecDepth 100000 in
set_option maxHeartbeats 1000000 in
theorem nanI_c (a : Int) (w : World) : Calls Try.prog 92 #[.int .i64 a] w fun e w' => e = .returned (.bool false) ∧ w' = w := by
  go_enter Try.func92, Try.ntmps92
  go_wp2_with fail
  go_ret
  exact ⟨by simp, rfl⟩
set_option maxRecDepth 100000 in
set_option maxHeartbeats 1000000 in
theorem cmpA_c (a b : Int) (w : World) : Calls Try.prog 62 #[.int .i64 a, .int .i64 b] w fun e w' => e = .returned (.int .i64 (cmpF a b)) ∧ w' = w := by
  by_cases h1 : a < b
  · have HC : Hid (cmpF a b = -1) := by unfold Hid cmpF; rw [if_pos h1]
    go_enter Try.func62, Try.ntmps62
    go_wp2_with (go_at_call 81; refine (nanA_c _ _).mono ?_; rintro e w' ⟨rfl, rfl⟩)
    go_ret
    exact ⟨by rw [HC.out]; rfl, rfl⟩
  · by_cases h2 : b < a
    · have HC : Hid (cmpF a b = 1) := by unfold Hid cmpF; rw [if_neg h1, if_pos h2]
      go_enter Try.func62, Try.ntmps62
      go_wp2_with (go_at_call 81; refine (nanA_c _ _).mono ?_; rintro e w' ⟨rfl, rfl⟩)
      go_ret
      exact ⟨by rw [HC.out]; rfl, rfl⟩
    · have HC : Hid (cmpF a b = 0) := by unfold Hid cmpF; rw [if_neg h1, if_neg h2]
      go_enter Try.func62, Try.ntmps62
      go_wp2_with (go_at_call 81; refine (nanA_c _ _).mono ?_; rintro e w' ⟨rfl, rfl⟩)
      go_ret
      exact ⟨by rw [HC.out]; rfl, rfl⟩
set_option maxRecDepth 100000 in
set_option maxHeartbeats 1000000 in
theorem cmpI_c (a b : Int) (w : World) : Calls Try.prog 66 #[.int .i64 a, .int .i64 b] w fun e w' => e = .returned (.int .i64 (cmpF a b)) ∧ w' = w := by
  by_cases h1 : a < b
  · have HC : Hid (cmpF a b = -1) := by unfold Hid cmpF; rw [if_pos h1]
    go_enter Try.func66, Try.ntmps66
    go_wp2_with (go_at_call 92; refine (nanI_c _ _).mono ?_; rintro e w' ⟨rfl, rfl⟩)
    go_ret
    exact ⟨by rw [HC.out]; rfl, rfl⟩
  · by_cases h2 : b < a
    · have HC : Hid (cmpF a b = 1) := by unfold Hid cmpF; rw [if_neg h1, if_pos h2]
      go_enter Try.func66, Try.ntmps66
      go_wp2_with (go_at_call 92; refine (nanI_c _ _).mono ?_; rintro e w' ⟨rfl, rfl⟩)
      go_ret
      exact ⟨by rw [HC.out]; rfl, rfl⟩
    · have HC : Hid (cmpF a b = 0) := by unfold Hid cmpF; rw [if_neg h1, if_neg h2]
      go_enter Try.func66, Try.ntmps66
      go_wp2_with (go_at_call 92; refine (nanI_c _ _).mono ?_; rintro e w' ⟨rfl, rfl⟩)
      go_ret
      exact ⟨by rw [HC.out]; rfl, rfl⟩
set_option maxRecDepth 100000 in
set_option maxHeartbeats 2000000 in
/-- two pairs are compared -/
theorem cmpS_c (x0 x1 y0 y1 : Int) (b c : Nat) (w : World) (a0 : w.cell? ⟨b, 0, none⟩ = some (.int .i64 x0)) (a1 : w.cell? ⟨b, 1, none⟩ = some (.int .i64 x1)) (b0 : w.cell? ⟨c, 0, none⟩ = some (.int .i64 y0)) (b1 : w.cell? ⟨c, 1, none⟩ = some (.int .i64 y1)) :
    Calls Try.prog 40 #[.slice (some ⟨b, 0, none⟩) 2 2, .slice (some ⟨c, 0, none⟩) 2 2] w fun e w' => e = .returned (.int .i64 (cmpP (x0, x1) (y0, y1))) ∧ w' = w := by
  have HC : Hid (cmpP (x0, x1) (y0, y1) = if cmpF x0 y0 = 0 then cmpF x1 y1 else cmpF x0 y0) := rfl
  obtain ⟨p, ep⟩ : ∃ z, cmpF x0 y0 = z := ⟨_, rfl⟩
  obtain ⟨q, eq⟩ : ∃ z, cmpF x1 y1 = z := ⟨_, rfl⟩
  rw [ep, eq] at HC
  have H1 : Hid (∀ w, Calls Try.prog 66 #[.int .i64 x0, .int .i64 y0] w fun e w' => e = .returned (.int .i64 p) ∧ w' = w) := by rw [← ep]; exact fun w => cmpI_c x0 y0 w
  have H2 : Hid (∀ w, Calls Try.prog 66 #[.int .i64 x1, .int .i64 y1] w fun e w' => e = .returned (.int .i64 q) ∧ w' = w) := by rw [← eq]; exact fun w => cmpI_c x1 y1 w
  clear ep eq
  by_cases h1 : p = 0
  · have HC : Hid (cmpP (x0, x1) (y0, y1) = q) := by have := HC.out; rw [if_pos h1] at this; exact this
    have g1 : (p == 0) = true := by simp [h1]
    have H1' : Hid (∀ w, Calls Try.prog 66 #[.int .i64 x0, .int .i64 y0] w fun e w' => e = .returned (.int .i64 0) ∧ w' = w) := by rw [← h1]; exact H1.out
    clear h1 g1 H1
    by_cases h2 : q = 0
    · have H2' : Hid (∀ w, Calls Try.prog 66 #[.int .i64 x1, .int .i64 y1] w fun e w' => e = .returned (.int .i64 0) ∧ w' = w) := by rw [← h2]; exact H2.out
      have HC : Hid (cmpP (x0, x1) (y0, y1) = 0) := HC.out.trans h2
      clear h2 H2
      go_enter Try.func40, Try.ntmps40
      go_wp2_with fail
      refine wp_loop_rounds 3 ?_
      rw [rounds_succ]
      go_wp2_with fail
      refine (H1'.out _).mono ?_
      rintro e w' ⟨rfl, rfl⟩
      go_wp2_with fail
      rw [rounds_succ]
      go_wp2_with fail
      refine (H2'.out _).mono ?_
      rintro e w' ⟨rfl, rfl⟩
      go_wp2_with fail
      rw [rounds_succ]
      go_wp2_with fail
      go_ret
      exact ⟨by rw [HC.out]; rfl, rfl⟩
    · have g2 : (q == 0) = false := by simp [h2]
      go_enter Try.func40, Try.ntmps40
      go_wp2_with fail
      refine wp_loop_rounds 2 ?_
      rw [rounds_succ]
      go_wp2_with fail
      refine (H1'.out _).mono ?_
      rintro e w' ⟨rfl, rfl⟩
      go_wp2_with fail
      rw [rounds_succ]
      go_wp2_with fail
      refine (H2.out _).mono ?_
      rintro e w' ⟨rfl, rfl⟩
      go_wp2_with fail
      go_ret
      exact ⟨by rw [HC.out]; rfl, rfl⟩
  · have HC : Hid (cmpP (x0, x1) (y0, y1) = p) := by have := HC.out; rw [if_neg h1] at this; exact this
    have g1 : (p == 0) = false := by simp [h1]
    go_enter Try.func40, Try.ntmps40
    go_wp2_with fail
    refine wp_loop_rounds 1 ?_
    rw [rounds_succ]
    go_wp2_with fail
    refine (H1.out _).mono ?_
    rintro e w' ⟨rfl, rfl⟩
    go_wp2_with fail
    go_ret
    exact ⟨by rw [HC.out]; rfl, rfl⟩
set_option maxRecDepth 100000 in
set_option maxHeartbeats 1000000 in
theorem closeI (x y : It) (W : World) : Calls Try.prog 61 #[.agg (encI x).toArray, .agg (encI y).toArray] W fun e w' => e = .returned (.int .i64 (cmpF x.lx y.lx)) ∧ ∃ q os', w' = Go.Sort.grow (W.drewN q) os' := by
  obtain ⟨x0, x1, x2, x3, x4, x5⟩ := x
  obtain ⟨y0, y1, y2, y3, y4, y5⟩ := y
  have H := hid (fun w => cmpA_c x1 y1 w)
  simp only []
  generalize cmpF x1 y1 = r at H ⊢
  unfold encI
  simp only []
  go_enter Try.func61, Try.ntmps61
  go_wp2_with (go_at_call 62; refine (H.out _).mono ?_; rintro e w' ⟨rfl, rfl⟩)
  go_ret
  exact ⟨rfl, 0, _, by rw [Go.Sort.alloc_eq_grow, Go.Sort.alloc_eq_grow, Go.Sort.grow_grow]; rfl⟩
set_option maxRecDepth 100000 in
set_option maxHeartbeats 1000000 in
theorem closeP (x y : Int × Int) (W : World) : Calls Try.prog 39 #[.agg (encP x).toArray, .agg (encP y).toArray] W fun e w' => e = .returned (.int .i64 (cmpP x y)) ∧ ∃ q os', w' = Go.Sort.grow (W.drewN q) os' := by
  obtain ⟨x0, x1⟩ := x
  obtain ⟨y0, y1⟩ := y
  have H := hid (fun b c w a0 a1 b0 b1 => cmpS_c x0 x1 y0 y1 b c w a0 a1 b0 b1)
  generalize cmpP (x0, x1) (y0, y1) = r at H ⊢
  unfold encP
  simp only []
  go_enter Try.func39, Try.ntmps39
  go_upto_region 1 with fail
  obtain ⟨W1, eW⟩ : ∃ V, V = (W.alloc (.cells #[.int .i64 x0, .int .i64 x1] 58)).alloc (.cells #[.int .i64 y0, .int .i64 y1] 58) := ⟨_, rfl⟩
  have a0 : W1.cell? ⟨W.heap.size, 0, none⟩ = some (.int .i64 x0) := by rw [eW]; go_simp
  have a1 : W1.cell? ⟨W.heap.size, 1, none⟩ = some (.int .i64 x1) := by rw [eW]; go_simp
  have b0 : W1.cell? ⟨W.heap.size + 1, 0, none⟩ = some (.int .i64 y0) := by rw [eW]; go_simp
  have b1 : W1.cell? ⟨W.heap.size + 1, 1, none⟩ = some (.int .i64 y1) := by rw [eW]; go_simp
  have EW : Hid (∃ os', ∀ n, W1.drewN n = Go.Sort.grow (W.drewN n) os') := ⟨_, fun n => by rw [eW, Go.Sort.alloc_eq_grow, Go.Sort.alloc_eq_grow, Go.Sort.grow_grow]; rfl⟩
  rw [← eW]
  clear eW
  go_quiet ((go_at_call 40; exact Calls.quiet_of_same (H.out _ _ _ (by exact a0) (by exact a1) (by exact b0) (by exact b1))))
  go_wp2_with fail
  go_ret
  obtain ⟨os', h⟩ := EW.out
  exact ⟨rfl, _, os', h _⟩
end Go.Proofs.Ytmfkcdinfahjlaa.Fx
