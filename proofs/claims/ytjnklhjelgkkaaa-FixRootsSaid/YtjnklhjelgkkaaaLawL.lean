/- FixRoots: the walk. -/
import Derived.Test.YtjnklhjelgkkaaaLawJ
import Derived.Deep.RegionHeld3
namespace Go.Proofs.Ytjnklhjelgkkaaa.Fx
open Go.ChangeShapes Go.WideShapes Go.ChangeAt Go.RowKit
set_option linter.unusedVariables false

theorem Boxed.cell {w w' : World} (h : Boxed w w') {p : Addr} (hp : p.block < w.heap.size) : w'.cell? p = w.cell? p := h.below.cell hp
theorem Boxed2.below {w w' : World} (h : Boxed2 w w') : Below w.heap.size w w' := by
  obtain ⟨c, d, rfl⟩ := h; exact ((Below.refl _ _).alloc (Nat.le_refl _) _).alloc (by simp) _
theorem Boxed2.grown {w w' : World} (h : Boxed2 w w') : Grown w w' := by obtain ⟨c, d, rfl⟩ := h; exact ((Grown.refl _).alloc _ _).alloc _ _
theorem cell_more {w : World} {p : Addr} {v : Value} (h : w.cell? p = some v) (x : Obj) : (w.alloc x).cell? p = some v := by
  rw [World.cell?_alloc_lt _ _ _ (World.block_lt_of_cell? w _ h)]; exact h
theorem cell_drew {w : World} {p : Addr} {v : Value} (h : w.cell? p = some v) : w.drew.cell? p = some v := h
set_option maxRecDepth 100000 in
set_option maxHeartbeats 4000000 in
theorem roots_walk (a : Int) (w : World) (ia : I64 a) :
    Calls Try.prog 6 #[.int .i64 a] w fun e w' => e = .returned (.bool true) ∧ Grown w w' := by
  by_cases ca : a ≤ 0
  · have HZ : Hid (sqrtF a = 0) := by unfold Hid sqrtF; rw [if_pos ca]
    go_enter Try.func6, Try.ntmps6
    go_wp2_with fail
    refine (fit_c _).mono ?_
    rintro e w' ⟨rfl, k, rfl⟩
    go_wp2_with fail
    refine (sqrt_c a _ ia).mono ?_
    rintro e w' ⟨rfl, rfl⟩
    rw [HZ.out]
    go_wp2_with fail
    go_ret
    exact ⟨by simp, gend _ _⟩
  · have a1 : a ≤ 9223372036854775807 := ia.2
    obtain ⟨r0, r1, r2, r3⟩ := sqrt_spec (a := a) (by omega) a1
    have n1 := cmpF_le r2
    have n2 := cmpF_gt r3
    clear r2 r3
    have t0 : 0 ≤ sqrtF a := r0
    have t1 : sqrtF a ≤ 18446744073709551615 := by omega
    have t2 : 0 ≤ sqrtF a + 1 := by omega
    have t3 : sqrtF a + 1 ≤ 18446744073709551615 := by omega
    go_enter Try.func6, Try.ntmps6
    go_wp2_with fail
    refine (fit_c _).mono ?_
    rintro e w' ⟨rfl, k, rfl⟩
    go_wp2_with fail
    refine (sqrt_c a _ ia).mono ?_
    rintro e w' ⟨rfl, rfl⟩
    go_upto_region 6 with fail
    go_cut [4] (fun s4 wx => ∃ B : Nat, s4 = .pointer (some ⟨B, 0, none⟩) ∧ wx.cell? ⟨B, 0, none⟩ = some (.bool false) ∧ wx.cell? ⟨B, 1, none⟩ = some (.int .u64 (a * 4294967296 / 18446744073709551616)) ∧ wx.cell? ⟨B, 2, none⟩ = some (.int .u64 (a * 4294967296 % 18446744073709551616)) ∧ Grown w wx)
    case first =>
      go_wp2_with fail
      refine (times_c a 4294967296 _ (by omega) (by omega) (by omega) (by omega)).mono ?_
      rintro e w' ⟨rfl, g1, rfl⟩
      go_wp2_with fail
      go_meet
      refine ⟨w.heap.size + 1, by simp, ?_, ?_, ?_, by repeat (first | exact gend _ _ | apply Grown.alloc)⟩
      all_goals go_simp
    case rest =>
      obtain ⟨B, rfl, h0, h1, h2, hg⟩ := hcut
      have HG : Hid _ := hg
      clear hg
      have hB := World.block_lt_of_cell? _ _ h0
      go_wp2_with fail
      have w1 : IntKind.u64.wrap (sqrtF a) = sqrtF a := IntWalk.u64_in _ ⟨t0, t1⟩
      have w2 : IntKind.u64.wrap (sqrtF a + 1) = sqrtF a + 1 := IntWalk.u64_in _ ⟨t2, t3⟩
      go_region_held3 (fun w' => w'.cell? ⟨B, 0, none⟩ = some (.bool false) ∧ w'.cell? ⟨B, 1, none⟩ = some (.int .u64 (a * 4294967296 / 18446744073709551616)) ∧ w'.cell? ⟨B, 2, none⟩ = some (.int .u64 (a * 4294967296 % 18446744073709551616)))
        (first | (go_keep; done) | ((try go_split_ands); refine ⟨?_, ?_, ?_⟩ <;> (repeat (first | assumption | apply cell_drew | apply cell_more))))
        (first
          | (go_at_call 20; refine (times_c _ _ _ (by omega) (by omega) (by omega) (by omega)).mono ?_; rintro e w' ⟨rfl, g2, rfl⟩)
          | (go_at_call 21; refine (cmp_c _ _ _).mono ?_; rintro e w' ⟨rfl, g4, g5, rfl⟩))
      go_wp2_with fail
      go_ret
      exact ⟨by first | rfl | (simp; done), by repeat (first | exact HG.out | apply Grown.drew | apply Grown.alloc)⟩
end Go.Proofs.Ytjnklhjelgkkaaa.Fx
