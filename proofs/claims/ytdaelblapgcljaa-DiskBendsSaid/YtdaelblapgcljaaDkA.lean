/- Package disk: its small parts, and how an operation begins. -/
import Derived.Test.YtdaelblapgcljaaDkN
namespace Go.Proofs.Ytdaelblapgcljaa.Fx
open Go.ChangeShapes Go.WideShapes Go.ChangeAt Go.RowKit Go.Maps
set_option linter.unusedVariables false

theorem DAt.cells {w : World} {k : Dk} {d : Dsk} (h : DAt w k d) : w.cell? ⟨k.p, 0, none⟩ = some (.int .i64 d.room) ∧ w.cell? ⟨k.p, 1, none⟩ = some (.map (some k.bn)) ∧ w.cell? ⟨k.p, 2, none⟩ = some (.map (some k.bs)) ∧ w.cell? ⟨k.p, 3, none⟩ = some (chV k d) ∧
    w.cell? ⟨k.p, 4, none⟩ = some (.map (some k.bf)) ∧ w.cell? ⟨k.p, 5, none⟩ = some (.int .i64 (d.next : Nat)) ∧ w.cell? ⟨k.p, 6, none⟩ = some (.bool d.off) ∧ w.cell? ⟨k.p, 7, none⟩ = some (.int .i64 d.ops) ∧
    w.cell? ⟨k.p, 8, none⟩ = some (.int .i64 k.ar) ∧ w.cell? ⟨k.p, 9, none⟩ = some (.int .i64 k.dn) ∧ w.cell? ⟨k.p, 10, none⟩ = some (.int .i64 k.fl) :=
  ⟨h.top.at_ 0, h.top.at_ 1, h.top.at_ 2, h.top.at_ 3, h.top.at_ 4, h.top.at_ 5, h.top.at_ 6, h.top.at_ 7, h.top.at_ 8, h.top.at_ 9, h.top.at_ 10⟩
set_option maxRecDepth 100000 in
theorem dnone_c {w : World} {k : Dk} {d : Dsk} (h : DAt w k d) : Calls Try.prog 35 #[.pointer (some ⟨k.p, 0, none⟩)] w fun e w' => e = .returned (.bool false) ∧ w = w' := by
  obtain ⟨-, c1, -⟩ := h.cells
  obtain ⟨p, ep⟩ : ∃ p, k.p = p := ⟨_, rfl⟩
  obtain ⟨b, eb⟩ : ∃ b, k.bn = b := ⟨_, rfl⟩
  rw [ep, eb] at c1
  rw [ep]
  clear h ep eb
  have qT : ∀ (w : World) (r : Option Nat), (binOp .eql 58 (.map r) (.map none)).run Try.prog w = .ok (.bool r.isNone) w := fun w r => run_eql_map_nil w _ _ _ r Try.underlying58
  go_enter Try.func35, Try.ntmps35
  go_wp2_with fail
  go_ret
  exact ⟨rfl, rfl⟩
set_option maxRecDepth 100000 in
theorem dlimit_c {a b : Int} {w : World} : Calls Try.prog 38 #[.int .i64 a, .int .i64 b] w fun e w' => e = .returned (.int .i64 (min (max a 0) b)) ∧ w = w' := by
  go_enter Try.func38, Try.ntmps38
  go_wp2_with fail
  all_goals go_ret
  all_goals exact ⟨cret_i (by omega), rfl⟩
set_option maxRecDepth 100000 in
theorem dops_c {w : World} {k : Dk} {d : Dsk} (h : DAt w k d) : Calls Try.prog 18 #[.pointer (some ⟨k.p, 0, none⟩)] w fun e w' => e = .returned (.int .i64 d.ops) ∧ w = w' := by
  have H := hid (dnone_c h)
  obtain ⟨-, -, -, -, -, -, -, c7, -⟩ := h.cells
  obtain ⟨p, ep⟩ : ∃ p, k.p = p := ⟨_, rfl⟩
  obtain ⟨x, ex⟩ : ∃ x, d.ops = x := ⟨_, rfl⟩
  rw [ep, ex] at c7
  rw [ep] at H ⊢
  rw [ex]
  clear h ep ex
  go_enter Try.func18, Try.ntmps18
  go_wp2_with fail
  refine H.out.mono ?_
  rintro e w' ⟨rfl, rfl⟩
  go_wp2_with fail
  go_ret
  exact ⟨rfl, rfl⟩
set_option maxRecDepth 100000 in
theorem ddown_c {w : World} {k : Dk} {d : Dsk} (h : DAt w k d) : Calls Try.prog 20 #[.pointer (some ⟨k.p, 0, none⟩)] w fun e w' => e = .returned (.bool d.off) ∧ w = w' := by
  have H := hid (dnone_c h)
  obtain ⟨-, -, -, -, -, -, c6, -⟩ := h.cells
  obtain ⟨p, ep⟩ : ∃ p, k.p = p := ⟨_, rfl⟩
  obtain ⟨x, ex⟩ : ∃ x, d.off = x := ⟨_, rfl⟩
  rw [ep, ex] at c6
  rw [ep] at H ⊢
  rw [ex]
  clear h ep ex
  go_enter Try.func20, Try.ntmps20
  go_wp2_with fail
  refine H.out.mono ?_
  rintro e w' ⟨rfl, rfl⟩
  go_wp2_with fail
  go_ret
  exact ⟨rfl, rfl⟩
set_option maxRecDepth 100000 in
theorem floose_c {g n c : Nat} {ao : Option Addr} {s : Int} {w : World} (h : Has w g 86 #[.slice ao n c, .int .i64 s]) (h1 : 0 ≤ s) (h2 : s ≤ n) (h3 : n ≤ 1099511627776) : Calls Try.prog 59 #[.pointer (some ⟨g, 0, none⟩)] w fun e w' => e = .returned (.int .i64 ((n : Int) - s)) ∧ ∃ m, w' = w.drewN m := by
  have c0 : w.cell? ⟨g, 0, none⟩ = some (.slice ao n c) := h.at_ 0
  have c1 : w.cell? ⟨g, 1, none⟩ = some (.int .i64 s) := h.at_ 1
  clear h
  go_enter Try.func59, Try.ntmps59
  go_wp2_with fail
  go_region
  go_wp2_with fail
  go_ret
  exact ⟨rfl, 1, rfl⟩
end Go.Proofs.Ytdaelblapgcljaa.Fx
