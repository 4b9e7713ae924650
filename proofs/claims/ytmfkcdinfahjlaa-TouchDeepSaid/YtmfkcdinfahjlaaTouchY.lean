/- The anchor of the statements of layer 7. -/
import Derived.Test.YtmfkcdinfahjlaaTouchX
namespace Go.Proofs.Ytmfkcdinfahjlaa.Fx
open Go.ChangeShapes Go.WideShapes Go.ChangeAt Go.RowKit
set_option linter.unusedVariables false

theorem fit_near : roundsF (0, 0) 4294967296 (4294967296, 0) 4294967296 = some (oneT (4294967296, 0) (2147483648, 0) 4294967296 0) := by kernel_rfl
theorem fit_far : roundsF (0, 0) 4294967296 (12884901888, 0) 4294967296 = none := by kernel_rfl

set_option maxRecDepth 100000 in
set_option maxHeartbeats 1000000 in
theorem tfit_is (TS : TouchSays) (w : World) : Calls Try.prog 9 #[] w fun e w' => e = .returned (.bool true) ∧ Made w.heap.size w w' := by
  have i0 : I64 0 := by unfold I64; omega
  have i1 : I64 4294967296 := by unfold I64; omega
  have i3 : I64 12884901888 := by unfold I64; omega
  have H1 := hid (fun w => TS.of 0 0 0 1 4294967296 4294967296 0 0 1 4294967296 (.slice none 0 0) (.slice none 0 0) (.disc (0, 0) 4294967296) (.disc (4294967296, 0) 4294967296) w ⟨i0, i0, i0, i1, .inl ⟨rfl, rfl, rfl⟩⟩ ⟨i1, i0, i0, i1, .inl ⟨rfl, rfl, rfl⟩⟩)
  have H2 := hid (fun w => TS.of 0 0 0 1 4294967296 12884901888 0 0 1 4294967296 (.slice none 0 0) (.slice none 0 0) (.disc (0, 0) 4294967296) (.disc (12884901888, 0) 4294967296) w ⟨i0, i0, i0, i1, .inl ⟨rfl, rfl, rfl⟩⟩ ⟨i3, i0, i0, i1, .inl ⟨rfl, rfl, rfl⟩⟩)
  clear TS i0 i1 i3
  go_enter Try.func9, Try.ntmps9
  go_wp2_with fail
  refine (H1.out _).mono ?_
  rintro e w1 ⟨ao, c, he, hp, k1⟩
  rw [show wantF (.disc (0, 0) 4294967296) (.disc (4294967296, 0) 4294967296) = some (oneT (4294967296, 0) (2147483648, 0) 4294967296 0) from fit_near] at he hp
  have he : e = .returned (.tuple #[tchV 4294967296 0 ao 1 c, .bool true]) := he
  subst he
  obtain ⟨bb, oo, rfl, hb⟩ := hp (by show 0 < 1; omega)
  obtain ⟨p0, p1, p2, p3⟩ := hb 0 _ rfl
  have p0 : w1.cell? ⟨bb, oo + 0 * 4, none⟩ = some (.int .i64 2147483648) := p0
  have p1 : w1.cell? ⟨bb, oo + 0 * 4 + 1, none⟩ = some (.int .i64 0) := p1
  have p2 : w1.cell? ⟨bb, oo + 0 * 4 + 2, none⟩ = some (.int .i64 4294967296) := p2
  simp only [Nat.zero_mul, Nat.add_zero] at p0 p1 p2
  have s0 := k1.reads (p := ⟨w.heap.size, 0, none⟩) (x := .int .i64 1) (by go_simp)
  have s1 := k1.reads (p := ⟨w.heap.size, 1, none⟩) (x := .int .i64 4294967296) (by go_simp)
  have s2 := k1.reads (p := ⟨w.heap.size, 2, none⟩) (x := .slice none 0 0) (by go_simp)
  have M1 := hid (made_box k1)
  have lw : w.heap.size < w1.heap.size := World.block_lt_of_cell? _ _ s0
  have lb : bb < w1.heap.size := World.block_lt_of_cell? _ _ p0
  clear k1 hb hp p3
  go_wp2_with fail
  refine (H2.out _).mono ?_
  rintro e w2 ⟨ao2, c2, he, hp2, k2⟩
  rw [show wantF (.disc (0, 0) 4294967296) (.disc (12884901888, 0) 4294967296) = none from fit_far] at he hp2
  have he : e = .returned (.tuple #[tchV 0 0 ao2 0 c2, .bool false]) := he
  subst he
  have p0 := k2.reads (cell_more p0)
  have p1 := k2.reads (cell_more p1)
  have p2 := k2.reads (cell_more p2)
  have t2 := k2.reads (p := ⟨w1.heap.size, 2, none⟩) (x := .slice (some ⟨bb, oo, none⟩) 1 c) (by go_simp)
  have M2 : Hid (Made w.heap.size w w2) := M1.out.then_ ((made_box k2).low M1.out.1.size)
  have lb2 : bb < w2.heap.size := World.block_lt_of_cell? _ _ p0
  have lt2 : w1.heap.size < w2.heap.size := World.block_lt_of_cell? _ _ t2
  clear k2 s0 s1 s2 hp2
  go_wp2_with fail
  go_ret
  exact ⟨rfl, M2.out.cells M2.out.1.size _ _⟩
end Go.Proofs.Ytmfkcdinfahjlaa.Fx
