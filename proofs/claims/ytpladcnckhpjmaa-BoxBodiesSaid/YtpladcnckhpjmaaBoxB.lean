/- BoxBodies: the walk, of a circle. -/
import Derived.Test.YtpladcnckhpjmaaBoxA
namespace Go.Proofs.Ytpladcnckhpjmaa.Fx
open Go.ChangeShapes Go.WideShapes Go.ChangeAt Go.RowKit
set_option linter.unusedVariables false

set_option maxRecDepth 100000 in
set_option maxHeartbeats 8000000 in
theorem bbodies_circle (BS : BoxSays) {a b c d R : Int} (h : SeedC a b c d R) (x y an : Int) (w : World) (ix : I64 x) (iy : I64 y) :
    Calls Try.prog 3 #[placeV a b c d x y an] w fun e w' => e = .returned (.bool true) ∧ Made w.heap.size w w' := by
  have HB := hid BS
  have HS := hid h
  have R0 := h.1
  have R1 := h.2.1
  obtain ⟨X, eX⟩ : ∃ X, thou x = X := ⟨_, rfl⟩
  obtain ⟨Y, eY⟩ : ∃ Y, thou y = Y := ⟨_, rfl⟩
  obtain ⟨A, eA⟩ : ∃ A, an % 4294967296 = A := ⟨_, rfl⟩
  have bX := thou_bd ix
  have bY := thou_bd iy
  rw [eX] at bX
  rw [eY] at bY
  have iX : I64 X := by unfold I64; omega
  have iY : I64 Y := by unfold I64; omega
  have iR : I64 R := by unfold I64; omega
  obtain ⟨lx, e1⟩ : ∃ z, subF X R = z := ⟨_, rfl⟩
  obtain ⟨ly, e2⟩ : ∃ z, subF Y R = z := ⟨_, rfl⟩
  obtain ⟨hx, e3⟩ : ∃ z, addF X R = z := ⟨_, rfl⟩
  obtain ⟨hy, e4⟩ : ∃ z, addF Y R = z := ⟨_, rfl⟩
  have HO := hid (fun w => BS.disc X Y A R w iX iY iR)
  rw [e1, e2, e3, e4] at HO
  have eX := hid eX; have eY := hid eY; have eA := hid eA
  have E1 := hid e1; have E2 := hid e2; have E3 := hid e3; have E4 := hid e4
  clear BS h e1 e2 e3 e4
  go_enter Try.func3, Try.ntmps3
  go_wp2_with fail
  refine (bfit_is HB.out _).mono ?_
  rintro e w1 ⟨rfl, k1⟩
  have p0 := k1.reads (p := ⟨w.heap.size, 0, none⟩) (x := .int .i64 a) (by go_simp)
  have p1 := k1.reads (p := ⟨w.heap.size, 1, none⟩) (x := .int .i64 b) (by go_simp)
  have p2 := k1.reads (p := ⟨w.heap.size, 2, none⟩) (x := .int .i64 c) (by go_simp)
  have p3 := k1.reads (p := ⟨w.heap.size, 3, none⟩) (x := .int .i64 d) (by go_simp)
  have p4 := k1.reads (p := ⟨w.heap.size, 4, none⟩) (x := .int .i64 x) (by go_simp)
  have p5 := k1.reads (p := ⟨w.heap.size, 5, none⟩) (x := .int .i64 y) (by go_simp)
  have p6 := k1.reads (p := ⟨w.heap.size, 6, none⟩) (x := .int .i64 an) (by go_simp)
  have M1 := hid (made_box k1)
  clear k1
  go_wp2_with fail
  refine (place_circle HS.out x y an X Y A _ ix iy eX.out eY.out eA.out).mono ?_
  rintro e w2 ⟨rfl, k2⟩
  have M2 : Hid (Made w.heap.size w w2) := M1.out.then_ (k2.low M1.out.1.size)
  clear k2 p0 p1 p2 p3 p4 p5 p6
  go_wp2_with fail
  obtain ⟨W, eW⟩ : ∃ W, W = w2.alloc (.cells #[.int .i64 0, .int .i64 X, .int .i64 Y, .int .i64 0, .int .i64 0, .int .i64 A, .int .i64 0, .int .i64 0, .int .i64 1, .int .i64 R, .slice none 0 0] 34) := ⟨_, rfl⟩
  have hT : Has W w2.heap.size 34 #[.int .i64 0, .int .i64 X, .int .i64 Y, .int .i64 0, .int .i64 0, .int .i64 A, .int .i64 0, .int .i64 0, .int .i64 1, .int .i64 R, .slice none 0 0] := by rw [eW]; exact has_new _ _ _
  have MW : Hid (Made w.heap.size w W) := by unfold Hid; rw [eW]; exact M2.out.cells M2.out.1.size _ _
  rw [← eW]
  clear eW
  have c0 := hT.at_ 0
  have c1 := hT.at_ 1
  have c2 := hT.at_ 2
  have c3 := hT.at_ 3
  have c4 := hT.at_ 4
  have c5 := hT.at_ 5
  have c6 := hT.at_ 6
  have c7 := hT.at_ 7
  have c8 := hT.at_ 8
  have c9 := hT.at_ 9
  have c10 := hT.at_ 10
  simp at c0 c1 c2 c3 c4 c5 c6 c7 c8 c9 c10
  have HT := hid hT
  clear hT
  go_wp2_with fail
  refine (HO.out W).mono ?_
  rintro e w3 ⟨rfl, k3⟩
  have M3 : Hid (Made w.heap.size w w3) := MW.out.then_ (k3.low MW.out.1.size)
  have c0 := k3.reads c0
  have c1 := k3.reads c1
  have c2 := k3.reads c2
  have c3 := k3.reads c3
  have c4 := k3.reads c4
  have c5 := k3.reads c5
  have c6 := k3.reads c6
  have c7 := k3.reads c7
  have c8 := k3.reads c8
  have c9 := k3.reads c9
  have c10 := k3.reads c10
  have lt3 : w2.heap.size < w3.heap.size := World.block_lt_of_cell? _ _ c0
  clear k3
  go_wp2_with fail
  obtain ⟨V, eV⟩ : ∃ V, V = (w3.alloc (.cells #[.int .i64 lx, .int .i64 ly, .int .i64 hx, .int .i64 hy] 37)).alloc (.cells #[.int .i64 R, .int .i64 R] 26) := ⟨_, rfl⟩
  have hQ : Has V w3.heap.size 37 #[.int .i64 lx, .int .i64 ly, .int .i64 hx, .int .i64 hy] := by rw [eV]; exact (has_new _ _ _).more _
  have hU : Has V (w3.heap.size + 1) 26 #[.int .i64 R, .int .i64 R] := by rw [eV]; exact has_next _ _ _ _
  have MV : Hid (Made w.heap.size w V) := by unfold Hid; rw [eV]; exact (M3.out.cells M3.out.1.size _ _).cells (by have := M3.out.1.size; simp; omega) _ _
  have d1 : V.cell? ⟨w2.heap.size, 1, none⟩ = some (.int .i64 X) := by rw [eV]; exact cell_more (cell_more c1)
  have d2 : V.cell? ⟨w2.heap.size, 2, none⟩ = some (.int .i64 Y) := by rw [eV]; exact cell_more (cell_more c2)
  rw [← eV]
  clear eV
  have q0 := hQ.at_ 0
  have q1 := hQ.at_ 1
  have q2 := hQ.at_ 2
  have q3 := hQ.at_ 3
  simp at q0 q1 q2 q3
  have u0 := hU.at_ 0
  have u1 := hU.at_ 1
  simp at u0 u1
  clear hQ hU
  refine reg_made (by kernel_rfl) (by kernel_rfl) ?_
  intro Ty hT fw hf
  have yd1 := Class.reads hf d1
  have yd2 := Class.reads hf d2
  have yq0 := Class.reads hf q0
  have yq1 := Class.reads hf q1
  have yq2 := Class.reads hf q2
  have yq3 := Class.reads hf q3
  have yu0 := Class.reads hf u0
  have yu1 := Class.reads hf u1
  repeat (go_big_quiet_step ((first | (go_at_call 10; with_reducible exact hf.made (vsub_is _ _ _ _ _ _ _ iX iY iR iR E1.out E2.out)) | (go_at_call 11; with_reducible exact hf.made (vadd_is _ _ _ _ _ _ _ iX iY iR iR E3.out E4.out)))))
  refine wpQuiet_nil ?_
  intro w4 h4
  have k4 := hf.here h4
  go_wp2_with fail
  go_ret
  exact ⟨rfl, MV.out.then_ (k4.low MV.out.1.size)⟩
end Go.Proofs.Ytpladcnckhpjmaa.Fx
