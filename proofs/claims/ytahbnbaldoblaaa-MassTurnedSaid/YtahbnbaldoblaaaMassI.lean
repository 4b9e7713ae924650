/- Of of package mass, by what Area and Round answer. -/
import Derived.Test.YtahbnbaldoblaaaMassD
import Derived.WalkLawsBesides
namespace Go.Proofs.Ytahbnbaldoblaaa.Fx
open Go.ChangeShapes Go.WideShapes Go.ChangeAt Go.RowKit
set_option linter.unusedVariables false

set_option maxRecDepth 100000 in
set_option maxHeartbeats 1000000 in
theorem of_static (d K R : Int) (s : Value) (w : World) (hd : d ≤ 0) (A B : Int) :
    Calls Try.prog 9 #[bodyV 0 0 0 0 0 0 0 d K R s] w fun e w' => e = .returned (massOf d A B) ∧ Below w.heap.size w w' := by
  have hm := hid (show massOf d A B = massV 0 0 0 0 by unfold massOf; rw [if_pos hd])
  rw [hm.out]
  go_enter Try.func9, Try.ntmps9
  go_wp2_with fail
  obtain ⟨W, eW⟩ : ∃ W, W = (w.alloc (.cells (#[.int .i64 0, .int .i64 0, .int .i64 0, .int .i64 0, .int .i64 0, .int .i64 0, .int .i64 0, .int .i64 d, .int .i64 K, .int .i64 R, s] : Array Value) 36)).alloc (.cells #[.int .i64 0, .int .i64 0, .int .i64 0, .int .i64 0] 31) := ⟨_, rfl⟩
  have hH : Has W (w.heap.size + 1) 31 #[.int .i64 0, .int .i64 0, .int .i64 0, .int .i64 0] := by rw [eW]; exact has_next _ _ _ _
  have k0 : Below w.heap.size w W := by rw [eW]; exact ((Below.refl _ w).alloc (Nat.le_refl _) _).alloc (by simp) _
  rw [← eW]
  have r0 := hH.at_ 0
  have r1 := hH.at_ 1
  have r2 := hH.at_ 2
  have r3 := hH.at_ 3
  exact bodyPost_ret (v := massV 0 0 0 0) (by simp [results, Try.results9, go_sem, r0, r1, r2, r3]) rfl ⟨rfl, k0⟩

set_option maxRecDepth 100000 in
set_option maxHeartbeats 1000000 in
theorem of_moves (d K R : Int) (s : Value) (w : World) (id_ : I64 d) (hd : 0 < d) (A B : Int) (iA : I64 A) (iB : I64 B)
    (hA : ∀ v, Below w.heap.size w v → Calls Try.prog 16 #[shapeV K R s] v fun e w' => e = .returned (.int .i64 A) ∧ Below v.heap.size v w')
    (hB : ∀ v, Below w.heap.size w v → Calls Try.prog 17 #[shapeV K R s] v fun e w' => e = .returned (.int .i64 B) ∧ Below v.heap.size v w') :
    Calls Try.prog 9 #[bodyV 0 0 0 0 0 0 0 d K R s] w fun e w' => e = .returned (massOf d A B) ∧ Below w.heap.size w w' := by
  obtain ⟨a, ea⟩ : ∃ a, mulF d A = a := ⟨_, rfl⟩
  obtain ⟨b, eb⟩ : ∃ b, mulF d B = b := ⟨_, rfl⟩
  obtain ⟨m, em⟩ : ∃ m, max a 1 = m := ⟨_, rfl⟩
  obtain ⟨i, ei⟩ : ∃ i, max b 1 = i := ⟨_, rfl⟩
  obtain ⟨x, ex⟩ : ∃ x, divF 4294967296 m = x := ⟨_, rfl⟩
  obtain ⟨y, ey⟩ : ∃ y, divF 4294967296 i = y := ⟨_, rfl⟩
  have ia : I64 a := by rw [← ea]; exact i64_mul _ _
  have ib : I64 b := by rw [← eb]; exact i64_mul _ _
  have im : I64 m := by unfold I64 at *; omega
  have ii : I64 i := by unfold I64 at *; omega
  have i1 : I64 4294967296 := by unfold I64; omega
  have hm := hid (show massOf d A B = massV m i x y by unfold massOf; rw [if_neg (by omega), ea, eb, em, ei, ex, ey])
  rw [hm.out]
  have hle : decide (d ≤ 0) = false := by simp; omega
  have EA := hid ea
  have EB := hid eb
  have EX := hid ex
  have EY := hid ey
  have HA := hid hA
  have HB := hid hB
  clear ea eb ex ey hA hB hm
  go_enter Try.func9, Try.ntmps9
  go_wp2_with fail
  obtain ⟨W, eW⟩ : ∃ W, W = (w.alloc (.cells (#[.int .i64 0, .int .i64 0, .int .i64 0, .int .i64 0, .int .i64 0, .int .i64 0, .int .i64 0, .int .i64 d, .int .i64 K, .int .i64 R, s] : Array Value) 36)).alloc (.cells #[.int .i64 0, .int .i64 0, .int .i64 0, .int .i64 0] 31) := ⟨_, rfl⟩
  have hH : Has W (w.heap.size + 1) 31 #[.int .i64 0, .int .i64 0, .int .i64 0, .int .i64 0] := by rw [eW]; exact has_next _ _ _ _
  have hG : Has W w.heap.size 36 #[.int .i64 0, .int .i64 0, .int .i64 0, .int .i64 0, .int .i64 0, .int .i64 0, .int .i64 0, .int .i64 d, .int .i64 K, .int .i64 R, s] := by rw [eW]; exact (has_new _ _ _).more _
  have k0 : Below w.heap.size w W := by rw [eW]; exact ((Below.refl _ w).alloc (Nat.le_refl _) _).alloc (by simp) _
  rw [← eW]
  clear eW
  have c7 := hG.at_ 7
  have c8 := hG.at_ 8
  have c9 := hG.at_ 9
  have c10 := hG.at_ 10
  have K0 := hid k0
  have HH := hid hH
  simp at c7 c8 c9 c10
  clear k0 hH hG
  refine reg_below (by kernel_rfl) (by kernel_rfl) ?_
  intro T hT fw hf
  have z7 := hf.reads c7
  have z8 := hf.reads c8
  have z9 := hf.reads c9
  have z10 := hf.reads c10
  have hz := fun t => hf.below (x := t) (HA.out _ (K0.out.trans ((hf.1 t).mono K0.out.size)))
  have HZ := hid hz
  clear hz
  repeat (go_big_quiet_step ((first | (go_at_call 16; with_reducible exact HZ.out _) | (go_at_call 10; with_reducible exact hf.same (mul_is _ _ _ _ id_ iA EA.out)))))
  refine wpQuiet_nil ?_
  intro w3 h3
  have k3 := hf.here h3
  have c7 := Below.reads k3 c7
  have c8 := Below.reads k3 c8
  have c9 := Below.reads k3 c9
  have c10 := Below.reads k3 c10
  have K3 := hid (K0.out.trans (k3.mono K0.out.size))
  have HH3 := hid (HH.out.below k3 HH.out.here)
  clear z7 z8 z9 z10 HZ hf h3 k3 HH K0
  go_wp2_with fail
  refine reg_below (by kernel_rfl) (by kernel_rfl) ?_
  intro T hT fw hf
  have z7 := hf.reads c7
  have z8 := hf.reads c8
  have z9 := hf.reads c9
  have z10 := hf.reads c10
  have hz := fun t => hf.below (x := t) (HB.out _ (K3.out.trans ((hf.1 t).mono K3.out.size)))
  have HZ := hid hz
  clear hz
  repeat (go_big_quiet_step ((first | (go_at_call 17; with_reducible exact HZ.out _) | (go_at_call 10; with_reducible exact hf.same (mul_is _ _ _ _ id_ iB EB.out)))))
  refine wpQuiet_nil ?_
  intro w4 h4
  have k4 := hf.here h4
  have K4 := hid (K3.out.trans (k4.mono K3.out.size))
  have hH := HH3.out.below k4 HH3.out.here
  have r0 := hH.at_ 0
  have r1 := hH.at_ 1
  have r2 := hH.at_ 2
  have r3 := hH.at_ 3
  have m0 := hH.free 0
  have m1 := hH.free 1
  have m2 := hH.free 2
  have m3 := hH.free 3
  simp at r0 r1 r2 r3
  have HH4 := hid hH
  clear z7 z8 z9 z10 HZ hf h4 k4 HH3 hH
  go_wp2_with fail
  refine (div_is 4294967296 m x _ i1 im EX.out).mono ?_
  rintro e w' ⟨rfl, n1, rfl⟩
  go_wp2_with fail
  refine (div_is 4294967296 i y _ i1 ii EY.out).mono ?_
  rintro e w' ⟨rfl, n2, rfl⟩
  go_wp2_with fail
  obtain ⟨V, eV⟩ : ∃ V, V = (((((w4.drewN (n1 + n2)).setCell ⟨w.heap.size + 1, 0, none⟩ (.int .i64 m)).setCell ⟨w.heap.size + 1, 1, none⟩ (.int .i64 i)).setCell ⟨w.heap.size + 1, 2, none⟩ (.int .i64 x)).setCell ⟨w.heap.size + 1, 3, none⟩ (.int .i64 y)) := ⟨_, rfl⟩
  have hV : Has V (w.heap.size + 1) 31 #[.int .i64 m, .int .i64 i, .int .i64 x, .int .i64 y] := by
    rw [eV]
    exact ((((HH4.out.drawn (n1 + n2)).put 0 (.int .i64 m)).put 1 (.int .i64 i)).put 2 (.int .i64 x)).put 3 (.int .i64 y)
  have kV : Below w.heap.size w V := by
    rw [eV]
    have k5 : Below w.heap.size w (w4.drewN (n1 + n2)) := ⟨K4.out.os, K4.out.tape, K4.out.output, K4.out.size, K4.out.block⟩
    exact (((k5.setCell (p := ⟨w.heap.size + 1, 0, none⟩) (by simp) _).setCell (p := ⟨w.heap.size + 1, 1, none⟩) (by simp) _).setCell (p := ⟨w.heap.size + 1, 2, none⟩) (by simp) _).setCell (p := ⟨w.heap.size + 1, 3, none⟩) (by simp) _
  rw [← eV]
  have r0 := hV.at_ 0
  have r1 := hV.at_ 1
  have r2 := hV.at_ 2
  have r3 := hV.at_ 3
  simp at r0 r1 r2 r3
  exact bodyPost_ret (v := massV m i x y) (by simp [results, Try.results9, go_sem, r0, r1, r2, r3]) rfl ⟨rfl, kV⟩

theorem of_answers (d K R : Int) (s : Value) (w : World) (id_ : I64 d) (A B : Int) (iA : I64 A) (iB : I64 B)
    (hA : ∀ v, Below w.heap.size w v → Calls Try.prog 16 #[shapeV K R s] v fun e w' => e = .returned (.int .i64 A) ∧ Below v.heap.size v w')
    (hB : ∀ v, Below w.heap.size w v → Calls Try.prog 17 #[shapeV K R s] v fun e w' => e = .returned (.int .i64 B) ∧ Below v.heap.size v w') :
    Calls Try.prog 9 #[bodyV 0 0 0 0 0 0 0 d K R s] w fun e w' => e = .returned (massOf d A B) ∧ Below w.heap.size w w' := by
  by_cases h : d ≤ 0
  · exact of_static d K R s w h A B
  · exact of_moves d K R s w id_ (by omega) A B iA iB hA hB
end Go.Proofs.Ytahbnbaldoblaaa.Fx
