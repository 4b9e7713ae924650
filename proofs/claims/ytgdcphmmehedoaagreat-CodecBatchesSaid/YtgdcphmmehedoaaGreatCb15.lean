/- OrB -/
import Derived.Test.YtgdcphmmehedoaaGreatCb14
set_option maxRecDepth 100000
set_option maxHeartbeats 64000000
/- order.used. -/
namespace Go.Proofs.YtgdcphmmehedoaaGreat.Fx
open Go.ChangeShapes Go.WideShapes Go.ChangeAt Go.RowKit
set_option linter.unusedVariables false
theorem Has.put15 {w : World} {g : Nat} {c0 c1 c2 c3 c4 c5 c6 c7 c8 c9 c10 c11 c12 c13 c14 : Value} (h : Has w g 49 #[c0, c1, c2, c3, c4, c5, c6, c7, c8, c9, c10, c11, c12, c13, c14]) (v0 v1 v2 v3 v4 v5 v6 v7 v8 v9 v10 v11 v12 v13 v14 : Value) : Has ((((((((((((((((w).setCell ⟨g, 0, none⟩ v0).setCell ⟨g, 1, none⟩ v1).setCell ⟨g, 2, none⟩ v2).setCell ⟨g, 3, none⟩ v3).setCell ⟨g, 4, none⟩ v4).setCell ⟨g, 5, none⟩ v5).setCell ⟨g, 6, none⟩ v6).setCell ⟨g, 7, none⟩ v7).setCell ⟨g, 8, none⟩ v8).setCell ⟨g, 9, none⟩ v9).setCell ⟨g, 10, none⟩ v10).setCell ⟨g, 11, none⟩ v11).setCell ⟨g, 12, none⟩ v12).setCell ⟨g, 13, none⟩ v13).setCell ⟨g, 14, none⟩ v14) g 49 #[v0, v1, v2, v3, v4, v5, v6, v7, v8, v9, v10, v11, v12, v13, v14] := by
 have j0 : Has ((w).setCell ⟨g, 0, none⟩ (v0)) g 49 #[v0, c1, c2, c3, c4, c5, c6, c7, c8, c9, c10, c11, c12, c13, c14] := h.put 0 _
 have j1 : Has (((w).setCell ⟨g, 0, none⟩ (v0)).setCell ⟨g, 1, none⟩ (v1)) g 49 #[v0, v1, c2, c3, c4, c5, c6, c7, c8, c9, c10, c11, c12, c13, c14] := j0.put 1 _
 have j2 : Has ((((w).setCell ⟨g, 0, none⟩ (v0)).setCell ⟨g, 1, none⟩ (v1)).setCell ⟨g, 2, none⟩ (v2)) g 49 #[v0, v1, v2, c3, c4, c5, c6, c7, c8, c9, c10, c11, c12, c13, c14] := j1.put 2 _
 have j3 : Has (((((w).setCell ⟨g, 0, none⟩ (v0)).setCell ⟨g, 1, none⟩ (v1)).setCell ⟨g, 2, none⟩ (v2)).setCell ⟨g, 3, none⟩ (v3)) g 49 #[v0, v1, v2, v3, c4, c5, c6, c7, c8, c9, c10, c11, c12, c13, c14] := j2.put 3 _
 have j4 : Has ((((((w).setCell ⟨g, 0, none⟩ (v0)).setCell ⟨g, 1, none⟩ (v1)).setCell ⟨g, 2, none⟩ (v2)).setCell ⟨g, 3, none⟩ (v3)).setCell ⟨g, 4, none⟩ (v4)) g 49 #[v0, v1, v2, v3, v4, c5, c6, c7, c8, c9, c10, c11, c12, c13, c14] := j3.put 4 _
 have j5 : Has (((((((w).setCell ⟨g, 0, none⟩ (v0)).setCell ⟨g, 1, none⟩ (v1)).setCell ⟨g, 2, none⟩ (v2)).setCell ⟨g, 3, none⟩ (v3)).setCell ⟨g, 4, none⟩ (v4)).setCell ⟨g, 5, none⟩ (v5)) g 49 #[v0, v1, v2, v3, v4, v5, c6, c7, c8, c9, c10, c11, c12, c13, c14] := j4.put 5 _
 have j6 : Has ((((((((w).setCell ⟨g, 0, none⟩ (v0)).setCell ⟨g, 1, none⟩ (v1)).setCell ⟨g, 2, none⟩ (v2)).setCell ⟨g, 3, none⟩ (v3)).setCell ⟨g, 4, none⟩ (v4)).setCell ⟨g, 5, none⟩ (v5)).setCell ⟨g, 6, none⟩ (v6)) g 49 #[v0, v1, v2, v3, v4, v5, v6, c7, c8, c9, c10, c11, c12, c13, c14] := j5.put 6 _
 have j7 : Has (((((((((w).setCell ⟨g, 0, none⟩ (v0)).setCell ⟨g, 1, none⟩ (v1)).setCell ⟨g, 2, none⟩ (v2)).setCell ⟨g, 3, none⟩ (v3)).setCell ⟨g, 4, none⟩ (v4)).setCell ⟨g, 5, none⟩ (v5)).setCell ⟨g, 6, none⟩ (v6)).setCell ⟨g, 7, none⟩ (v7)) g 49 #[v0, v1, v2, v3, v4, v5, v6, v7, c8, c9, c10, c11, c12, c13, c14] := j6.put 7 _
 have j8 : Has ((((((((((w).setCell ⟨g, 0, none⟩ (v0)).setCell ⟨g, 1, none⟩ (v1)).setCell ⟨g, 2, none⟩ (v2)).setCell ⟨g, 3, none⟩ (v3)).setCell ⟨g, 4, none⟩ (v4)).setCell ⟨g, 5, none⟩ (v5)).setCell ⟨g, 6, none⟩ (v6)).setCell ⟨g, 7, none⟩ (v7)).setCell ⟨g, 8, none⟩ (v8)) g 49 #[v0, v1, v2, v3, v4, v5, v6, v7, v8, c9, c10, c11, c12, c13, c14] := j7.put 8 _
 have j9 : Has (((((((((((w).setCell ⟨g, 0, none⟩ (v0)).setCell ⟨g, 1, none⟩ (v1)).setCell ⟨g, 2, none⟩ (v2)).setCell ⟨g, 3, none⟩ (v3)).setCell ⟨g, 4, none⟩ (v4)).setCell ⟨g, 5, none⟩ (v5)).setCell ⟨g, 6, none⟩ (v6)).setCell ⟨g, 7, none⟩ (v7)).setCell ⟨g, 8, none⟩ (v8)).setCell ⟨g, 9, none⟩ (v9)) g 49 #[v0, v1, v2, v3, v4, v5, v6, v7, v8, v9, c10, c11, c12, c13, c14] := j8.put 9 _
 have j10 : Has ((((((((((((w).setCell ⟨g, 0, none⟩ (v0)).setCell ⟨g, 1, none⟩ (v1)).setCell ⟨g, 2, none⟩ (v2)).setCell ⟨g, 3, none⟩ (v3)).setCell ⟨g, 4, none⟩ (v4)).setCell ⟨g, 5, none⟩ (v5)).setCell ⟨g, 6, none⟩ (v6)).setCell ⟨g, 7, none⟩ (v7)).setCell ⟨g, 8, none⟩ (v8)).setCell ⟨g, 9, none⟩ (v9)).setCell ⟨g, 10, none⟩ (v10)) g 49 #[v0, v1, v2, v3, v4, v5, v6, v7, v8, v9, v10, c11, c12, c13, c14] := j9.put 10 _
 have j11 : Has (((((((((((((w).setCell ⟨g, 0, none⟩ (v0)).setCell ⟨g, 1, none⟩ (v1)).setCell ⟨g, 2, none⟩ (v2)).setCell ⟨g, 3, none⟩ (v3)).setCell ⟨g, 4, none⟩ (v4)).setCell ⟨g, 5, none⟩ (v5)).setCell ⟨g, 6, none⟩ (v6)).setCell ⟨g, 7, none⟩ (v7)).setCell ⟨g, 8, none⟩ (v8)).setCell ⟨g, 9, none⟩ (v9)).setCell ⟨g, 10, none⟩ (v10)).setCell ⟨g, 11, none⟩ (v11)) g 49 #[v0, v1, v2, v3, v4, v5, v6, v7, v8, v9, v10, v11, c12, c13, c14] := j10.put 11 _
 have j12 : Has ((((((((((((((w).setCell ⟨g, 0, none⟩ (v0)).setCell ⟨g, 1, none⟩ (v1)).setCell ⟨g, 2, none⟩ (v2)).setCell ⟨g, 3, none⟩ (v3)).setCell ⟨g, 4, none⟩ (v4)).setCell ⟨g, 5, none⟩ (v5)).setCell ⟨g, 6, none⟩ (v6)).setCell ⟨g, 7, none⟩ (v7)).setCell ⟨g, 8, none⟩ (v8)).setCell ⟨g, 9, none⟩ (v9)).setCell ⟨g, 10, none⟩ (v10)).setCell ⟨g, 11, none⟩ (v11)).setCell ⟨g, 12, none⟩ (v12)) g 49 #[v0, v1, v2, v3, v4, v5, v6, v7, v8, v9, v10, v11, v12, c13, c14] := j11.put 12 _
 have j13 : Has (((((((((((((((w).setCell ⟨g, 0, none⟩ (v0)).setCell ⟨g, 1, none⟩ (v1)).setCell ⟨g, 2, none⟩ (v2)).setCell ⟨g, 3, none⟩ (v3)).setCell ⟨g, 4, none⟩ (v4)).setCell ⟨g, 5, none⟩ (v5)).setCell ⟨g, 6, none⟩ (v6)).setCell ⟨g, 7, none⟩ (v7)).setCell ⟨g, 8, none⟩ (v8)).setCell ⟨g, 9, none⟩ (v9)).setCell ⟨g, 10, none⟩ (v10)).setCell ⟨g, 11, none⟩ (v11)).setCell ⟨g, 12, none⟩ (v12)).setCell ⟨g, 13, none⟩ (v13)) g 49 #[v0, v1, v2, v3, v4, v5, v6, v7, v8, v9, v10, v11, v12, v13, c14] := j12.put 13 _
 have j14 : Has ((((((((((((((((w).setCell ⟨g, 0, none⟩ (v0)).setCell ⟨g, 1, none⟩ (v1)).setCell ⟨g, 2, none⟩ (v2)).setCell ⟨g, 3, none⟩ (v3)).setCell ⟨g, 4, none⟩ (v4)).setCell ⟨g, 5, none⟩ (v5)).setCell ⟨g, 6, none⟩ (v6)).setCell ⟨g, 7, none⟩ (v7)).setCell ⟨g, 8, none⟩ (v8)).setCell ⟨g, 9, none⟩ (v9)).setCell ⟨g, 10, none⟩ (v10)).setCell ⟨g, 11, none⟩ (v11)).setCell ⟨g, 12, none⟩ (v12)).setCell ⟨g, 13, none⟩ (v13)).setCell ⟨g, 14, none⟩ (v14)) g 49 #[v0, v1, v2, v3, v4, v5, v6, v7, v8, v9, v10, v11, v12, v13, v14] := j13.put 14 _
 exact j14
theorem But.put15 {X : Nat → Prop} {a w : World} {g : Nat} (h : But X a w) (hg : X g ∨ a.heap.size ≤ g) (v0 v1 v2 v3 v4 v5 v6 v7 v8 v9 v10 v11 v12 v13 v14 : Value) : But X a ((((((((((((((((w).setCell ⟨g, 0, none⟩ v0).setCell ⟨g, 1, none⟩ v1).setCell ⟨g, 2, none⟩ v2).setCell ⟨g, 3, none⟩ v3).setCell ⟨g, 4, none⟩ v4).setCell ⟨g, 5, none⟩ v5).setCell ⟨g, 6, none⟩ v6).setCell ⟨g, 7, none⟩ v7).setCell ⟨g, 8, none⟩ v8).setCell ⟨g, 9, none⟩ v9).setCell ⟨g, 10, none⟩ v10).setCell ⟨g, 11, none⟩ v11).setCell ⟨g, 12, none⟩ v12).setCell ⟨g, 13, none⟩ v13).setCell ⟨g, 14, none⟩ v14) :=
 (((((((((((((((h.put (p := ⟨g, 0, none⟩) hg _).put (p := ⟨g, 1, none⟩) hg _).put (p := ⟨g, 2, none⟩) hg _).put (p := ⟨g, 3, none⟩) hg _).put (p := ⟨g, 4, none⟩) hg _).put (p := ⟨g, 5, none⟩) hg _).put (p := ⟨g, 6, none⟩) hg _).put (p := ⟨g, 7, none⟩) hg _).put (p := ⟨g, 8, none⟩) hg _).put (p := ⟨g, 9, none⟩) hg _).put (p := ⟨g, 10, none⟩) hg _).put (p := ⟨g, 11, none⟩) hg _).put (p := ⟨g, 12, none⟩) hg _).put (p := ⟨g, 13, none⟩) hg _).put (p := ⟨g, 14, none⟩) hg _)
theorem used2 (id a b x y vx vy an sp de ln k r : Int) (ao : Option Addr) (n c : Nat) (w : World) :
  Calls Tryz.prog 37 #[.agg #[.int .i64 2, .int .i64 id, .int .i64 a, .int .i64 b, .int .i64 x, .int .i64 y, .int .i64 vx, .int .i64 vy, .int .i64 an, .int .i64 sp, .int .i64 de, .int .i64 ln, .int .i64 k, .int .i64 r, .slice ao n c]] w fun e v => e = .returned (.agg #[.int .i64 2, .int .i64 id, .int .i64 0, .int .i64 0, .int .i64 0, .int .i64 0, .int .i64 0, .int .i64 0, .int .i64 0, .int .i64 0, .int .i64 0, .int .i64 0, .int .i64 0, .int .i64 0, .slice none 0 0]) ∧ Made w.heap.size w v := by
 obtain ⟨W, eW⟩ : ∃ W, W = (w.alloc (.cells #[.int .i64 2, .int .i64 id, .int .i64 a, .int .i64 b, .int .i64 x, .int .i64 y, .int .i64 vx, .int .i64 vy, .int .i64 an, .int .i64 sp, .int .i64 de, .int .i64 ln, .int .i64 k, .int .i64 r, .slice ao n c] 49)).alloc (.cells #[.int .i64 0, .int .i64 0, .int .i64 0, .int .i64 0, .int .i64 0, .int .i64 0, .int .i64 0, .int .i64 0, .int .i64 0, .int .i64 0, .int .i64 0, .int .i64 0, .int .i64 0, .int .i64 0, .slice none 0 0] 49) := ⟨_, rfl⟩
 have KW : Hid (Made w.heap.size w W) := by unfold Hid; rw [eW]; exact ((Made.rfl_ _ _).cells (Nat.le_refl _) _ _).cells (by simp) _ _
 have HB : Hid (Has W w.heap.size 49 #[.int .i64 2, .int .i64 id, .int .i64 a, .int .i64 b, .int .i64 x, .int .i64 y, .int .i64 vx, .int .i64 vy, .int .i64 an, .int .i64 sp, .int .i64 de, .int .i64 ln, .int .i64 k, .int .i64 r, .slice ao n c]) := by unfold Hid; rw [eW]; exact (has_new _ _ _).more _
 have HR : Hid (Has W (w.heap.size + 1) 49 #[.int .i64 0, .int .i64 0, .int .i64 0, .int .i64 0, .int .i64 0, .int .i64 0, .int .i64 0, .int .i64 0, .int .i64 0, .int .i64 0, .int .i64 0, .int .i64 0, .int .i64 0, .int .i64 0, .slice none 0 0]) := by unfold Hid; rw [eW]; exact has_nxt' _ _ _ _
 obtain ⟨g1, eg1⟩ : ∃ g, w.heap.size = g := ⟨_, rfl⟩
 obtain ⟨g2, eg2⟩ : ∃ g, g1 + 1 = g := ⟨_, rfl⟩
 have hw1 : w.heap.size ≤ g1 := Nat.le_of_eq eg1
 have hw2 : w.heap.size ≤ g2 := by omega
 rw [eg1] at HB
 rw [eg1, eg2] at HR
 go_enter Tryz.func37, Tryz.ntmps37
 have b0 := HB.out.at_ 0
 have b1 := HB.out.at_ 1
 have b2 := HB.out.at_ 2
 have b3 := HB.out.at_ 3
 have b4 := HB.out.at_ 4
 have b5 := HB.out.at_ 5
 have b6 := HB.out.at_ 6
 have b7 := HB.out.at_ 7
 have b8 := HB.out.at_ 8
 have b9 := HB.out.at_ 9
 have b10 := HB.out.at_ 10
 have b11 := HB.out.at_ 11
 have b12 := HB.out.at_ 12
 have b13 := HB.out.at_ 13
 have b14 := HB.out.at_ 14
 simp at b0 b1 b2 b3 b4 b5 b6 b7 b8 b9 b10 b11 b12 b13 b14
 have l1 : g1 < W.heap.size := HB.out.here
 have l2 : g2 < W.heap.size := HR.out.here
 go_upto_region 1 with fail
 rw [← eW]
 clear eW
 try rw [eg1]
 try rw [eg2]
 obtain ⟨W1, eW1⟩ : ∃ V, V = W.alloc (.cells #[.int .i64 2, .int .i64 0, .int .i64 0, .int .i64 0, .int .i64 0, .int .i64 0, .int .i64 0, .int .i64 0, .int .i64 0, .int .i64 0, .int .i64 0, .int .i64 0, .int .i64 0, .int .i64 0, .slice none 0 0] 49) := ⟨_, rfl⟩
 have kk1 : Made W.heap.size W W1 := by rw [eW1]; exact (Made.rfl_ _ _).cells (Nat.le_refl _) _ _
 have HU : Hid (Has W1 W.heap.size 49 #[.int .i64 2, .int .i64 0, .int .i64 0, .int .i64 0, .int .i64 0, .int .i64 0, .int .i64 0, .int .i64 0, .int .i64 0, .int .i64 0, .int .i64 0, .int .i64 0, .int .i64 0, .int .i64 0, .slice none 0 0]) := by unfold Hid; rw [eW1]; exact has_new _ _ _
 have K1 := hid (KW.out.then_ (kk1.low KW.out.1.size))
 have HB1 := hid (HB.out.stays kk1 HB.out.here)
 have HR1 := hid (HR.out.stays kk1 HR.out.here)
 obtain ⟨g3, eg3⟩ : ∃ g, W.heap.size = g := ⟨_, rfl⟩
 rw [eg3] at HU
 have h13 : ¬ g1 = g3 := by have := HB.out.here; omega
 have h31 : ¬ g3 = g1 := by omega
 have h23 : ¬ g2 = g3 := by have := HR.out.here; omega
 have h32 : ¬ g3 = g2 := by omega
 have hw3 : w.heap.size ≤ g3 := by have := KW.out.1.size; omega
 clear kk1 eg1 eg2
 go_upto_region 2 with fail
 rw [← eW1]
 clear eW1 b0 b1 b2 b3 b4 b5 b6 b7 b8 b9 b10 b11 b12 b13 b14 l1 l2 HB HR KW
 try rw [eg3]
 clear eg3
 have b0 := HB1.out.at_ 0
 have b1 := HB1.out.at_ 1
 have b2 := HB1.out.at_ 2
 have b3 := HB1.out.at_ 3
 have b4 := HB1.out.at_ 4
 have b5 := HB1.out.at_ 5
 have b6 := HB1.out.at_ 6
 have b7 := HB1.out.at_ 7
 have b8 := HB1.out.at_ 8
 have b9 := HB1.out.at_ 9
 have b10 := HB1.out.at_ 10
 have b11 := HB1.out.at_ 11
 have b12 := HB1.out.at_ 12
 have b13 := HB1.out.at_ 13
 have b14 := HB1.out.at_ 14
 simp at b0 b1 b2 b3 b4 b5 b6 b7 b8 b9 b10 b11 b12 b13 b14
 have l1 : g1 < W1.heap.size := HB1.out.here
 have u0 := HU.out.at_ 0
 have u1 := HU.out.at_ 1
 have u2 := HU.out.at_ 2
 have u3 := HU.out.at_ 3
 have u4 := HU.out.at_ 4
 have u5 := HU.out.at_ 5
 have u6 := HU.out.at_ 6
 have u7 := HU.out.at_ 7
 have u8 := HU.out.at_ 8
 have u9 := HU.out.at_ 9
 have u10 := HU.out.at_ 10
 have u11 := HU.out.at_ 11
 have u12 := HU.out.at_ 12
 have u13 := HU.out.at_ 13
 have u14 := HU.out.at_ 14
 simp at u0 u1 u2 u3 u4 u5 u6 u7 u8 u9 u10 u11 u12 u13 u14
 have l3 : g3 < W1.heap.size := HU.out.here
 have f3 : ∀ i, W1.frozen? ⟨g3, i, none⟩ = false := HU.out.free
 go_upto_region 14 with fail
 obtain ⟨W2, eW2⟩ : ∃ V, V = (W1).setCell ⟨g3, 1, none⟩ (.int .i64 id) := ⟨_, rfl⟩
 have k2 : But (fun b => b = g3) W1 W2 := by rw [eW2]; exact ((But.rfl_ (fun b => b = g3) W1).put (p := ⟨g3, 1, none⟩) (.inl rfl) _)
 have HU2 : Hid (Has W2 g3 49 #[.int .i64 2, .int .i64 id, .int .i64 0, .int .i64 0, .int .i64 0, .int .i64 0, .int .i64 0, .int .i64 0, .int .i64 0, .int .i64 0, .int .i64 0, .int .i64 0, .int .i64 0, .int .i64 0, .slice none 0 0]) := by
  unfold Hid
  rw [eW2]
  have j0 : Has ((W1).setCell ⟨g3, 1, none⟩ (.int .i64 id)) g3 49 #[.int .i64 2, .int .i64 id, .int .i64 0, .int .i64 0, .int .i64 0, .int .i64 0, .int .i64 0, .int .i64 0, .int .i64 0, .int .i64 0, .int .i64 0, .int .i64 0, .int .i64 0, .int .i64 0, .slice none 0 0] := HU.out.put 1 _
  exact j0
 have HR2 := hid (HR1.out.but k2 h23)
 have K2 : Hid (Made w.heap.size w W2) := But.made_ K1.out k2 K1.out.1.size (fun b hb => by have hb : b = g3 := hb; omega)
 rw [← eW2]
 clear eW2 k2 b0 b1 b2 b3 b4 b5 b6 b7 b8 b9 b10 b11 b12 b13 b14 l1 u0 u1 u2 u3 u4 u5 u6 u7 u8 u9 u10 u11 u12 u13 u14 l3 f3 HU HR1 HB1 K1
 have u0 := HU2.out.at_ 0
 have u1 := HU2.out.at_ 1
 have u2 := HU2.out.at_ 2
 have u3 := HU2.out.at_ 3
 have u4 := HU2.out.at_ 4
 have u5 := HU2.out.at_ 5
 have u6 := HU2.out.at_ 6
 have u7 := HU2.out.at_ 7
 have u8 := HU2.out.at_ 8
 have u9 := HU2.out.at_ 9
 have u10 := HU2.out.at_ 10
 have u11 := HU2.out.at_ 11
 have u12 := HU2.out.at_ 12
 have u13 := HU2.out.at_ 13
 have u14 := HU2.out.at_ 14
 simp at u0 u1 u2 u3 u4 u5 u6 u7 u8 u9 u10 u11 u12 u13 u14
 have l3 : g3 < W2.heap.size := HU2.out.here
 have r_0 := HR2.out.at_ 0
 have r_1 := HR2.out.at_ 1
 have r_2 := HR2.out.at_ 2
 have r_3 := HR2.out.at_ 3
 have r_4 := HR2.out.at_ 4
 have r_5 := HR2.out.at_ 5
 have r_6 := HR2.out.at_ 6
 have r_7 := HR2.out.at_ 7
 have r_8 := HR2.out.at_ 8
 have r_9 := HR2.out.at_ 9
 have r_10 := HR2.out.at_ 10
 have r_11 := HR2.out.at_ 11
 have r_12 := HR2.out.at_ 12
 have r_13 := HR2.out.at_ 13
 have r_14 := HR2.out.at_ 14
 simp at r_0 r_1 r_2 r_3 r_4 r_5 r_6 r_7 r_8 r_9 r_10 r_11 r_12 r_13 r_14
 have l2 : g2 < W2.heap.size := HR2.out.here
 have f2 : ∀ i, W2.frozen? ⟨g2, i, none⟩ = false := HR2.out.free
 go_wp2_with fail
 obtain ⟨W3, eW3⟩ : ∃ V, V = (((((((((((((((W2).setCell ⟨g2, 0, none⟩ (.int .i64 2)).setCell ⟨g2, 1, none⟩ (.int .i64 id)).setCell ⟨g2, 2, none⟩ (.int .i64 0)).setCell ⟨g2, 3, none⟩ (.int .i64 0)).setCell ⟨g2, 4, none⟩ (.int .i64 0)).setCell ⟨g2, 5, none⟩ (.int .i64 0)).setCell ⟨g2, 6, none⟩ (.int .i64 0)).setCell ⟨g2, 7, none⟩ (.int .i64 0)).setCell ⟨g2, 8, none⟩ (.int .i64 0)).setCell ⟨g2, 9, none⟩ (.int .i64 0)).setCell ⟨g2, 10, none⟩ (.int .i64 0)).setCell ⟨g2, 11, none⟩ (.int .i64 0)).setCell ⟨g2, 12, none⟩ (.int .i64 0)).setCell ⟨g2, 13, none⟩ (.int .i64 0)).setCell ⟨g2, 14, none⟩ (.slice none 0 0) := ⟨_, rfl⟩
 have k3 : But (fun b => b = g2) W2 W3 := by rw [eW3]; exact (But.rfl_ (fun b => b = g2) W2).put15 (.inl rfl) _ _ _ _ _ _ _ _ _ _ _ _ _ _ _
 have HR3 : Has W3 g2 49 #[.int .i64 2, .int .i64 id, .int .i64 0, .int .i64 0, .int .i64 0, .int .i64 0, .int .i64 0, .int .i64 0, .int .i64 0, .int .i64 0, .int .i64 0, .int .i64 0, .int .i64 0, .int .i64 0, .slice none 0 0] := by rw [eW3]; exact HR2.out.put15 _ _ _ _ _ _ _ _ _ _ _ _ _ _ _
 have K3 : Made w.heap.size w W3 := But.made_ K2.out k3 K2.out.1.size (fun b hb => by have hb : b = g2 := hb; omega)
 try rw [← eW3]
 clear eW3 u0 u1 u2 u3 u4 u5 u6 u7 u8 u9 u10 u11 u12 u13 u14 l3 r_0 r_1 r_2 r_3 r_4 r_5 r_6 r_7 r_8 r_9 r_10 r_11 r_12 r_13 r_14 l2 f2
 have q0 := HR3.at_ 0
 have q1 := HR3.at_ 1
 have q2 := HR3.at_ 2
 have q3 := HR3.at_ 3
 have q4 := HR3.at_ 4
 have q5 := HR3.at_ 5
 have q6 := HR3.at_ 6
 have q7 := HR3.at_ 7
 have q8 := HR3.at_ 8
 have q9 := HR3.at_ 9
 have q10 := HR3.at_ 10
 have q11 := HR3.at_ 11
 have q12 := HR3.at_ 12
 have q13 := HR3.at_ 13
 have q14 := HR3.at_ 14
 simp at q0 q1 q2 q3 q4 q5 q6 q7 q8 q9 q10 q11 q12 q13 q14
 exact bodyPost_ret (v := .agg #[.int .i64 2, .int .i64 id, .int .i64 0, .int .i64 0, .int .i64 0, .int .i64 0, .int .i64 0, .int .i64 0, .int .i64 0, .int .i64 0, .int .i64 0, .int .i64 0, .int .i64 0, .int .i64 0, .slice none 0 0]) (by simp [results, Tryz.results37, go_sem, q0, q1, q2, q3, q4, q5, q6, q7, q8, q9, q10, q11, q12, q13, q14]) rfl ⟨rfl, by first | exact K3 | exact K3.draws 1⟩
theorem used4 (id a b x y vx vy an sp de ln k r : Int) (ao : Option Addr) (n c : Nat) (w : World) :
  Calls Tryz.prog 37 #[.agg #[.int .i64 4, .int .i64 id, .int .i64 a, .int .i64 b, .int .i64 x, .int .i64 y, .int .i64 vx, .int .i64 vy, .int .i64 an, .int .i64 sp, .int .i64 de, .int .i64 ln, .int .i64 k, .int .i64 r, .slice ao n c]] w fun e v => e = .returned (.agg #[.int .i64 4, .int .i64 id, .int .i64 0, .int .i64 0, .int .i64 0, .int .i64 0, .int .i64 0, .int .i64 0, .int .i64 0, .int .i64 0, .int .i64 0, .int .i64 0, .int .i64 0, .int .i64 0, .slice none 0 0]) ∧ Made w.heap.size w v := by
 obtain ⟨W, eW⟩ : ∃ W, W = (w.alloc (.cells #[.int .i64 4, .int .i64 id, .int .i64 a, .int .i64 b, .int .i64 x, .int .i64 y, .int .i64 vx, .int .i64 vy, .int .i64 an, .int .i64 sp, .int .i64 de, .int .i64 ln, .int .i64 k, .int .i64 r, .slice ao n c] 49)).alloc (.cells #[.int .i64 0, .int .i64 0, .int .i64 0, .int .i64 0, .int .i64 0, .int .i64 0, .int .i64 0, .int .i64 0, .int .i64 0, .int .i64 0, .int .i64 0, .int .i64 0, .int .i64 0, .int .i64 0, .slice none 0 0] 49) := ⟨_, rfl⟩
 have KW : Hid (Made w.heap.size w W) := by unfold Hid; rw [eW]; exact ((Made.rfl_ _ _).cells (Nat.le_refl _) _ _).cells (by simp) _ _
 have HB : Hid (Has W w.heap.size 49 #[.int .i64 4, .int .i64 id, .int .i64 a, .int .i64 b, .int .i64 x, .int .i64 y, .int .i64 vx, .int .i64 vy, .int .i64 an, .int .i64 sp, .int .i64 de, .int .i64 ln, .int .i64 k, .int .i64 r, .slice ao n c]) := by unfold Hid; rw [eW]; exact (has_new _ _ _).more _
 have HR : Hid (Has W (w.heap.size + 1) 49 #[.int .i64 0, .int .i64 0, .int .i64 0, .int .i64 0, .int .i64 0, .int .i64 0, .int .i64 0, .int .i64 0, .int .i64 0, .int .i64 0, .int .i64 0, .int .i64 0, .int .i64 0, .int .i64 0, .slice none 0 0]) := by unfold Hid; rw [eW]; exact has_nxt' _ _ _ _
 obtain ⟨g1, eg1⟩ : ∃ g, w.heap.size = g := ⟨_, rfl⟩
 obtain ⟨g2, eg2⟩ : ∃ g, g1 + 1 = g := ⟨_, rfl⟩
 have hw1 : w.heap.size ≤ g1 := Nat.le_of_eq eg1
 have hw2 : w.heap.size ≤ g2 := by omega
 rw [eg1] at HB
 rw [eg1, eg2] at HR
 go_enter Tryz.func37, Tryz.ntmps37
 have b0 := HB.out.at_ 0
 have b1 := HB.out.at_ 1
 have b2 := HB.out.at_ 2
 have b3 := HB.out.at_ 3
 have b4 := HB.out.at_ 4
 have b5 := HB.out.at_ 5
 have b6 := HB.out.at_ 6
 have b7 := HB.out.at_ 7
 have b8 := HB.out.at_ 8
 have b9 := HB.out.at_ 9
 have b10 := HB.out.at_ 10
 have b11 := HB.out.at_ 11
 have b12 := HB.out.at_ 12
 have b13 := HB.out.at_ 13
 have b14 := HB.out.at_ 14
 simp at b0 b1 b2 b3 b4 b5 b6 b7 b8 b9 b10 b11 b12 b13 b14
 have l1 : g1 < W.heap.size := HB.out.here
 have l2 : g2 < W.heap.size := HR.out.here
 go_upto_region 1 with fail
 rw [← eW]
 clear eW
 try rw [eg1]
 try rw [eg2]
 obtain ⟨W1, eW1⟩ : ∃ V, V = W.alloc (.cells #[.int .i64 4, .int .i64 0, .int .i64 0, .int .i64 0, .int .i64 0, .int .i64 0, .int .i64 0, .int .i64 0, .int .i64 0, .int .i64 0, .int .i64 0, .int .i64 0, .int .i64 0, .int .i64 0, .slice none 0 0] 49) := ⟨_, rfl⟩
 have kk1 : Made W.heap.size W W1 := by rw [eW1]; exact (Made.rfl_ _ _).cells (Nat.le_refl _) _ _
 have HU : Hid (Has W1 W.heap.size 49 #[.int .i64 4, .int .i64 0, .int .i64 0, .int .i64 0, .int .i64 0, .int .i64 0, .int .i64 0, .int .i64 0, .int .i64 0, .int .i64 0, .int .i64 0, .int .i64 0, .int .i64 0, .int .i64 0, .slice none 0 0]) := by unfold Hid; rw [eW1]; exact has_new _ _ _
 have K1 := hid (KW.out.then_ (kk1.low KW.out.1.size))
 have HB1 := hid (HB.out.stays kk1 HB.out.here)
 have HR1 := hid (HR.out.stays kk1 HR.out.here)
 obtain ⟨g3, eg3⟩ : ∃ g, W.heap.size = g := ⟨_, rfl⟩
 rw [eg3] at HU
 have h13 : ¬ g1 = g3 := by have := HB.out.here; omega
 have h31 : ¬ g3 = g1 := by omega
 have h23 : ¬ g2 = g3 := by have := HR.out.here; omega
 have h32 : ¬ g3 = g2 := by omega
 have hw3 : w.heap.size ≤ g3 := by have := KW.out.1.size; omega
 clear kk1 eg1 eg2
 go_upto_region 2 with fail
 rw [← eW1]
 clear eW1 b0 b1 b2 b3 b4 b5 b6 b7 b8 b9 b10 b11 b12 b13 b14 l1 l2 HB HR KW
 try rw [eg3]
 clear eg3
 have b0 := HB1.out.at_ 0
 have b1 := HB1.out.at_ 1
 have b2 := HB1.out.at_ 2
 have b3 := HB1.out.at_ 3
 have b4 := HB1.out.at_ 4
 have b5 := HB1.out.at_ 5
 have b6 := HB1.out.at_ 6
 have b7 := HB1.out.at_ 7
 have b8 := HB1.out.at_ 8
 have b9 := HB1.out.at_ 9
 have b10 := HB1.out.at_ 10
 have b11 := HB1.out.at_ 11
 have b12 := HB1.out.at_ 12
 have b13 := HB1.out.at_ 13
 have b14 := HB1.out.at_ 14
 simp at b0 b1 b2 b3 b4 b5 b6 b7 b8 b9 b10 b11 b12 b13 b14
 have l1 : g1 < W1.heap.size := HB1.out.here
 have u0 := HU.out.at_ 0
 have u1 := HU.out.at_ 1
 have u2 := HU.out.at_ 2
 have u3 := HU.out.at_ 3
 have u4 := HU.out.at_ 4
 have u5 := HU.out.at_ 5
 have u6 := HU.out.at_ 6
 have u7 := HU.out.at_ 7
 have u8 := HU.out.at_ 8
 have u9 := HU.out.at_ 9
 have u10 := HU.out.at_ 10
 have u11 := HU.out.at_ 11
 have u12 := HU.out.at_ 12
 have u13 := HU.out.at_ 13
 have u14 := HU.out.at_ 14
 simp at u0 u1 u2 u3 u4 u5 u6 u7 u8 u9 u10 u11 u12 u13 u14
 have l3 : g3 < W1.heap.size := HU.out.here
 have f3 : ∀ i, W1.frozen? ⟨g3, i, none⟩ = false := HU.out.free
 go_upto_region 14 with fail
 obtain ⟨W2, eW2⟩ : ∃ V, V = (W1).setCell ⟨g3, 1, none⟩ (.int .i64 id) := ⟨_, rfl⟩
 have k2 : But (fun b => b = g3) W1 W2 := by rw [eW2]; exact ((But.rfl_ (fun b => b = g3) W1).put (p := ⟨g3, 1, none⟩) (.inl rfl) _)
 have HU2 : Hid (Has W2 g3 49 #[.int .i64 4, .int .i64 id, .int .i64 0, .int .i64 0, .int .i64 0, .int .i64 0, .int .i64 0, .int .i64 0, .int .i64 0, .int .i64 0, .int .i64 0, .int .i64 0, .int .i64 0, .int .i64 0, .slice none 0 0]) := by
  unfold Hid
  rw [eW2]
  have j0 : Has ((W1).setCell ⟨g3, 1, none⟩ (.int .i64 id)) g3 49 #[.int .i64 4, .int .i64 id, .int .i64 0, .int .i64 0, .int .i64 0, .int .i64 0, .int .i64 0, .int .i64 0, .int .i64 0, .int .i64 0, .int .i64 0, .int .i64 0, .int .i64 0, .int .i64 0, .slice none 0 0] := HU.out.put 1 _
  exact j0
 have HR2 := hid (HR1.out.but k2 h23)
 have K2 : Hid (Made w.heap.size w W2) := But.made_ K1.out k2 K1.out.1.size (fun b hb => by have hb : b = g3 := hb; omega)
 rw [← eW2]
 clear eW2 k2 b0 b1 b2 b3 b4 b5 b6 b7 b8 b9 b10 b11 b12 b13 b14 l1 u0 u1 u2 u3 u4 u5 u6 u7 u8 u9 u10 u11 u12 u13 u14 l3 f3 HU HR1 HB1 K1
 have u0 := HU2.out.at_ 0
 have u1 := HU2.out.at_ 1
 have u2 := HU2.out.at_ 2
 have u3 := HU2.out.at_ 3
 have u4 := HU2.out.at_ 4
 have u5 := HU2.out.at_ 5
 have u6 := HU2.out.at_ 6
 have u7 := HU2.out.at_ 7
 have u8 := HU2.out.at_ 8
 have u9 := HU2.out.at_ 9
 have u10 := HU2.out.at_ 10
 have u11 := HU2.out.at_ 11
 have u12 := HU2.out.at_ 12
 have u13 := HU2.out.at_ 13
 have u14 := HU2.out.at_ 14
 simp at u0 u1 u2 u3 u4 u5 u6 u7 u8 u9 u10 u11 u12 u13 u14
 have l3 : g3 < W2.heap.size := HU2.out.here
 have r_0 := HR2.out.at_ 0
 have r_1 := HR2.out.at_ 1
 have r_2 := HR2.out.at_ 2
 have r_3 := HR2.out.at_ 3
 have r_4 := HR2.out.at_ 4
 have r_5 := HR2.out.at_ 5
 have r_6 := HR2.out.at_ 6
 have r_7 := HR2.out.at_ 7
 have r_8 := HR2.out.at_ 8
 have r_9 := HR2.out.at_ 9
 have r_10 := HR2.out.at_ 10
 have r_11 := HR2.out.at_ 11
 have r_12 := HR2.out.at_ 12
 have r_13 := HR2.out.at_ 13
 have r_14 := HR2.out.at_ 14
 simp at r_0 r_1 r_2 r_3 r_4 r_5 r_6 r_7 r_8 r_9 r_10 r_11 r_12 r_13 r_14
 have l2 : g2 < W2.heap.size := HR2.out.here
 have f2 : ∀ i, W2.frozen? ⟨g2, i, none⟩ = false := HR2.out.free
 go_wp2_with fail
 obtain ⟨W3, eW3⟩ : ∃ V, V = (((((((((((((((W2).setCell ⟨g2, 0, none⟩ (.int .i64 4)).setCell ⟨g2, 1, none⟩ (.int .i64 id)).setCell ⟨g2, 2, none⟩ (.int .i64 0)).setCell ⟨g2, 3, none⟩ (.int .i64 0)).setCell ⟨g2, 4, none⟩ (.int .i64 0)).setCell ⟨g2, 5, none⟩ (.int .i64 0)).setCell ⟨g2, 6, none⟩ (.int .i64 0)).setCell ⟨g2, 7, none⟩ (.int .i64 0)).setCell ⟨g2, 8, none⟩ (.int .i64 0)).setCell ⟨g2, 9, none⟩ (.int .i64 0)).setCell ⟨g2, 10, none⟩ (.int .i64 0)).setCell ⟨g2, 11, none⟩ (.int .i64 0)).setCell ⟨g2, 12, none⟩ (.int .i64 0)).setCell ⟨g2, 13, none⟩ (.int .i64 0)).setCell ⟨g2, 14, none⟩ (.slice none 0 0) := ⟨_, rfl⟩
 have k3 : But (fun b => b = g2) W2 W3 := by rw [eW3]; exact (But.rfl_ (fun b => b = g2) W2).put15 (.inl rfl) _ _ _ _ _ _ _ _ _ _ _ _ _ _ _
 have HR3 : Has W3 g2 49 #[.int .i64 4, .int .i64 id, .int .i64 0, .int .i64 0, .int .i64 0, .int .i64 0, .int .i64 0, .int .i64 0, .int .i64 0, .int .i64 0, .int .i64 0, .int .i64 0, .int .i64 0, .int .i64 0, .slice none 0 0] := by rw [eW3]; exact HR2.out.put15 _ _ _ _ _ _ _ _ _ _ _ _ _ _ _
 have K3 : Made w.heap.size w W3 := But.made_ K2.out k3 K2.out.1.size (fun b hb => by have hb : b = g2 := hb; omega)
 try rw [← eW3]
 clear eW3 u0 u1 u2 u3 u4 u5 u6 u7 u8 u9 u10 u11 u12 u13 u14 l3 r_0 r_1 r_2 r_3 r_4 r_5 r_6 r_7 r_8 r_9 r_10 r_11 r_12 r_13 r_14 l2 f2
 have q0 := HR3.at_ 0
 have q1 := HR3.at_ 1
 have q2 := HR3.at_ 2
 have q3 := HR3.at_ 3
 have q4 := HR3.at_ 4
 have q5 := HR3.at_ 5
 have q6 := HR3.at_ 6
 have q7 := HR3.at_ 7
 have q8 := HR3.at_ 8
 have q9 := HR3.at_ 9
 have q10 := HR3.at_ 10
 have q11 := HR3.at_ 11
 have q12 := HR3.at_ 12
 have q13 := HR3.at_ 13
 have q14 := HR3.at_ 14
 simp at q0 q1 q2 q3 q4 q5 q6 q7 q8 q9 q10 q11 q12 q13 q14
 exact bodyPost_ret (v := .agg #[.int .i64 4, .int .i64 id, .int .i64 0, .int .i64 0, .int .i64 0, .int .i64 0, .int .i64 0, .int .i64 0, .int .i64 0, .int .i64 0, .int .i64 0, .int .i64 0, .int .i64 0, .int .i64 0, .slice none 0 0]) (by simp [results, Tryz.results37, go_sem, q0, q1, q2, q3, q4, q5, q6, q7, q8, q9, q10, q11, q12, q13, q14]) rfl ⟨rfl, by first | exact K3 | exact K3.draws 1⟩
theorem used6 (id a b x y vx vy an sp de ln k r : Int) (ao : Option Addr) (n c : Nat) (w : World) :
  Calls Tryz.prog 37 #[.agg #[.int .i64 6, .int .i64 id, .int .i64 a, .int .i64 b, .int .i64 x, .int .i64 y, .int .i64 vx, .int .i64 vy, .int .i64 an, .int .i64 sp, .int .i64 de, .int .i64 ln, .int .i64 k, .int .i64 r, .slice ao n c]] w fun e v => e = .returned (.agg #[.int .i64 6, .int .i64 0, .int .i64 0, .int .i64 0, .int .i64 0, .int .i64 0, .int .i64 vx, .int .i64 vy, .int .i64 0, .int .i64 0, .int .i64 0, .int .i64 0, .int .i64 0, .int .i64 0, .slice none 0 0]) ∧ Made w.heap.size w v := by
 obtain ⟨W, eW⟩ : ∃ W, W = (w.alloc (.cells #[.int .i64 6, .int .i64 id, .int .i64 a, .int .i64 b, .int .i64 x, .int .i64 y, .int .i64 vx, .int .i64 vy, .int .i64 an, .int .i64 sp, .int .i64 de, .int .i64 ln, .int .i64 k, .int .i64 r, .slice ao n c] 49)).alloc (.cells #[.int .i64 0, .int .i64 0, .int .i64 0, .int .i64 0, .int .i64 0, .int .i64 0, .int .i64 0, .int .i64 0, .int .i64 0, .int .i64 0, .int .i64 0, .int .i64 0, .int .i64 0, .int .i64 0, .slice none 0 0] 49) := ⟨_, rfl⟩
 have KW : Hid (Made w.heap.size w W) := by unfold Hid; rw [eW]; exact ((Made.rfl_ _ _).cells (Nat.le_refl _) _ _).cells (by simp) _ _
 have HB : Hid (Has W w.heap.size 49 #[.int .i64 6, .int .i64 id, .int .i64 a, .int .i64 b, .int .i64 x, .int .i64 y, .int .i64 vx, .int .i64 vy, .int .i64 an, .int .i64 sp, .int .i64 de, .int .i64 ln, .int .i64 k, .int .i64 r, .slice ao n c]) := by unfold Hid; rw [eW]; exact (has_new _ _ _).more _
 have HR : Hid (Has W (w.heap.size + 1) 49 #[.int .i64 0, .int .i64 0, .int .i64 0, .int .i64 0, .int .i64 0, .int .i64 0, .int .i64 0, .int .i64 0, .int .i64 0, .int .i64 0, .int .i64 0, .int .i64 0, .int .i64 0, .int .i64 0, .slice none 0 0]) := by unfold Hid; rw [eW]; exact has_nxt' _ _ _ _
 obtain ⟨g1, eg1⟩ : ∃ g, w.heap.size = g := ⟨_, rfl⟩
 obtain ⟨g2, eg2⟩ : ∃ g, g1 + 1 = g := ⟨_, rfl⟩
 have hw1 : w.heap.size ≤ g1 := Nat.le_of_eq eg1
 have hw2 : w.heap.size ≤ g2 := by omega
 rw [eg1] at HB
 rw [eg1, eg2] at HR
 go_enter Tryz.func37, Tryz.ntmps37
 have b0 := HB.out.at_ 0
 have b1 := HB.out.at_ 1
 have b2 := HB.out.at_ 2
 have b3 := HB.out.at_ 3
 have b4 := HB.out.at_ 4
 have b5 := HB.out.at_ 5
 have b6 := HB.out.at_ 6
 have b7 := HB.out.at_ 7
 have b8 := HB.out.at_ 8
 have b9 := HB.out.at_ 9
 have b10 := HB.out.at_ 10
 have b11 := HB.out.at_ 11
 have b12 := HB.out.at_ 12
 have b13 := HB.out.at_ 13
 have b14 := HB.out.at_ 14
 simp at b0 b1 b2 b3 b4 b5 b6 b7 b8 b9 b10 b11 b12 b13 b14
 have l1 : g1 < W.heap.size := HB.out.here
 have l2 : g2 < W.heap.size := HR.out.here
 go_upto_region 1 with fail
 rw [← eW]
 clear eW
 try rw [eg1]
 try rw [eg2]
 obtain ⟨W1, eW1⟩ : ∃ V, V = W.alloc (.cells #[.int .i64 6, .int .i64 0, .int .i64 0, .int .i64 0, .int .i64 0, .int .i64 0, .int .i64 0, .int .i64 0, .int .i64 0, .int .i64 0, .int .i64 0, .int .i64 0, .int .i64 0, .int .i64 0, .slice none 0 0] 49) := ⟨_, rfl⟩
 have kk1 : Made W.heap.size W W1 := by rw [eW1]; exact (Made.rfl_ _ _).cells (Nat.le_refl _) _ _
 have HU : Hid (Has W1 W.heap.size 49 #[.int .i64 6, .int .i64 0, .int .i64 0, .int .i64 0, .int .i64 0, .int .i64 0, .int .i64 0, .int .i64 0, .int .i64 0, .int .i64 0, .int .i64 0, .int .i64 0, .int .i64 0, .int .i64 0, .slice none 0 0]) := by unfold Hid; rw [eW1]; exact has_new _ _ _
 have K1 := hid (KW.out.then_ (kk1.low KW.out.1.size))
 have HB1 := hid (HB.out.stays kk1 HB.out.here)
 have HR1 := hid (HR.out.stays kk1 HR.out.here)
 obtain ⟨g3, eg3⟩ : ∃ g, W.heap.size = g := ⟨_, rfl⟩
 rw [eg3] at HU
 have h13 : ¬ g1 = g3 := by have := HB.out.here; omega
 have h31 : ¬ g3 = g1 := by omega
 have h23 : ¬ g2 = g3 := by have := HR.out.here; omega
 have h32 : ¬ g3 = g2 := by omega
 have hw3 : w.heap.size ≤ g3 := by have := KW.out.1.size; omega
 clear kk1 eg1 eg2
 go_upto_region 2 with fail
 rw [← eW1]
 clear eW1 b0 b1 b2 b3 b4 b5 b6 b7 b8 b9 b10 b11 b12 b13 b14 l1 l2 HB HR KW
 try rw [eg3]
 clear eg3
 have b0 := HB1.out.at_ 0
 have b1 := HB1.out.at_ 1
 have b2 := HB1.out.at_ 2
 have b3 := HB1.out.at_ 3
 have b4 := HB1.out.at_ 4
 have b5 := HB1.out.at_ 5
 have b6 := HB1.out.at_ 6
 have b7 := HB1.out.at_ 7
 have b8 := HB1.out.at_ 8
 have b9 := HB1.out.at_ 9
 have b10 := HB1.out.at_ 10
 have b11 := HB1.out.at_ 11
 have b12 := HB1.out.at_ 12
 have b13 := HB1.out.at_ 13
 have b14 := HB1.out.at_ 14
 simp at b0 b1 b2 b3 b4 b5 b6 b7 b8 b9 b10 b11 b12 b13 b14
 have l1 : g1 < W1.heap.size := HB1.out.here
 have u0 := HU.out.at_ 0
 have u1 := HU.out.at_ 1
 have u2 := HU.out.at_ 2
 have u3 := HU.out.at_ 3
 have u4 := HU.out.at_ 4
 have u5 := HU.out.at_ 5
 have u6 := HU.out.at_ 6
 have u7 := HU.out.at_ 7
 have u8 := HU.out.at_ 8
 have u9 := HU.out.at_ 9
 have u10 := HU.out.at_ 10
 have u11 := HU.out.at_ 11
 have u12 := HU.out.at_ 12
 have u13 := HU.out.at_ 13
 have u14 := HU.out.at_ 14
 simp at u0 u1 u2 u3 u4 u5 u6 u7 u8 u9 u10 u11 u12 u13 u14
 have l3 : g3 < W1.heap.size := HU.out.here
 have f3 : ∀ i, W1.frozen? ⟨g3, i, none⟩ = false := HU.out.free
 go_upto_region 14 with fail
 obtain ⟨W2, eW2⟩ : ∃ V, V = ((W1).setCell ⟨g3, 6, none⟩ (.int .i64 vx)).setCell ⟨g3, 7, none⟩ (.int .i64 vy) := ⟨_, rfl⟩
 have k2 : But (fun b => b = g3) W1 W2 := by rw [eW2]; exact (((But.rfl_ (fun b => b = g3) W1).put (p := ⟨g3, 6, none⟩) (.inl rfl) _).put (p := ⟨g3, 7, none⟩) (.inl rfl) _)
 have HU2 : Hid (Has W2 g3 49 #[.int .i64 6, .int .i64 0, .int .i64 0, .int .i64 0, .int .i64 0, .int .i64 0, .int .i64 vx, .int .i64 vy, .int .i64 0, .int .i64 0, .int .i64 0, .int .i64 0, .int .i64 0, .int .i64 0, .slice none 0 0]) := by
  unfold Hid
  rw [eW2]
  have j0 : Has ((W1).setCell ⟨g3, 6, none⟩ (.int .i64 vx)) g3 49 #[.int .i64 6, .int .i64 0, .int .i64 0, .int .i64 0, .int .i64 0, .int .i64 0, .int .i64 vx, .int .i64 0, .int .i64 0, .int .i64 0, .int .i64 0, .int .i64 0, .int .i64 0, .int .i64 0, .slice none 0 0] := HU.out.put 6 _
  have j1 : Has (((W1).setCell ⟨g3, 6, none⟩ (.int .i64 vx)).setCell ⟨g3, 7, none⟩ (.int .i64 vy)) g3 49 #[.int .i64 6, .int .i64 0, .int .i64 0, .int .i64 0, .int .i64 0, .int .i64 0, .int .i64 vx, .int .i64 vy, .int .i64 0, .int .i64 0, .int .i64 0, .int .i64 0, .int .i64 0, .int .i64 0, .slice none 0 0] := j0.put 7 _
  exact j1
 have HR2 := hid (HR1.out.but k2 h23)
 have K2 : Hid (Made w.heap.size w W2) := But.made_ K1.out k2 K1.out.1.size (fun b hb => by have hb : b = g3 := hb; omega)
 rw [← eW2]
 clear eW2 k2 b0 b1 b2 b3 b4 b5 b6 b7 b8 b9 b10 b11 b12 b13 b14 l1 u0 u1 u2 u3 u4 u5 u6 u7 u8 u9 u10 u11 u12 u13 u14 l3 f3 HU HR1 HB1 K1
 have u0 := HU2.out.at_ 0
 have u1 := HU2.out.at_ 1
 have u2 := HU2.out.at_ 2
 have u3 := HU2.out.at_ 3
 have u4 := HU2.out.at_ 4
 have u5 := HU2.out.at_ 5
 have u6 := HU2.out.at_ 6
 have u7 := HU2.out.at_ 7
 have u8 := HU2.out.at_ 8
 have u9 := HU2.out.at_ 9
 have u10 := HU2.out.at_ 10
 have u11 := HU2.out.at_ 11
 have u12 := HU2.out.at_ 12
 have u13 := HU2.out.at_ 13
 have u14 := HU2.out.at_ 14
 simp at u0 u1 u2 u3 u4 u5 u6 u7 u8 u9 u10 u11 u12 u13 u14
 have l3 : g3 < W2.heap.size := HU2.out.here
 have r_0 := HR2.out.at_ 0
 have r_1 := HR2.out.at_ 1
 have r_2 := HR2.out.at_ 2
 have r_3 := HR2.out.at_ 3
 have r_4 := HR2.out.at_ 4
 have r_5 := HR2.out.at_ 5
 have r_6 := HR2.out.at_ 6
 have r_7 := HR2.out.at_ 7
 have r_8 := HR2.out.at_ 8
 have r_9 := HR2.out.at_ 9
 have r_10 := HR2.out.at_ 10
 have r_11 := HR2.out.at_ 11
 have r_12 := HR2.out.at_ 12
 have r_13 := HR2.out.at_ 13
 have r_14 := HR2.out.at_ 14
 simp at r_0 r_1 r_2 r_3 r_4 r_5 r_6 r_7 r_8 r_9 r_10 r_11 r_12 r_13 r_14
 have l2 : g2 < W2.heap.size := HR2.out.here
 have f2 : ∀ i, W2.frozen? ⟨g2, i, none⟩ = false := HR2.out.free
 go_wp2_with fail
 obtain ⟨W3, eW3⟩ : ∃ V, V = (((((((((((((((W2).setCell ⟨g2, 0, none⟩ (.int .i64 6)).setCell ⟨g2, 1, none⟩ (.int .i64 0)).setCell ⟨g2, 2, none⟩ (.int .i64 0)).setCell ⟨g2, 3, none⟩ (.int .i64 0)).setCell ⟨g2, 4, none⟩ (.int .i64 0)).setCell ⟨g2, 5, none⟩ (.int .i64 0)).setCell ⟨g2, 6, none⟩ (.int .i64 vx)).setCell ⟨g2, 7, none⟩ (.int .i64 vy)).setCell ⟨g2, 8, none⟩ (.int .i64 0)).setCell ⟨g2, 9, none⟩ (.int .i64 0)).setCell ⟨g2, 10, none⟩ (.int .i64 0)).setCell ⟨g2, 11, none⟩ (.int .i64 0)).setCell ⟨g2, 12, none⟩ (.int .i64 0)).setCell ⟨g2, 13, none⟩ (.int .i64 0)).setCell ⟨g2, 14, none⟩ (.slice none 0 0) := ⟨_, rfl⟩
 have k3 : But (fun b => b = g2) W2 W3 := by rw [eW3]; exact (But.rfl_ (fun b => b = g2) W2).put15 (.inl rfl) _ _ _ _ _ _ _ _ _ _ _ _ _ _ _
 have HR3 : Has W3 g2 49 #[.int .i64 6, .int .i64 0, .int .i64 0, .int .i64 0, .int .i64 0, .int .i64 0, .int .i64 vx, .int .i64 vy, .int .i64 0, .int .i64 0, .int .i64 0, .int .i64 0, .int .i64 0, .int .i64 0, .slice none 0 0] := by rw [eW3]; exact HR2.out.put15 _ _ _ _ _ _ _ _ _ _ _ _ _ _ _
 have K3 : Made w.heap.size w W3 := But.made_ K2.out k3 K2.out.1.size (fun b hb => by have hb : b = g2 := hb; omega)
 try rw [← eW3]
 clear eW3 u0 u1 u2 u3 u4 u5 u6 u7 u8 u9 u10 u11 u12 u13 u14 l3 r_0 r_1 r_2 r_3 r_4 r_5 r_6 r_7 r_8 r_9 r_10 r_11 r_12 r_13 r_14 l2 f2
 have q0 := HR3.at_ 0
 have q1 := HR3.at_ 1
 have q2 := HR3.at_ 2
 have q3 := HR3.at_ 3
 have q4 := HR3.at_ 4
 have q5 := HR3.at_ 5
 have q6 := HR3.at_ 6
 have q7 := HR3.at_ 7
 have q8 := HR3.at_ 8
 have q9 := HR3.at_ 9
 have q10 := HR3.at_ 10
 have q11 := HR3.at_ 11
 have q12 := HR3.at_ 12
 have q13 := HR3.at_ 13
 have q14 := HR3.at_ 14
 simp at q0 q1 q2 q3 q4 q5 q6 q7 q8 q9 q10 q11 q12 q13 q14
 exact bodyPost_ret (v := .agg #[.int .i64 6, .int .i64 0, .int .i64 0, .int .i64 0, .int .i64 0, .int .i64 0, .int .i64 vx, .int .i64 vy, .int .i64 0, .int .i64 0, .int .i64 0, .int .i64 0, .int .i64 0, .int .i64 0, .slice none 0 0]) (by simp [results, Tryz.results37, go_sem, q0, q1, q2, q3, q4, q5, q6, q7, q8, q9, q10, q11, q12, q13, q14]) rfl ⟨rfl, by first | exact K3 | exact K3.draws 1⟩
theorem used0 (kd id a b x y vx vy an sp de ln k r : Int) (ao : Option Addr) (n c : Nat) (w : World) (h1 : (kd == 1) = false) (h2 : (kd == 2) = false) (h3 : (kd == 3) = false) (h4 : (kd == 4) = false) (h5 : (kd == 5) = false) (h6 : (kd == 6) = false) :
  Calls Tryz.prog 37 #[.agg #[.int .i64 kd, .int .i64 id, .int .i64 a, .int .i64 b, .int .i64 x, .int .i64 y, .int .i64 vx, .int .i64 vy, .int .i64 an, .int .i64 sp, .int .i64 de, .int .i64 ln, .int .i64 k, .int .i64 r, .slice ao n c]] w fun e v => e = .returned (.agg #[.int .i64 kd, .int .i64 0, .int .i64 0, .int .i64 0, .int .i64 0, .int .i64 0, .int .i64 0, .int .i64 0, .int .i64 0, .int .i64 0, .int .i64 0, .int .i64 0, .int .i64 0, .int .i64 0, .slice none 0 0]) ∧ Made w.heap.size w v := by
 obtain ⟨W, eW⟩ : ∃ W, W = (w.alloc (.cells #[.int .i64 kd, .int .i64 id, .int .i64 a, .int .i64 b, .int .i64 x, .int .i64 y, .int .i64 vx, .int .i64 vy, .int .i64 an, .int .i64 sp, .int .i64 de, .int .i64 ln, .int .i64 k, .int .i64 r, .slice ao n c] 49)).alloc (.cells #[.int .i64 0, .int .i64 0, .int .i64 0, .int .i64 0, .int .i64 0, .int .i64 0, .int .i64 0, .int .i64 0, .int .i64 0, .int .i64 0, .int .i64 0, .int .i64 0, .int .i64 0, .int .i64 0, .slice none 0 0] 49) := ⟨_, rfl⟩
 have KW : Hid (Made w.heap.size w W) := by unfold Hid; rw [eW]; exact ((Made.rfl_ _ _).cells (Nat.le_refl _) _ _).cells (by simp) _ _
 have HB : Hid (Has W w.heap.size 49 #[.int .i64 kd, .int .i64 id, .int .i64 a, .int .i64 b, .int .i64 x, .int .i64 y, .int .i64 vx, .int .i64 vy, .int .i64 an, .int .i64 sp, .int .i64 de, .int .i64 ln, .int .i64 k, .int .i64 r, .slice ao n c]) := by unfold Hid; rw [eW]; exact (has_new _ _ _).more _
 have HR : Hid (Has W (w.heap.size + 1) 49 #[.int .i64 0, .int .i64 0, .int .i64 0, .int .i64 0, .int .i64 0, .int .i64 0, .int .i64 0, .int .i64 0, .int .i64 0, .int .i64 0, .int .i64 0, .int .i64 0, .int .i64 0, .int .i64 0, .slice none 0 0]) := by unfold Hid; rw [eW]; exact has_nxt' _ _ _ _
 obtain ⟨g1, eg1⟩ : ∃ g, w.heap.size = g := ⟨_, rfl⟩
 obtain ⟨g2, eg2⟩ : ∃ g, g1 + 1 = g := ⟨_, rfl⟩
 have hw1 : w.heap.size ≤ g1 := Nat.le_of_eq eg1
 have hw2 : w.heap.size ≤ g2 := by omega
 rw [eg1] at HB
 rw [eg1, eg2] at HR
 go_enter Tryz.func37, Tryz.ntmps37
 have b0 := HB.out.at_ 0
 have b1 := HB.out.at_ 1
 have b2 := HB.out.at_ 2
 have b3 := HB.out.at_ 3
 have b4 := HB.out.at_ 4
 have b5 := HB.out.at_ 5
 have b6 := HB.out.at_ 6
 have b7 := HB.out.at_ 7
 have b8 := HB.out.at_ 8
 have b9 := HB.out.at_ 9
 have b10 := HB.out.at_ 10
 have b11 := HB.out.at_ 11
 have b12 := HB.out.at_ 12
 have b13 := HB.out.at_ 13
 have b14 := HB.out.at_ 14
 simp at b0 b1 b2 b3 b4 b5 b6 b7 b8 b9 b10 b11 b12 b13 b14
 have l1 : g1 < W.heap.size := HB.out.here
 have l2 : g2 < W.heap.size := HR.out.here
 go_upto_region 1 with fail
 rw [← eW]
 clear eW
 try rw [eg1]
 try rw [eg2]
 obtain ⟨W1, eW1⟩ : ∃ V, V = W.alloc (.cells #[.int .i64 kd, .int .i64 0, .int .i64 0, .int .i64 0, .int .i64 0, .int .i64 0, .int .i64 0, .int .i64 0, .int .i64 0, .int .i64 0, .int .i64 0, .int .i64 0, .int .i64 0, .int .i64 0, .slice none 0 0] 49) := ⟨_, rfl⟩
 have kk1 : Made W.heap.size W W1 := by rw [eW1]; exact (Made.rfl_ _ _).cells (Nat.le_refl _) _ _
 have HU : Hid (Has W1 W.heap.size 49 #[.int .i64 kd, .int .i64 0, .int .i64 0, .int .i64 0, .int .i64 0, .int .i64 0, .int .i64 0, .int .i64 0, .int .i64 0, .int .i64 0, .int .i64 0, .int .i64 0, .int .i64 0, .int .i64 0, .slice none 0 0]) := by unfold Hid; rw [eW1]; exact has_new _ _ _
 have K1 := hid (KW.out.then_ (kk1.low KW.out.1.size))
 have HB1 := hid (HB.out.stays kk1 HB.out.here)
 have HR1 := hid (HR.out.stays kk1 HR.out.here)
 obtain ⟨g3, eg3⟩ : ∃ g, W.heap.size = g := ⟨_, rfl⟩
 rw [eg3] at HU
 have h13 : ¬ g1 = g3 := by have := HB.out.here; omega
 have h31 : ¬ g3 = g1 := by omega
 have h23 : ¬ g2 = g3 := by have := HR.out.here; omega
 have h32 : ¬ g3 = g2 := by omega
 have hw3 : w.heap.size ≤ g3 := by have := KW.out.1.size; omega
 clear kk1 eg1 eg2
 go_upto_region 2 with fail
 rw [← eW1]
 clear eW1 b0 b1 b2 b3 b4 b5 b6 b7 b8 b9 b10 b11 b12 b13 b14 l1 l2 HB HR KW
 try rw [eg3]
 clear eg3
 have b0 := HB1.out.at_ 0
 have b1 := HB1.out.at_ 1
 have b2 := HB1.out.at_ 2
 have b3 := HB1.out.at_ 3
 have b4 := HB1.out.at_ 4
 have b5 := HB1.out.at_ 5
 have b6 := HB1.out.at_ 6
 have b7 := HB1.out.at_ 7
 have b8 := HB1.out.at_ 8
 have b9 := HB1.out.at_ 9
 have b10 := HB1.out.at_ 10
 have b11 := HB1.out.at_ 11
 have b12 := HB1.out.at_ 12
 have b13 := HB1.out.at_ 13
 have b14 := HB1.out.at_ 14
 simp at b0 b1 b2 b3 b4 b5 b6 b7 b8 b9 b10 b11 b12 b13 b14
 have l1 : g1 < W1.heap.size := HB1.out.here
 have u0 := HU.out.at_ 0
 have u1 := HU.out.at_ 1
 have u2 := HU.out.at_ 2
 have u3 := HU.out.at_ 3
 have u4 := HU.out.at_ 4
 have u5 := HU.out.at_ 5
 have u6 := HU.out.at_ 6
 have u7 := HU.out.at_ 7
 have u8 := HU.out.at_ 8
 have u9 := HU.out.at_ 9
 have u10 := HU.out.at_ 10
 have u11 := HU.out.at_ 11
 have u12 := HU.out.at_ 12
 have u13 := HU.out.at_ 13
 have u14 := HU.out.at_ 14
 simp at u0 u1 u2 u3 u4 u5 u6 u7 u8 u9 u10 u11 u12 u13 u14
 have l3 : g3 < W1.heap.size := HU.out.here
 have f3 : ∀ i, W1.frozen? ⟨g3, i, none⟩ = false := HU.out.free
 go_upto_region 14 with fail
 obtain ⟨W2, eW2⟩ : ∃ V, V = W1 := ⟨_, rfl⟩
 have k2 : But (fun b => b = g3) W1 W2 := by rw [eW2]; exact (But.rfl_ (fun b => b = g3) W1)
 have HU2 : Hid (Has W2 g3 49 #[.int .i64 kd, .int .i64 0, .int .i64 0, .int .i64 0, .int .i64 0, .int .i64 0, .int .i64 0, .int .i64 0, .int .i64 0, .int .i64 0, .int .i64 0, .int .i64 0, .int .i64 0, .int .i64 0, .slice none 0 0]) := by
  unfold Hid
  rw [eW2]
  exact HU.out
 have HR2 := hid (HR1.out.but k2 h23)
 have K2 : Hid (Made w.heap.size w W2) := But.made_ K1.out k2 K1.out.1.size (fun b hb => by have hb : b = g3 := hb; omega)
 rw [← eW2]
 clear eW2 k2 b0 b1 b2 b3 b4 b5 b6 b7 b8 b9 b10 b11 b12 b13 b14 l1 u0 u1 u2 u3 u4 u5 u6 u7 u8 u9 u10 u11 u12 u13 u14 l3 f3 HU HR1 HB1 K1
 have u0 := HU2.out.at_ 0
 have u1 := HU2.out.at_ 1
 have u2 := HU2.out.at_ 2
 have u3 := HU2.out.at_ 3
 have u4 := HU2.out.at_ 4
 have u5 := HU2.out.at_ 5
 have u6 := HU2.out.at_ 6
 have u7 := HU2.out.at_ 7
 have u8 := HU2.out.at_ 8
 have u9 := HU2.out.at_ 9
 have u10 := HU2.out.at_ 10
 have u11 := HU2.out.at_ 11
 have u12 := HU2.out.at_ 12
 have u13 := HU2.out.at_ 13
 have u14 := HU2.out.at_ 14
 simp at u0 u1 u2 u3 u4 u5 u6 u7 u8 u9 u10 u11 u12 u13 u14
 have l3 : g3 < W2.heap.size := HU2.out.here
 have r_0 := HR2.out.at_ 0
 have r_1 := HR2.out.at_ 1
 have r_2 := HR2.out.at_ 2
 have r_3 := HR2.out.at_ 3
 have r_4 := HR2.out.at_ 4
 have r_5 := HR2.out.at_ 5
 have r_6 := HR2.out.at_ 6
 have r_7 := HR2.out.at_ 7
 have r_8 := HR2.out.at_ 8
 have r_9 := HR2.out.at_ 9
 have r_10 := HR2.out.at_ 10
 have r_11 := HR2.out.at_ 11
 have r_12 := HR2.out.at_ 12
 have r_13 := HR2.out.at_ 13
 have r_14 := HR2.out.at_ 14
 simp at r_0 r_1 r_2 r_3 r_4 r_5 r_6 r_7 r_8 r_9 r_10 r_11 r_12 r_13 r_14
 have l2 : g2 < W2.heap.size := HR2.out.here
 have f2 : ∀ i, W2.frozen? ⟨g2, i, none⟩ = false := HR2.out.free
 go_wp2_with fail
 obtain ⟨W3, eW3⟩ : ∃ V, V = (((((((((((((((W2).setCell ⟨g2, 0, none⟩ (.int .i64 kd)).setCell ⟨g2, 1, none⟩ (.int .i64 0)).setCell ⟨g2, 2, none⟩ (.int .i64 0)).setCell ⟨g2, 3, none⟩ (.int .i64 0)).setCell ⟨g2, 4, none⟩ (.int .i64 0)).setCell ⟨g2, 5, none⟩ (.int .i64 0)).setCell ⟨g2, 6, none⟩ (.int .i64 0)).setCell ⟨g2, 7, none⟩ (.int .i64 0)).setCell ⟨g2, 8, none⟩ (.int .i64 0)).setCell ⟨g2, 9, none⟩ (.int .i64 0)).setCell ⟨g2, 10, none⟩ (.int .i64 0)).setCell ⟨g2, 11, none⟩ (.int .i64 0)).setCell ⟨g2, 12, none⟩ (.int .i64 0)).setCell ⟨g2, 13, none⟩ (.int .i64 0)).setCell ⟨g2, 14, none⟩ (.slice none 0 0) := ⟨_, rfl⟩
 have k3 : But (fun b => b = g2) W2 W3 := by rw [eW3]; exact (But.rfl_ (fun b => b = g2) W2).put15 (.inl rfl) _ _ _ _ _ _ _ _ _ _ _ _ _ _ _
 have HR3 : Has W3 g2 49 #[.int .i64 kd, .int .i64 0, .int .i64 0, .int .i64 0, .int .i64 0, .int .i64 0, .int .i64 0, .int .i64 0, .int .i64 0, .int .i64 0, .int .i64 0, .int .i64 0, .int .i64 0, .int .i64 0, .slice none 0 0] := by rw [eW3]; exact HR2.out.put15 _ _ _ _ _ _ _ _ _ _ _ _ _ _ _
 have K3 : Made w.heap.size w W3 := But.made_ K2.out k3 K2.out.1.size (fun b hb => by have hb : b = g2 := hb; omega)
 try rw [← eW3]
 clear eW3 u0 u1 u2 u3 u4 u5 u6 u7 u8 u9 u10 u11 u12 u13 u14 l3 r_0 r_1 r_2 r_3 r_4 r_5 r_6 r_7 r_8 r_9 r_10 r_11 r_12 r_13 r_14 l2 f2
 have q0 := HR3.at_ 0
 have q1 := HR3.at_ 1
 have q2 := HR3.at_ 2
 have q3 := HR3.at_ 3
 have q4 := HR3.at_ 4
 have q5 := HR3.at_ 5
 have q6 := HR3.at_ 6
 have q7 := HR3.at_ 7
 have q8 := HR3.at_ 8
 have q9 := HR3.at_ 9
 have q10 := HR3.at_ 10
 have q11 := HR3.at_ 11
 have q12 := HR3.at_ 12
 have q13 := HR3.at_ 13
 have q14 := HR3.at_ 14
 simp at q0 q1 q2 q3 q4 q5 q6 q7 q8 q9 q10 q11 q12 q13 q14
 exact bodyPost_ret (v := .agg #[.int .i64 kd, .int .i64 0, .int .i64 0, .int .i64 0, .int .i64 0, .int .i64 0, .int .i64 0, .int .i64 0, .int .i64 0, .int .i64 0, .int .i64 0, .int .i64 0, .int .i64 0, .int .i64 0, .slice none 0 0]) (by simp [results, Tryz.results37, go_sem, q0, q1, q2, q3, q4, q5, q6, q7, q8, q9, q10, q11, q12, q13, q14]) rfl ⟨rfl, by first | exact K3 | exact K3.draws 1⟩
end Go.Proofs.YtgdcphmmehedoaaGreat.Fx