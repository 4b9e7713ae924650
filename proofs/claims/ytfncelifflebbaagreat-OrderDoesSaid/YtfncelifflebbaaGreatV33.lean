/- OrP MassA MassQ MassC MassB MassD MassE -/
import Derived.Test.YtfncelifflebbaaGreatV0
import Derived.Test.YtfncelifflebbaaGreatV1
import Derived.Test.YtfncelifflebbaaGreatV4
import Derived.Test.YtfncelifflebbaaGreatV5
import Derived.Test.YtfncelifflebbaaGreatV32
import Derived.Deep.LoopGhost
import Derived.LoopN
import Derived.WalkMore
import Derived.RangeFuncNested
import Derived.RangeFuncBound
import Derived.RangeFuncCalls
import Derived.RangeFuncLeaves
import Derived.Shelf.Abstract
import Derived.Shelf.RegionOpen
import Derived.WalkKit
import Derived.OwnWalkIn
import Derived.TacticsInMore
import Derived.LoopNIn
import Derived.LoopIn

/- order.execute by kinds (but Push). -/


namespace Go.Proofs.YtfncelifflebbaaGreat.Fx
open Go.ChangeShapes Go.WideShapes Go.ChangeAt Go.RowKit
set_option linter.unusedVariables false

set_option maxRecDepth 100000 in
set_option maxHeartbeats 16000000 in
theorem exec6 (id a b x y vx vy an sp de ln k r : Int) (ao : Option Addr) (n c : Nat) (w : World) (gw : Nat) (lgw : gw < w.heap.size) {c0 c1 c2 c3 c4 c5 c6 c7 : Value} (hH : Has w gw 49 #[c0, c1, c2, c3, c4, c5, c6, c7]) :
    Calls Tryz.prog 46 #[.pointer (some ⟨gw, 0, none⟩), .agg #[.int .i64 6, .int .i64 id, .int .i64 a, .int .i64 b, .int .i64 x, .int .i64 y, .int .i64 vx, .int .i64 vy, .int .i64 an, .int .i64 sp, .int .i64 de, .int .i64 ln, .int .i64 k, .int .i64 r, .slice ao n c]] w fun e v => e = .returned (.int .i64 0) ∧ But (fun b => b = gw) w v ∧ Has v gw 49 #[c0, c1, c2, .int .i64 vx, .int .i64 vy, c5, c6, c7] := by
  have HH := hid hH
  clear hH
  obtain ⟨W, eW⟩ : ∃ W, W = w.alloc (.cells #[.int .i64 6, .int .i64 id, .int .i64 a, .int .i64 b, .int .i64 x, .int .i64 y, .int .i64 vx, .int .i64 vy, .int .i64 an, .int .i64 sp, .int .i64 de, .int .i64 ln, .int .i64 k, .int .i64 r, .slice ao n c] 29) := ⟨_, rfl⟩
  have KW : Hid (Made w.heap.size w W) := by unfold Hid; rw [eW]; exact (Made.rfl_ _ _).cells (Nat.le_refl _) _ _
  have HB : Hid (Has W w.heap.size 29 #[.int .i64 6, .int .i64 id, .int .i64 a, .int .i64 b, .int .i64 x, .int .i64 y, .int .i64 vx, .int .i64 vy, .int .i64 an, .int .i64 sp, .int .i64 de, .int .i64 ln, .int .i64 k, .int .i64 r, .slice ao n c]) := by unfold Hid; rw [eW]; exact has_new _ _ _
  obtain ⟨g1, eg1⟩ : ∃ g, w.heap.size = g := ⟨_, rfl⟩
  have HG1 := hid eg1
  rw [eg1] at HB
  have b_0 := HB.out.at_ 0
  have b_1 := HB.out.at_ 1
  have b_2 := HB.out.at_ 2
  have b_3 := HB.out.at_ 3
  have b_4 := HB.out.at_ 4
  have b_5 := HB.out.at_ 5
  have b_6 := HB.out.at_ 6
  have b_7 := HB.out.at_ 7
  have b_8 := HB.out.at_ 8
  have b_9 := HB.out.at_ 9
  have b_10 := HB.out.at_ 10
  have b_11 := HB.out.at_ 11
  have b_12 := HB.out.at_ 12
  have b_13 := HB.out.at_ 13
  have b_14 := HB.out.at_ 14
  simp at b_0 b_1 b_2 b_3 b_4 b_5 b_6 b_7 b_8 b_9 b_10 b_11 b_12 b_13 b_14
  have l1 : g1 < W.heap.size := HB.out.here
  go_enter Tryz.func46, Tryz.ntmps46
  go_upto_region 1 with fail
  rw [← eW]
  clear eW
  try rw [eg1]
  clear eg1
  have HW1 := hid (HH.out.stays KW.out lgw)
  have y_0 := HW1.out.at_ 0
  have y_1 := HW1.out.at_ 1
  have y_2 := HW1.out.at_ 2
  have y_3 := HW1.out.at_ 3
  have y_4 := HW1.out.at_ 4
  have y_5 := HW1.out.at_ 5
  have y_6 := HW1.out.at_ 6
  have y_7 := HW1.out.at_ 7
  simp at y_0 y_1 y_2 y_3 y_4 y_5 y_6 y_7
  have lw : gw < W.heap.size := HW1.out.here
  have fw : ∀ i, W.frozen? ⟨gw, i, none⟩ = false := HW1.out.free
  obtain ⟨V, eV⟩ : ∃ V, V = (W.setCell ⟨gw, 3, none⟩ (.int .i64 vx)).setCell ⟨gw, 4, none⟩ (.int .i64 vy) := ⟨_, rfl⟩
  have kV : But (fun b => b = gw) W V := by rw [eV]; exact ((But.rfl_ (fun b => b = gw) W).put (p := ⟨gw, 3, none⟩) (.inl rfl) _).put (p := ⟨gw, 4, none⟩) (.inl rfl) _
  have hV : Has V gw 49 #[c0, c1, c2, .int .i64 vx, .int .i64 vy, c5, c6, c7] := by rw [eV]; exact (HW1.out.put 3 _).put 4 _
  have HV := hid hV
  have KV := hid kV
  have HEV := hid eV
  clear eV kV hV
  go_wp2_with fail
  rw [← HEV.out]
  go_ret
  exact ⟨by first | rfl | trivial, (Made.but KW.out).then_ KV.out, HV.out⟩
set_option maxRecDepth 100000 in
set_option maxHeartbeats 16000000 in
theorem exec2 (id a b x y vx vy an sp de ln k r : Int) (ao : Option Addr) (n c : Nat) (w : World) (gw : Nat) (lgw : gw < w.heap.size) (R : Bool → World → Prop) (HA : ∀ v, Made w.heap.size w v → Calls Tryz.prog 20 #[.pointer (some ⟨gw, 0, none⟩), .int .i64 id] v fun e u => ∃ gone, e = .returned (.bool gone) ∧ R gone u) :
    Calls Tryz.prog 46 #[.pointer (some ⟨gw, 0, none⟩), .agg #[.int .i64 2, .int .i64 id, .int .i64 a, .int .i64 b, .int .i64 x, .int .i64 y, .int .i64 vx, .int .i64 vy, .int .i64 an, .int .i64 sp, .int .i64 de, .int .i64 ln, .int .i64 k, .int .i64 r, .slice ao n c]] w fun e v => e = .returned (.int .i64 0) ∧ ∃ gone, R gone v := by
  have HA := hid HA
  obtain ⟨W, eW⟩ : ∃ W, W = w.alloc (.cells #[.int .i64 2, .int .i64 id, .int .i64 a, .int .i64 b, .int .i64 x, .int .i64 y, .int .i64 vx, .int .i64 vy, .int .i64 an, .int .i64 sp, .int .i64 de, .int .i64 ln, .int .i64 k, .int .i64 r, .slice ao n c] 29) := ⟨_, rfl⟩
  have KW : Hid (Made w.heap.size w W) := by unfold Hid; rw [eW]; exact (Made.rfl_ _ _).cells (Nat.le_refl _) _ _
  have HB : Hid (Has W w.heap.size 29 #[.int .i64 2, .int .i64 id, .int .i64 a, .int .i64 b, .int .i64 x, .int .i64 y, .int .i64 vx, .int .i64 vy, .int .i64 an, .int .i64 sp, .int .i64 de, .int .i64 ln, .int .i64 k, .int .i64 r, .slice ao n c]) := by unfold Hid; rw [eW]; exact has_new _ _ _
  obtain ⟨g1, eg1⟩ : ∃ g, w.heap.size = g := ⟨_, rfl⟩
  have HG1 := hid eg1
  rw [eg1] at HB
  have b_0 := HB.out.at_ 0
  have b_1 := HB.out.at_ 1
  have b_2 := HB.out.at_ 2
  have b_3 := HB.out.at_ 3
  have b_4 := HB.out.at_ 4
  have b_5 := HB.out.at_ 5
  have b_6 := HB.out.at_ 6
  have b_7 := HB.out.at_ 7
  have b_8 := HB.out.at_ 8
  have b_9 := HB.out.at_ 9
  have b_10 := HB.out.at_ 10
  have b_11 := HB.out.at_ 11
  have b_12 := HB.out.at_ 12
  have b_13 := HB.out.at_ 13
  have b_14 := HB.out.at_ 14
  simp at b_0 b_1 b_2 b_3 b_4 b_5 b_6 b_7 b_8 b_9 b_10 b_11 b_12 b_13 b_14
  have l1 : g1 < W.heap.size := HB.out.here
  go_enter Tryz.func46, Tryz.ntmps46
  go_upto_region 1 with fail
  rw [← eW]
  clear eW
  try rw [eg1]
  clear eg1
  have lw : gw < W.heap.size := Nat.lt_of_lt_of_le lgw KW.out.1.size
  go_wp2_with fail
  refine (HA.out _ KW.out).mono ?_
  rintro e w1 ⟨gone, rfl, hR⟩
  have HR := hid hR
  clear hR b_0 b_1 b_2 b_3 b_4 b_5 b_6 b_7 b_8 b_9 b_10 b_11 b_12 b_13 b_14 l1 lw
  go_wp2_with fail
  go_ret
  exact ⟨by first | rfl | trivial, gone, HR.out⟩
set_option maxRecDepth 100000 in
set_option maxHeartbeats 16000000 in
theorem exec4 (id a b x y vx vy an sp de ln k r : Int) (ao : Option Addr) (n c : Nat) (w : World) (gw : Nat) (lgw : gw < w.heap.size) (R : Bool → World → Prop) (HA : ∀ v, Made w.heap.size w v → Calls Tryz.prog 21 #[.pointer (some ⟨gw, 0, none⟩), .int .i64 id] v fun e u => ∃ gone, e = .returned (.bool gone) ∧ R gone u) :
    Calls Tryz.prog 46 #[.pointer (some ⟨gw, 0, none⟩), .agg #[.int .i64 4, .int .i64 id, .int .i64 a, .int .i64 b, .int .i64 x, .int .i64 y, .int .i64 vx, .int .i64 vy, .int .i64 an, .int .i64 sp, .int .i64 de, .int .i64 ln, .int .i64 k, .int .i64 r, .slice ao n c]] w fun e v => e = .returned (.int .i64 0) ∧ ∃ gone, R gone v := by
  have HA := hid HA
  obtain ⟨W, eW⟩ : ∃ W, W = w.alloc (.cells #[.int .i64 4, .int .i64 id, .int .i64 a, .int .i64 b, .int .i64 x, .int .i64 y, .int .i64 vx, .int .i64 vy, .int .i64 an, .int .i64 sp, .int .i64 de, .int .i64 ln, .int .i64 k, .int .i64 r, .slice ao n c] 29) := ⟨_, rfl⟩
  have KW : Hid (Made w.heap.size w W) := by unfold Hid; rw [eW]; exact (Made.rfl_ _ _).cells (Nat.le_refl _) _ _
  have HB : Hid (Has W w.heap.size 29 #[.int .i64 4, .int .i64 id, .int .i64 a, .int .i64 b, .int .i64 x, .int .i64 y, .int .i64 vx, .int .i64 vy, .int .i64 an, .int .i64 sp, .int .i64 de, .int .i64 ln, .int .i64 k, .int .i64 r, .slice ao n c]) := by unfold Hid; rw [eW]; exact has_new _ _ _
  obtain ⟨g1, eg1⟩ : ∃ g, w.heap.size = g := ⟨_, rfl⟩
  have HG1 := hid eg1
  rw [eg1] at HB
  have b_0 := HB.out.at_ 0
  have b_1 := HB.out.at_ 1
  have b_2 := HB.out.at_ 2
  have b_3 := HB.out.at_ 3
  have b_4 := HB.out.at_ 4
  have b_5 := HB.out.at_ 5
  have b_6 := HB.out.at_ 6
  have b_7 := HB.out.at_ 7
  have b_8 := HB.out.at_ 8
  have b_9 := HB.out.at_ 9
  have b_10 := HB.out.at_ 10
  have b_11 := HB.out.at_ 11
  have b_12 := HB.out.at_ 12
  have b_13 := HB.out.at_ 13
  have b_14 := HB.out.at_ 14
  simp at b_0 b_1 b_2 b_3 b_4 b_5 b_6 b_7 b_8 b_9 b_10 b_11 b_12 b_13 b_14
  have l1 : g1 < W.heap.size := HB.out.here
  go_enter Tryz.func46, Tryz.ntmps46
  go_upto_region 1 with fail
  rw [← eW]
  clear eW
  try rw [eg1]
  clear eg1
  have lw : gw < W.heap.size := Nat.lt_of_lt_of_le lgw KW.out.1.size
  go_wp2_with fail
  refine (HA.out _ KW.out).mono ?_
  rintro e w1 ⟨gone, rfl, hR⟩
  have HR := hid hR
  clear hR b_0 b_1 b_2 b_3 b_4 b_5 b_6 b_7 b_8 b_9 b_10 b_11 b_12 b_13 b_14 l1 lw
  go_wp2_with fail
  go_ret
  exact ⟨by first | rfl | trivial, gone, HR.out⟩
set_option maxRecDepth 100000 in
set_option maxHeartbeats 16000000 in
theorem exec1 (id a b x y vx vy an sp de ln k r : Int) (ao : Option Addr) (n c : Nat) (w : World) (gw : Nat) (lgw : gw < w.heap.size) (R : Int → Int → World → Prop) (HA : ∀ v, Made w.heap.size w v → Calls Tryz.prog 16 #[.pointer (some ⟨gw, 0, none⟩), bodyV 0 x y vx vy an sp de k r (.slice ao n c)] v fun e u => ∃ nn er, e = .returned (.tuple #[.int .i64 nn, .int .i64 er]) ∧ R nn er u) :
    Calls Tryz.prog 46 #[.pointer (some ⟨gw, 0, none⟩), .agg #[.int .i64 1, .int .i64 id, .int .i64 a, .int .i64 b, .int .i64 x, .int .i64 y, .int .i64 vx, .int .i64 vy, .int .i64 an, .int .i64 sp, .int .i64 de, .int .i64 ln, .int .i64 k, .int .i64 r, .slice ao n c]] w fun e v => ∃ nn er, e = .returned (.int .i64 er) ∧ R nn er v := by
  have HA := hid HA
  have HC := hid (fun v => obody_c 1 id a b x y vx vy an sp de ln k r ao n c v)
  obtain ⟨W, eW⟩ : ∃ W, W = w.alloc (.cells #[.int .i64 1, .int .i64 id, .int .i64 a, .int .i64 b, .int .i64 x, .int .i64 y, .int .i64 vx, .int .i64 vy, .int .i64 an, .int .i64 sp, .int .i64 de, .int .i64 ln, .int .i64 k, .int .i64 r, .slice ao n c] 29) := ⟨_, rfl⟩
  have KW : Hid (Made w.heap.size w W) := by unfold Hid; rw [eW]; exact (Made.rfl_ _ _).cells (Nat.le_refl _) _ _
  have HB : Hid (Has W w.heap.size 29 #[.int .i64 1, .int .i64 id, .int .i64 a, .int .i64 b, .int .i64 x, .int .i64 y, .int .i64 vx, .int .i64 vy, .int .i64 an, .int .i64 sp, .int .i64 de, .int .i64 ln, .int .i64 k, .int .i64 r, .slice ao n c]) := by unfold Hid; rw [eW]; exact has_new _ _ _
  obtain ⟨g1, eg1⟩ : ∃ g, w.heap.size = g := ⟨_, rfl⟩
  have HG1 := hid eg1
  rw [eg1] at HB
  have b_0 := HB.out.at_ 0
  have b_1 := HB.out.at_ 1
  have b_2 := HB.out.at_ 2
  have b_3 := HB.out.at_ 3
  have b_4 := HB.out.at_ 4
  have b_5 := HB.out.at_ 5
  have b_6 := HB.out.at_ 6
  have b_7 := HB.out.at_ 7
  have b_8 := HB.out.at_ 8
  have b_9 := HB.out.at_ 9
  have b_10 := HB.out.at_ 10
  have b_11 := HB.out.at_ 11
  have b_12 := HB.out.at_ 12
  have b_13 := HB.out.at_ 13
  have b_14 := HB.out.at_ 14
  simp at b_0 b_1 b_2 b_3 b_4 b_5 b_6 b_7 b_8 b_9 b_10 b_11 b_12 b_13 b_14
  have l1 : g1 < W.heap.size := HB.out.here
  go_enter Tryz.func46, Tryz.ntmps46
  go_upto_region 1 with fail
  rw [← eW]
  clear eW
  try rw [eg1]
  clear eg1
  have lw : gw < W.heap.size := Nat.lt_of_lt_of_le lgw KW.out.1.size
  go_wp2_with fail
  refine (HC.out _).mono ?_
  rintro e w1 ⟨rfl, k1⟩
  have K1 := hid (KW.out.then_ (k1.low KW.out.1.size))
  clear k1 b_0 b_1 b_2 b_3 b_4 b_5 b_6 b_7 b_8 b_9 b_10 b_11 b_12 b_13 b_14 l1 lw
  go_wp2_with fail
  refine (HA.out _ (by first | exact K1.out | exact HG1.out ▸ K1.out)).mono ?_
  rintro e w2 ⟨nn, er, rfl, hR⟩
  have HR := hid hR
  clear hR
  go_wp2_with fail
  go_ret
  exact ⟨nn, er, by first | rfl | trivial, HR.out⟩
set_option maxRecDepth 100000 in
set_option maxHeartbeats 16000000 in
theorem exec3 (id a b x y vx vy an sp de ln k r : Int) (ao : Option Addr) (n c : Nat) (w : World) (gw : Nat) (lgw : gw < w.heap.size) (R : Int → Int → World → Prop) (HA : ∀ v, Made w.heap.size w v → Calls Tryz.prog 18 #[.pointer (some ⟨gw, 0, none⟩), .agg #[.int .i64 0, .int .i64 a, .int .i64 b, .int .i64 x, .int .i64 y, .int .i64 vx, .int .i64 vy, .int .i64 ln]] v fun e u => ∃ nn er, e = .returned (.tuple #[.int .i64 nn, .int .i64 er]) ∧ R nn er u) :
    Calls Tryz.prog 46 #[.pointer (some ⟨gw, 0, none⟩), .agg #[.int .i64 3, .int .i64 id, .int .i64 a, .int .i64 b, .int .i64 x, .int .i64 y, .int .i64 vx, .int .i64 vy, .int .i64 an, .int .i64 sp, .int .i64 de, .int .i64 ln, .int .i64 k, .int .i64 r, .slice ao n c]] w fun e v => ∃ nn er, e = .returned (.int .i64 er) ∧ R nn er v := by
  have HA := hid HA
  have HC := hid (fun v => ojoint_c 3 id a b x y vx vy an sp de ln k r ao n c v)
  obtain ⟨W, eW⟩ : ∃ W, W = w.alloc (.cells #[.int .i64 3, .int .i64 id, .int .i64 a, .int .i64 b, .int .i64 x, .int .i64 y, .int .i64 vx, .int .i64 vy, .int .i64 an, .int .i64 sp, .int .i64 de, .int .i64 ln, .int .i64 k, .int .i64 r, .slice ao n c] 29) := ⟨_, rfl⟩
  have KW : Hid (Made w.heap.size w W) := by unfold Hid; rw [eW]; exact (Made.rfl_ _ _).cells (Nat.le_refl _) _ _
  have HB : Hid (Has W w.heap.size 29 #[.int .i64 3, .int .i64 id, .int .i64 a, .int .i64 b, .int .i64 x, .int .i64 y, .int .i64 vx, .int .i64 vy, .int .i64 an, .int .i64 sp, .int .i64 de, .int .i64 ln, .int .i64 k, .int .i64 r, .slice ao n c]) := by unfold Hid; rw [eW]; exact has_new _ _ _
  obtain ⟨g1, eg1⟩ : ∃ g, w.heap.size = g := ⟨_, rfl⟩
  have HG1 := hid eg1
  rw [eg1] at HB
  have b_0 := HB.out.at_ 0
  have b_1 := HB.out.at_ 1
  have b_2 := HB.out.at_ 2
  have b_3 := HB.out.at_ 3
  have b_4 := HB.out.at_ 4
  have b_5 := HB.out.at_ 5
  have b_6 := HB.out.at_ 6
  have b_7 := HB.out.at_ 7
  have b_8 := HB.out.at_ 8
  have b_9 := HB.out.at_ 9
  have b_10 := HB.out.at_ 10
  have b_11 := HB.out.at_ 11
  have b_12 := HB.out.at_ 12
  have b_13 := HB.out.at_ 13
  have b_14 := HB.out.at_ 14
  simp at b_0 b_1 b_2 b_3 b_4 b_5 b_6 b_7 b_8 b_9 b_10 b_11 b_12 b_13 b_14
  have l1 : g1 < W.heap.size := HB.out.here
  go_enter Tryz.func46, Tryz.ntmps46
  go_upto_region 1 with fail
  rw [← eW]
  clear eW
  try rw [eg1]
  clear eg1
  have lw : gw < W.heap.size := Nat.lt_of_lt_of_le lgw KW.out.1.size
  go_wp2_with fail
  refine (HC.out _).mono ?_
  rintro e w1 ⟨rfl, k1⟩
  have K1 := hid (KW.out.then_ (k1.low KW.out.1.size))
  clear k1 b_0 b_1 b_2 b_3 b_4 b_5 b_6 b_7 b_8 b_9 b_10 b_11 b_12 b_13 b_14 l1 lw
  go_wp2_with fail
  refine (HA.out _ (by first | exact K1.out | exact HG1.out ▸ K1.out)).mono ?_
  rintro e w2 ⟨nn, er, rfl, hR⟩
  have HR := hid hR
  clear hR
  go_wp2_with fail
  go_ret
  exact ⟨nn, er, by first | rfl | trivial, HR.out⟩
end Go.Proofs.YtfncelifflebbaaGreat.Fx


/- The statements' own area, of a polygon and of a circle. -/







namespace Go.Proofs.YtfncelifflebbaaGreat.Fx
open Go.ChangeShapes Go.WideShapes Go.ChangeAt Go.RowKit
set_option linter.unusedVariables false

theorem mul_is (a b r : Int) (w : World) (ha : I64 a) (hb : I64 b) (e : mulF a b = r) : Calls Tryz.prog 28 #[.int .i64 a, .int .i64 b] w fun e w' => e = .returned (.int .i64 r) ∧ w = w' := by subst e; exact mul_c a b w ha hb
theorem sumT_i64 (T : Int × Int → Int × Int → Int) (f : Cs) (n m : Nat) : I64 (sumT T f n m) := i64_rg (sum_rg T f n m)

end Go.Proofs.YtfncelifflebbaaGreat.Fx


/- Plain words for masses: circles, rectangles, densities. No Go in sight. -/

namespace Go.Proofs.YtfncelifflebbaaGreat.Fx
set_option linter.unusedVariables false

def areaC (R : Int) : Int := mulF 13493037705 (mulF R R)
def roundC (R : Int) : Int := divF (mulF (areaC R) (mulF R R)) 8589934592
def massF (d A : Int) : Int := max (mulF d A) 1
end Go.Proofs.YtfncelifflebbaaGreat.Fx


/- What package mass is to answer, as one premise; the statements' own square. -/




namespace Go.Proofs.YtfncelifflebbaaGreat.Fx
open Go.ChangeShapes Go.WideShapes Go.ChangeAt Go.RowKit
set_option linter.unusedVariables false

abbrev massV (m i v s : Int) : Value := .agg #[.int .i64 m, .int .i64 i, .int .i64 v, .int .i64 s]
def massOf (d a r : Int) : Value := if d ≤ 0 then massV 0 0 0 0 else massV (max (mulF d a) 1) (max (mulF d r) 1) (divF 4294967296 (max (mulF d a) 1)) (divF 4294967296 (max (mulF d r) 1))

structure MassSays : Prop where
  area : ∀ (b off n cap : Nat) (f : Cs) (w : World), 0 < n → n ≤ 8 → Pts w b off n f → Cin f n →
    Calls Tryz.prog 59 #[shapeV 2 0 (.slice (some ⟨b, off, none⟩) n cap)] w fun e w' => e = .returned (.int .i64 (sumT areaT f n n)) ∧ Below w.heap.size w w'
  disc : ∀ (R : Int) (w : World), I64 R →
    Calls Tryz.prog 59 #[shapeV 1 R (.slice none 0 0)] w fun e w' => e = .returned (.int .i64 (areaC R)) ∧ Below w.heap.size w w'
  round : ∀ (b off n cap : Nat) (f : Cs) (w : World), 0 < n → n ≤ 8 → Pts w b off n f → Cin f n →
    Calls Tryz.prog 60 #[shapeV 2 0 (.slice (some ⟨b, off, none⟩) n cap)] w fun e w' => e = .returned (.int .i64 (sumT roundT f n n)) ∧ Below w.heap.size w w'
  discRound : ∀ (R : Int) (w : World), I64 R →
    Calls Tryz.prog 60 #[shapeV 1 R (.slice none 0 0)] w fun e w' => e = .returned (.int .i64 (roundC R)) ∧ Below w.heap.size w w'
  of : ∀ (d : Int) (b off n cap : Nat) (f : Cs) (w : World), I64 d → 0 < n → n ≤ 8 → Pts w b off n f → Cin f n →
    Calls Tryz.prog 22 #[bodyV 0 0 0 0 0 0 0 d 2 0 (.slice (some ⟨b, off, none⟩) n cap)] w fun e w' => e = .returned (massOf d (sumT areaT f n n) (sumT roundT f n n)) ∧ Below w.heap.size w w'
  ofDisc : ∀ (d R : Int) (w : World), I64 d → I64 R →
    Calls Tryz.prog 22 #[bodyV 0 0 0 0 0 0 0 d 1 R (.slice none 0 0)] w fun e w' => e = .returned (massOf d (areaC R) (roundC R)) ∧ Below w.heap.size w w'

end Go.Proofs.YtfncelifflebbaaGreat.Fx


/- The iterator of package mass: each corner and the next one. -/














namespace Go.Proofs.YtfncelifflebbaaGreat.Fx
open Go.ChangeShapes Go.WideShapes Go.ChangeAt Go.RowKit
set_option linter.unusedVariables false
attribute [local go_sem] Oper.semAt_some

def KeepB (n₀ B : Nat) (W W' : World) : Prop := Below n₀ W W' ∧ W'.heap[B]? = W.heap[B]?
theorem KeepB.t {n₀ B : Nat} {X Y Z : World} (h : KeepB n₀ B X Y) (k : KeepB n₀ B Y Z) : KeepB n₀ B X Z := ⟨h.1.trans k.1, k.2.trans h.2⟩
theorem KeepB.cell {n₀ B : Nat} {X Y : World} (h : KeepB n₀ B X Y) (i : Nat) : Y.cell? ⟨B, i, none⟩ = X.cell? ⟨B, i, none⟩ := World.cell?_of_block h.2
theorem KeepB.rfl_ (n₀ B : Nat) (W : World) : KeepB n₀ B W W := ⟨Below.refl _ _, rfl⟩

set_option maxRecDepth 100000 in
set_option maxHeartbeats 2000000 in
theorem sides1_in (F : Fence) (n : Nat) (hf : F.fn 127) (hro : F.round = none) (hn : 1 ≤ n) (l Bs n₀ b off len cap : Nat) (f : Cs) (h0 : 0 < len) (h8 : len ≤ 8) (hb : b < n₀) (J Jx : List Nat → World → Prop)
    (W : World) (hn₀ : n₀ ≤ W.heap.size) (hBs' : Bs < W.heap.size) (hJ : AbidesFrom W.heap.size J)
    (hY : ∀ pre x W1, J pre W1 → pre.length < len → YieldAt F (n - 1) Tryz.prog l #[vecV (f (x % len)).1 (f (x % len)).2, vecV (f ((x + 1) % len)).1 (f ((x + 1) % len)).2] W1 fun e W' =>
      (e = .returned (.bool true) ∧ J (pre ++ [x]) W' ∧ KeepB n₀ Bs W1 W') ∨ (e = .returned (.bool false) ∧ Jx (pre ++ [x]) W'))
    (hBs : W.cell? ⟨Bs, 0, none⟩ = some (.slice (some ⟨b, off, none⟩) len cap)) (hP : Pts W b off len f) (hj : J [] W) :
    CallsIn F n Tryz.prog 127 #[.func (.yield l) #[] #[], .pointer (some ⟨Bs, 0, none⟩)] W fun e W' => (∃ v, e = .returned v) ∧
      ((∃ ys, ys = List.range len ∧ J ys W') ∨ (∃ pre, (∃ k, k ≤ len ∧ pre = List.range k) ∧ Jx pre W')) := by
  have HP := hid hP
  clear hP
  have HB := hid hBs
  refine callsIn_of_wp Tryz.func127 rfl hf ?_ hro
  simp only [Tryz.ntmps127, List.size_toArray, List.length_cons, List.length_nil, Nat.reduceAdd, Nat.reduceSub, Array.replicate_succ, Array.replicate_zero, List.push_toArray, List.append_toArray, List.nil_append, List.cons_append]
  gi_wp2
  clear hBs
  gi_loopw [7] (fun i wr => ∃ k : Nat, k ≤ len ∧ i = .int .i64 k ∧ Hid (J (List.range k) wr ∧ KeepB n₀ Bs W wr))
    (fun i _ => len - (intOf i).toNat)
  case atStart => exact ⟨0, Nat.zero_le _, rfl, hj, KeepB.rfl_ _ _ _⟩
  case round =>
    obtain ⟨k, hk, rfl, HT⟩ := hrel
    by_cases hlt : k < len
    · obtain ⟨j, ej⟩ : ∃ j, (k + 1) % len = j := ⟨_, rfl⟩
      have hjl : j < len := by rw [← ej]; exact Nat.mod_lt _ h0
      have hm : ((k : Int) + 1).tmod (len : Int) = (j : Int) := by
        rw [Int.tmod_eq_emod_of_nonneg (by omega), ← ej, Int.natCast_emod, Int.natCast_add]
        rfl
      have c0 : wr.cell? ⟨b, off + k * 2, none⟩ = some (.int .i64 (f k).1) := (HT.out.2.1.cell (p := ⟨b, _, none⟩) hb).trans (HP.out k hlt).1
      have c1 : wr.cell? ⟨b, off + k * 2 + 1, none⟩ = some (.int .i64 (f k).2) := (HT.out.2.1.cell (p := ⟨b, _, none⟩) hb).trans (HP.out k hlt).2
      have d0 : wr.cell? ⟨b, off + j * 2, none⟩ = some (.int .i64 (f j).1) := (HT.out.2.1.cell (p := ⟨b, _, none⟩) hb).trans (HP.out j hjl).1
      have d1 : wr.cell? ⟨b, off + j * 2 + 1, none⟩ = some (.int .i64 (f j).2) := (HT.out.2.1.cell (p := ⟨b, _, none⟩) hb).trans (HP.out j hjl).2
      have zB : wr.cell? ⟨Bs, 0, none⟩ = some (.slice (some ⟨b, off, none⟩) len cap) := (HT.out.2.cell 0).trans HB.out
      have hsz : W.heap.size ≤ wr.heap.size := HT.out.2.1.size
      gi_wp2
      obtain ⟨W1, eW⟩ : ∃ W1, W1 = wr.alloc (.cells #[.int .i64 (f k).1, .int .i64 (f k).2] 24) := ⟨_, rfl⟩
      have g1 : wr.grownBy W1 none := by rw [eW]; exact World.grownBy_alloc _ _ _
      have hk1 : KeepB n₀ Bs W W1 := HT.out.2.t ⟨by rw [eW]; exact (Below.refl _ _).alloc (by omega) _, by rw [eW]; exact Below.heap_alloc _ _ _ (by omega)⟩
      have c0' : W1.cell? ⟨wr.heap.size, 0, none⟩ = some (.int .i64 (f k).1) := by rw [eW]; go_simp
      have c1' : W1.cell? ⟨wr.heap.size, 1, none⟩ = some (.int .i64 (f k).2) := by rw [eW]; go_simp
      have zB' : W1.cell? ⟨Bs, 0, none⟩ = some (.slice (some ⟨b, off, none⟩) len cap) := by rw [eW]; exact cell_more zB
      have d0' : W1.cell? ⟨b, off + j * 2, none⟩ = some (.int .i64 (f j).1) := by rw [eW]; exact cell_more d0
      have d1' : W1.cell? ⟨b, off + j * 2 + 1, none⟩ = some (.int .i64 (f j).2) := by rw [eW]; exact cell_more d1
      have HK := hid hk1
      have HG := hid g1
      have HJ := hid (hJ _ _ _ _ HT.out.1 g1 (by simp))
      rw [← eW]
      clear eW hk1 g1 c0 c1 d0 d1 zB
      refine regIn_drawn_tail 10 (by kernel_rfl) (by kernel_rfl) (by kernel_rfl) ?_
      simp only [List.take_succ_cons, List.take_zero, List.drop_succ_cons, List.drop_zero]
      repeat (gi_big_quiet_step (fail))
      refine wpQuietIn_nil ?_
      rintro W2 ⟨q, rfl⟩
      have HJ2 := hJ _ _ (W1.drewN q) none HJ.out ⟨rfl, rfl, rfl, Nat.le_refl _, fun _ _ _ => rfl⟩ (by simp)
      obtain ⟨fn, tmps, assign, body, hy, hR⟩ := hY (List.range k) k (W1.drewN q) HJ2 (by rw [List.length_range]; exact hlt)
      rw [Nat.mod_eq_of_lt hlt, ej] at hy
      have HR := hid hR
      clear hR HJ2
      gi_wp2
      refine HR.out.mono ?_
      rintro e W3 (⟨rfl, hJ3, hk3⟩ | ⟨rfl, hJx3⟩)
      · have HJ3 := hid hJ3
        have HK3 := hid hk3
        clear hJ3 hk3
        gi_wp2
        go_roundw
        case rel => exact ⟨k + 1, by omega, by simp, by rw [List.range_succ]; exact HJ3.out, HK.out.t (KeepB.t (Y := W1.drewN q) ⟨⟨rfl, rfl, rfl, Nat.le_refl _, fun _ _ => rfl⟩, rfl⟩ HK3.out)⟩
        case measure => simp [intOf]; omega
      · gi_wp2
        refine bodyPost_ret (results_none rfl _ _ _) rfl ?_
        exact ⟨⟨_, rfl⟩, .inr ⟨_, ⟨k + 1, by omega, List.range_succ.symm⟩, hJx3⟩⟩
    · obtain rfl : k = len := by omega
      gi_wp2
      go_end0
      exact ⟨⟨_, rfl⟩, .inl ⟨_, rfl, HT.out.1⟩⟩


abbrev cornersAt (f : Cs) (n x : Nat) : Array Value := #[vecV (f (x % n)).1 (f (x % n)).2, vecV (f ((x + 1) % n)).1 (f ((x + 1) % n)).2]

theorem sides1_stops (F : Fence) (n : Nat) (hf : F.fn 127) (hro : F.round = none) (hn : 1 ≤ n) (Bs n₀ b off len cap : Nat) (f : Cs) (h0 : 0 < len) (h8 : len ≤ 8) (w : World) (hBs' : Bs < w.heap.size) (hn₀ : n₀ ≤ w.heap.size) (hb : b < n₀)
    (hBs : w.cell? ⟨Bs, 0, none⟩ = some (.slice (some ⟨b, off, none⟩) len cap)) (hP : Pts w b off len f) :
    SeqStopsK F n Tryz.prog 127 #[.pointer (some ⟨Bs, 0, none⟩)] (cornersAt f len) (KeepB n₀ Bs) (fun ys => ys = List.range len) (fun pre => ∃ k, k ≤ len ∧ pre = List.range k) len w := fun l J Jx W hW hJ _ hY hj =>
  sides1_in F n hf hro hn l Bs n₀ b off len cap f h0 h8 hb J Jx W (by have := hW.size; omega) (by have := hW.size; omega) hJ hY ((hW.cell (p := ⟨Bs, 0, none⟩) hBs').trans hBs)
    (fun i hi => ⟨(hW.cell (p := ⟨b, _, none⟩) (by simp only []; omega)).trans (hP i hi).1, (hW.cell (p := ⟨b, _, none⟩) (by simp only []; omega)).trans (hP i hi).2⟩) hj

set_option maxRecDepth 100000 in
theorem sides_in (F : Fence) (n : Nat) (hf : F.fn 94) (hro : F.round = none) (a : Option Addr) (len cap : Nat) (w : World) :
    CallsIn F n Tryz.prog 94 #[.slice a len cap] w fun e w' => e = .returned (.func (.func 127) #[] #[.pointer (some ⟨w.heap.size, 0, none⟩)]) ∧ w' = w.alloc (.cells #[.slice a len cap] 25) := by
  refine callsIn_of_wp Tryz.func94 rfl hf ?_ hro
  simp only [Tryz.ntmps94, List.size_toArray, List.length_cons, List.length_nil, Nat.reduceAdd, Nat.reduceSub, Array.replicate_succ, Array.replicate_zero, List.push_toArray, List.append_toArray, List.nil_append, List.cons_append]
  gi_wp2
  go_ret
  exact ⟨rfl, rfl⟩

theorem KeepB.b {n₀ B : Nat} {w : World} (hn : n₀ ≤ w.heap.size) (hB : B < w.heap.size) (W : World) (l : Nat) (o o' : Obj) (hl : w.heap.size ≤ l) (h : W.heap[l]? = some o) (h1 : o.isCells = false) (h2 : o.isWalk = false) : KeepB n₀ B W (W.putObj l o') :=
  ⟨belowK_b hn W l o o' hl h h1 h2, by have := belowK_b (n₀ := w.heap.size) (Nat.le_refl _) W l o o' hl h h1 h2; exact this.block B hB⟩
theorem keepsFrom_of_below {B : Nat} {W W' : World} (h : Below W.heap.size W W') : KeepsFrom B W W' :=
  ⟨h.size, fun k o _ hk _ => (h.block k (Array.getElem?_eq_some_iff.1 hk).1).trans hk⟩
end Go.Proofs.YtfncelifflebbaaGreat.Fx

