/- OrF OrG OrE OrH OrN -/
import Derived.Test.YtgdcphmmehedoaaGreatCb14
import Derived.Test.YtgdcphmmehedoaaGreatCb16
import Derived.BigQuiet
import Derived.Deep.LoopGhost
import Derived.LoopN
import Derived.WalkMore
set_option maxRecDepth 100000
set_option maxHeartbeats 64000000
/- order.body, order.joint, order.fits. -/
namespace Go.Proofs.YtgdcphmmehedoaaGreat.Fx
open Go.ChangeShapes Go.WideShapes Go.ChangeAt Go.RowKit
set_option linter.unusedVariables false
theorem obody_c (kd id a b x y vx vy an sp de ln k r : Int) (ao : Option Addr) (n c : Nat) (w : World) :
  Calls Tryz.prog 78 #[.agg #[.int .i64 kd, .int .i64 id, .int .i64 a, .int .i64 b, .int .i64 x, .int .i64 y, .int .i64 vx, .int .i64 vy, .int .i64 an, .int .i64 sp, .int .i64 de, .int .i64 ln, .int .i64 k, .int .i64 r, .slice ao n c]] w fun e v => e = .returned (bodyV 0 x y vx vy an sp de k r (.slice ao n c)) ∧ Made w.heap.size w v := by
 obtain ⟨W, eW⟩ : ∃ W, W = (w.alloc (.cells #[.int .i64 kd, .int .i64 id, .int .i64 a, .int .i64 b, .int .i64 x, .int .i64 y, .int .i64 vx, .int .i64 vy, .int .i64 an, .int .i64 sp, .int .i64 de, .int .i64 ln, .int .i64 k, .int .i64 r, .slice ao n c] 49)).alloc (.cells #[.int .i64 0, .int .i64 0, .int .i64 0, .int .i64 0, .int .i64 0, .int .i64 0, .int .i64 0, .int .i64 0, .int .i64 0, .int .i64 0, .slice none 0 0] 35) := ⟨_, rfl⟩
 have KW : Hid (Made w.heap.size w W) := by unfold Hid; rw [eW]; exact ((Made.rfl_ _ _).cells (Nat.le_refl _) _ _).cells (by simp) _ _
 have HB : Hid (Has W w.heap.size 49 #[.int .i64 kd, .int .i64 id, .int .i64 a, .int .i64 b, .int .i64 x, .int .i64 y, .int .i64 vx, .int .i64 vy, .int .i64 an, .int .i64 sp, .int .i64 de, .int .i64 ln, .int .i64 k, .int .i64 r, .slice ao n c]) := by unfold Hid; rw [eW]; exact (has_new _ _ _).more _
 have HR : Hid (Has W (w.heap.size + 1) 35 #[.int .i64 0, .int .i64 0, .int .i64 0, .int .i64 0, .int .i64 0, .int .i64 0, .int .i64 0, .int .i64 0, .int .i64 0, .int .i64 0, .slice none 0 0]) := by unfold Hid; rw [eW]; exact has_nxt' _ _ _ _
 obtain ⟨g1, eg1⟩ : ∃ g, w.heap.size = g := ⟨_, rfl⟩
 obtain ⟨g2, eg2⟩ : ∃ g, g1 + 1 = g := ⟨_, rfl⟩
 have hw2 : w.heap.size ≤ g2 := by omega
 rw [eg1] at HB
 rw [eg1, eg2] at HR
 have b0 := HB.out.at_ 0
 have b1 := HB.out.at_ 1
 have b2 := HB.out.at_ 2
 have b3 := HB.out.at_ 3
 have b4 := HB.out.at_ 4
 have b5 := HB.out.at_ 5
 have b6 := HB.out.at_ 6
 have b7 := HB.out.at_ 7
 have b8 := HB.out.at_ 8
 have b9 := HB.out.at_ 9
 have b10 := HB.out.at_ 10
 have b11 := HB.out.at_ 11
 have b12 := HB.out.at_ 12
 have b13 := HB.out.at_ 13
 have b14 := HB.out.at_ 14
 simp at b0 b1 b2 b3 b4 b5 b6 b7 b8 b9 b10 b11 b12 b13 b14
 have l1 : g1 < W.heap.size := HB.out.here
 have r_0 := HR.out.at_ 0
 have r_1 := HR.out.at_ 1
 have r_2 := HR.out.at_ 2
 have r_3 := HR.out.at_ 3
 have r_4 := HR.out.at_ 4
 have r_5 := HR.out.at_ 5
 have r_6 := HR.out.at_ 6
 have r_7 := HR.out.at_ 7
 have r_8 := HR.out.at_ 8
 have r_9 := HR.out.at_ 9
 have r_10 := HR.out.at_ 10
 simp at r_0 r_1 r_2 r_3 r_4 r_5 r_6 r_7 r_8 r_9 r_10
 have l2 : g2 < W.heap.size := HR.out.here
 have f2 : ∀ i, W.frozen? ⟨g2, i, none⟩ = false := HR.out.free
 go_enter Tryz.func78, Tryz.ntmps78
 go_upto_region 1 with fail
 rw [← eW]
 clear eW
 try rw [eg1]
 try rw [eg2]
 go_wp2_with fail
 obtain ⟨V, eV⟩ : ∃ V, V = (((((((((((W).setCell ⟨g2, 0, none⟩ (.int .i64 0)).setCell ⟨g2, 1, none⟩ (.int .i64 x)).setCell ⟨g2, 2, none⟩ (.int .i64 y)).setCell ⟨g2, 3, none⟩ (.int .i64 vx)).setCell ⟨g2, 4, none⟩ (.int .i64 vy)).setCell ⟨g2, 5, none⟩ (.int .i64 an)).setCell ⟨g2, 6, none⟩ (.int .i64 sp)).setCell ⟨g2, 7, none⟩ (.int .i64 de)).setCell ⟨g2, 8, none⟩ (.int .i64 k)).setCell ⟨g2, 9, none⟩ (.int .i64 r)).setCell ⟨g2, 10, none⟩ (.slice ao n c) := ⟨_, rfl⟩
 have kV : But (fun b => b = g2) W V := by rw [eV]; exact ((((((((((((But.rfl_ (fun b => b = g2) W).put (p := ⟨g2, 0, none⟩) (.inl rfl) _).put (p := ⟨g2, 1, none⟩) (.inl rfl) _).put (p := ⟨g2, 2, none⟩) (.inl rfl) _).put (p := ⟨g2, 3, none⟩) (.inl rfl) _).put (p := ⟨g2, 4, none⟩) (.inl rfl) _).put (p := ⟨g2, 5, none⟩) (.inl rfl) _).put (p := ⟨g2, 6, none⟩) (.inl rfl) _).put (p := ⟨g2, 7, none⟩) (.inl rfl) _).put (p := ⟨g2, 8, none⟩) (.inl rfl) _).put (p := ⟨g2, 9, none⟩) (.inl rfl) _).put (p := ⟨g2, 10, none⟩) (.inl rfl) _)
 have hV : Has V g2 35 #[.int .i64 0, .int .i64 x, .int .i64 y, .int .i64 vx, .int .i64 vy, .int .i64 an, .int .i64 sp, .int .i64 de, .int .i64 k, .int .i64 r, .slice ao n c] := by rw [eV]; exact HR.out.put11 _ _ _ _ _ _ _ _ _ _ _
 have KV : Made w.heap.size w V := But.made_ KW.out kV KW.out.1.size (fun b hb => by have hb : b = g2 := hb; omega)
 try rw [← eV]
 clear eV b0 b1 b2 b3 b4 b5 b6 b7 b8 b9 b10 b11 b12 b13 b14 l1 r_0 r_1 r_2 r_3 r_4 r_5 r_6 r_7 r_8 r_9 r_10 l2 f2
 have q0 := hV.at_ 0
 have q1 := hV.at_ 1
 have q2 := hV.at_ 2
 have q3 := hV.at_ 3
 have q4 := hV.at_ 4
 have q5 := hV.at_ 5
 have q6 := hV.at_ 6
 have q7 := hV.at_ 7
 have q8 := hV.at_ 8
 have q9 := hV.at_ 9
 have q10 := hV.at_ 10
 simp at q0 q1 q2 q3 q4 q5 q6 q7 q8 q9 q10
 exact bodyPost_ret (v := bodyV 0 x y vx vy an sp de k r (.slice ao n c)) (by simp [results, Tryz.results78, go_sem, q0, q1, q2, q3, q4, q5, q6, q7, q8, q9, q10]) rfl ⟨rfl, KV⟩
theorem ojoint_c (kd id a b x y vx vy an sp de ln k r : Int) (ao : Option Addr) (n c : Nat) (w : World) :
  Calls Tryz.prog 80 #[.agg #[.int .i64 kd, .int .i64 id, .int .i64 a, .int .i64 b, .int .i64 x, .int .i64 y, .int .i64 vx, .int .i64 vy, .int .i64 an, .int .i64 sp, .int .i64 de, .int .i64 ln, .int .i64 k, .int .i64 r, .slice ao n c]] w fun e v => e = .returned (.agg #[.int .i64 0, .int .i64 a, .int .i64 b, .int .i64 x, .int .i64 y, .int .i64 vx, .int .i64 vy, .int .i64 ln]) ∧ Made w.heap.size w v := by
 obtain ⟨W, eW⟩ : ∃ W, W = (w.alloc (.cells #[.int .i64 kd, .int .i64 id, .int .i64 a, .int .i64 b, .int .i64 x, .int .i64 y, .int .i64 vx, .int .i64 vy, .int .i64 an, .int .i64 sp, .int .i64 de, .int .i64 ln, .int .i64 k, .int .i64 r, .slice ao n c] 49)).alloc (.cells #[.int .i64 0, .int .i64 0, .int .i64 0, .int .i64 0, .int .i64 0, .int .i64 0, .int .i64 0, .int .i64 0] 102) := ⟨_, rfl⟩
 have KW : Hid (Made w.heap.size w W) := by unfold Hid; rw [eW]; exact ((Made.rfl_ _ _).cells (Nat.le_refl _) _ _).cells (by simp) _ _
 have HB : Hid (Has W w.heap.size 49 #[.int .i64 kd, .int .i64 id, .int .i64 a, .int .i64 b, .int .i64 x, .int .i64 y, .int .i64 vx, .int .i64 vy, .int .i64 an, .int .i64 sp, .int .i64 de, .int .i64 ln, .int .i64 k, .int .i64 r, .slice ao n c]) := by unfold Hid; rw [eW]; exact (has_new _ _ _).more _
 have HR : Hid (Has W (w.heap.size + 1) 102 #[.int .i64 0, .int .i64 0, .int .i64 0, .int .i64 0, .int .i64 0, .int .i64 0, .int .i64 0, .int .i64 0]) := by unfold Hid; rw [eW]; exact has_nxt' _ _ _ _
 obtain ⟨g1, eg1⟩ : ∃ g, w.heap.size = g := ⟨_, rfl⟩
 obtain ⟨g2, eg2⟩ : ∃ g, g1 + 1 = g := ⟨_, rfl⟩
 have hw2 : w.heap.size ≤ g2 := by omega
 rw [eg1] at HB
 rw [eg1, eg2] at HR
 have b_0 := HB.out.at_ 0
 have b_1 := HB.out.at_ 1
 have b_2 := HB.out.at_ 2
 have b_3 := HB.out.at_ 3
 have b_4 := HB.out.at_ 4
 have b_5 := HB.out.at_ 5
 have b_6 := HB.out.at_ 6
 have b_7 := HB.out.at_ 7
 have b_8 := HB.out.at_ 8
 have b_9 := HB.out.at_ 9
 have b_10 := HB.out.at_ 10
 have b_11 := HB.out.at_ 11
 have b_12 := HB.out.at_ 12
 have b_13 := HB.out.at_ 13
 have b_14 := HB.out.at_ 14
 simp at b_0 b_1 b_2 b_3 b_4 b_5 b_6 b_7 b_8 b_9 b_10 b_11 b_12 b_13 b_14
 have l1 : g1 < W.heap.size := HB.out.here
 have r_0 := HR.out.at_ 0
 have r_1 := HR.out.at_ 1
 have r_2 := HR.out.at_ 2
 have r_3 := HR.out.at_ 3
 have r_4 := HR.out.at_ 4
 have r_5 := HR.out.at_ 5
 have r_6 := HR.out.at_ 6
 have r_7 := HR.out.at_ 7
 simp at r_0 r_1 r_2 r_3 r_4 r_5 r_6 r_7
 have l2 : g2 < W.heap.size := HR.out.here
 have f2 : ∀ i, W.frozen? ⟨g2, i, none⟩ = false := HR.out.free
 go_enter Tryz.func80, Tryz.ntmps80
 go_upto_region 1 with fail
 rw [← eW]
 clear eW
 try rw [eg1]
 try rw [eg2]
 go_wp2_with fail
 obtain ⟨V, eV⟩ : ∃ V, V = ((((((((W).setCell ⟨g2, 0, none⟩ (.int .i64 0)).setCell ⟨g2, 1, none⟩ (.int .i64 a)).setCell ⟨g2, 2, none⟩ (.int .i64 b)).setCell ⟨g2, 3, none⟩ (.int .i64 x)).setCell ⟨g2, 4, none⟩ (.int .i64 y)).setCell ⟨g2, 5, none⟩ (.int .i64 vx)).setCell ⟨g2, 6, none⟩ (.int .i64 vy)).setCell ⟨g2, 7, none⟩ (.int .i64 ln) := ⟨_, rfl⟩
 have kV : But (fun b => b = g2) W V := by rw [eV]; exact (((((((((But.rfl_ (fun b => b = g2) W).put (p := ⟨g2, 0, none⟩) (.inl rfl) _).put (p := ⟨g2, 1, none⟩) (.inl rfl) _).put (p := ⟨g2, 2, none⟩) (.inl rfl) _).put (p := ⟨g2, 3, none⟩) (.inl rfl) _).put (p := ⟨g2, 4, none⟩) (.inl rfl) _).put (p := ⟨g2, 5, none⟩) (.inl rfl) _).put (p := ⟨g2, 6, none⟩) (.inl rfl) _).put (p := ⟨g2, 7, none⟩) (.inl rfl) _)
 have hV : Has V g2 102 #[.int .i64 0, .int .i64 a, .int .i64 b, .int .i64 x, .int .i64 y, .int .i64 vx, .int .i64 vy, .int .i64 ln] := by rw [eV]; exact (((((((HR.out.put 0 _).put 1 _).put 2 _).put 3 _).put 4 _).put 5 _).put 6 _).put 7 _
 have KV : Made w.heap.size w V := But.made_ KW.out kV KW.out.1.size (fun b hb => by have hb : b = g2 := hb; omega)
 try rw [← eV]
 clear eV b_0 b_1 b_2 b_3 b_4 b_5 b_6 b_7 b_8 b_9 b_10 b_11 b_12 b_13 b_14 l1 r_0 r_1 r_2 r_3 r_4 r_5 r_6 r_7 l2 f2
 have q0 := hV.at_ 0
 have q1 := hV.at_ 1
 have q2 := hV.at_ 2
 have q3 := hV.at_ 3
 have q4 := hV.at_ 4
 have q5 := hV.at_ 5
 have q6 := hV.at_ 6
 have q7 := hV.at_ 7
 simp at q0 q1 q2 q3 q4 q5 q6 q7
 exact bodyPost_ret (v := .agg #[.int .i64 0, .int .i64 a, .int .i64 b, .int .i64 x, .int .i64 y, .int .i64 vx, .int .i64 vy, .int .i64 ln]) (by simp [results, Tryz.results80, go_sem, q0, q1, q2, q3, q4, q5, q6, q7]) rfl ⟨rfl, KV⟩
end Go.Proofs.YtgdcphmmehedoaaGreat.Fx
/- order.used, order.fits. -/
namespace Go.Proofs.YtgdcphmmehedoaaGreat.Fx
open Go.ChangeShapes Go.WideShapes Go.ChangeAt Go.RowKit
set_option linter.unusedVariables false
theorem used_c (o : Or) (w : World) : Calls Tryz.prog 37 #[orV o] w fun e v => e = .returned (orV (usedOr o)) ∧ Made w.heap.size w v := by
 obtain ⟨kd, id, a, b, x, y, vx, vy, an, sp, de, ln, k, r, ao, n, c, f⟩ := o
 by_cases h1 : kd = 1
 ·subst h1
  refine (used1 id a b x y vx vy an sp de ln k r ao n c w).mono fun e v ⟨a, b⟩ => ⟨?_, b⟩
  rw [a]; simp [usedOr]
 by_cases h2 : kd = 2
 ·subst h2
  refine (used2 id a b x y vx vy an sp de ln k r ao n c w).mono fun e v ⟨a, b⟩ => ⟨?_, b⟩
  rw [a]; simp [usedOr, Or.kind]
 by_cases h4 : kd = 4
 ·subst h4
  refine (used4 id a b x y vx vy an sp de ln k r ao n c w).mono fun e v ⟨a, b⟩ => ⟨?_, b⟩
  rw [a]; simp [usedOr, Or.kind]
 by_cases h3 : kd = 3
 ·subst h3
  refine (used3 id a b x y vx vy an sp de ln k r ao n c w).mono fun e v ⟨a, b⟩ => ⟨?_, b⟩
  rw [a]; simp [usedOr]
 by_cases h5 : kd = 5
 ·subst h5
  refine (used5 id a b x y vx vy an sp de ln k r ao n c w).mono fun e v ⟨a, b⟩ => ⟨?_, b⟩
  rw [a]; simp [usedOr]
 by_cases h6 : kd = 6
 ·subst h6
  refine (used6 id a b x y vx vy an sp de ln k r ao n c w).mono fun e v ⟨a, b⟩ => ⟨?_, b⟩
  rw [a]; simp [usedOr]
 refine (used0 kd id a b x y vx vy an sp de ln k r ao n c w (by simpa using h1) (by simpa using h2) (by simpa using h3) (by simpa using h4) (by simpa using h5) (by simpa using h6)).mono fun e v ⟨a, b⟩ => ⟨?_, b⟩
 rw [a]; simp [usedOr, Or.kind, h1, h2, h3, h4, h5, h6]
def FitP (o : Or) : Prop :=
 (o.kd = 1 ∧ BodyP (bodyOr o)) ∨ ((o.kd = 2 ∨ o.kd = 4) ∧ 1 ≤ o.id) ∨ (o.kd = 3 ∧ JointP (jointOr o)) ∨
 (o.kd = 5 ∧ 1 ≤ o.id ∧ (Inn o.vx 4611686018427387904 ∧ Inn o.vy 4611686018427387904) ∧ Inn o.sp 4611686018427387904) ∨
 (o.kd = 6 ∧ Inn o.vx 17592186044416 ∧ Inn o.vy 17592186044416)
theorem bring_in {a m : Int} (ha : I64 a) (h0 : 0 ≤ m) (h1 : m ≤ 9223372036854775807) : a = bringF a (-m) m ↔ Inn a m := by
 have h := bring_inn ha (lo := -m) (hi := m) (by omega) (by omega) h1
 rw [beq_iff_eq] at h
 exact h
theorem fits1 (q : Bool) (id a b x y vx vy an sp de ln k r : Int) (ao : Option Addr) (n c : Nat) (f : Cs) (w : World) (hs : Sl w ao n f) (hi : BdI ⟨0, x, y, vx, vy, an, sp, de, k, r, ao, n, c, f⟩) (hq : q = true ↔ BodyP ⟨0, x, y, vx, vy, an, sp, de, k, r, ao, n, c, f⟩) :
  Calls Tryz.prog 38 #[.agg #[.int .i64 1, .int .i64 id, .int .i64 a, .int .i64 b, .int .i64 x, .int .i64 y, .int .i64 vx, .int .i64 vy, .int .i64 an, .int .i64 sp, .int .i64 de, .int .i64 ln, .int .i64 k, .int .i64 r, .slice ao n c]] w fun e v => e = .returned (.bool q) ∧ Made w.heap.size w v := by
 have HS : Hid (∀ v, Made w.heap.size w v → Sl v ao n f) := fun v k hn => by obtain ⟨b, off, e, hp⟩ := hs hn; exact ⟨b, off, e, hp.kept k⟩
 have HRB := hid (fun v (k' : Made w.heap.size w v) => rbody_c 0 x y vx vy an sp de k r ao n c f q v (HS.out v k') hi hq)
 have HOB := hid (fun v => obody_c 1 id a b x y vx vy an sp de ln k r ao n c v)
 clear hs hi hq
 obtain ⟨W, eW⟩ : ∃ W, W = w.alloc (.cells #[.int .i64 1, .int .i64 id, .int .i64 a, .int .i64 b, .int .i64 x, .int .i64 y, .int .i64 vx, .int .i64 vy, .int .i64 an, .int .i64 sp, .int .i64 de, .int .i64 ln, .int .i64 k, .int .i64 r, .slice ao n c] 49) := ⟨_, rfl⟩
 have KW : Hid (Made w.heap.size w W) := by unfold Hid; rw [eW]; exact (Made.rfl_ _ _).cells (Nat.le_refl _) _ _
 have HB : Hid (Has W w.heap.size 49 #[.int .i64 1, .int .i64 id, .int .i64 a, .int .i64 b, .int .i64 x, .int .i64 y, .int .i64 vx, .int .i64 vy, .int .i64 an, .int .i64 sp, .int .i64 de, .int .i64 ln, .int .i64 k, .int .i64 r, .slice ao n c]) := by unfold Hid; rw [eW]; exact has_new _ _ _
 obtain ⟨g1, eg1⟩ : ∃ g, w.heap.size = g := ⟨_, rfl⟩
 rw [eg1] at HB
 have b0 := HB.out.at_ 0
 have b1 := HB.out.at_ 1
 have b2 := HB.out.at_ 2
 have b3 := HB.out.at_ 3
 have b4 := HB.out.at_ 4
 have b5 := HB.out.at_ 5
 have b6 := HB.out.at_ 6
 have b7 := HB.out.at_ 7
 have b8 := HB.out.at_ 8
 have b9 := HB.out.at_ 9
 have b10 := HB.out.at_ 10
 have b11 := HB.out.at_ 11
 have b12 := HB.out.at_ 12
 have b13 := HB.out.at_ 13
 have b14 := HB.out.at_ 14
 simp at b0 b1 b2 b3 b4 b5 b6 b7 b8 b9 b10 b11 b12 b13 b14
 have l1 : g1 < W.heap.size := HB.out.here
 go_enter Tryz.func38, Tryz.ntmps38
 go_upto_region 1 with fail
 rw [← eW]
 clear eW
 try rw [eg1]
 go_wp2_with fail
 refine (HOB.out _).mono ?_
 rintro e w1 ⟨rfl, k1⟩
 have K1 := hid (KW.out.then_ (k1.low KW.out.1.size))
 clear k1 b0 b1 b2 b3 b4 b5 b6 b7 b8 b9 b10 b11 b12 b13 b14 l1
 go_wp2_with fail
 refine (HRB.out _ (by first | exact K1.out | exact eg1 ▸ K1.out)).mono ?_
 rintro e w2 ⟨rfl, k2⟩
 have K2 := hid (K1.out.then_ (k2.low K1.out.1.size))
 clear k2
 go_wp2_with fail
 go_ret
 exact ⟨by first | rfl | trivial, by first | exact K2.out | exact eg1 ▸ K2.out⟩
theorem fits3 (q : Bool) (id a b x y vx vy an sp de ln k r : Int) (ao : Option Addr) (n c : Nat)  (w : World) (hi : JtI ⟨0, a, b, x, y, vx, vy, ln⟩) (hq : q = true ↔ JointP ⟨0, a, b, x, y, vx, vy, ln⟩) :
  Calls Tryz.prog 38 #[.agg #[.int .i64 3, .int .i64 id, .int .i64 a, .int .i64 b, .int .i64 x, .int .i64 y, .int .i64 vx, .int .i64 vy, .int .i64 an, .int .i64 sp, .int .i64 de, .int .i64 ln, .int .i64 k, .int .i64 r, .slice ao n c]] w fun e v => e = .returned (.bool q) ∧ Made w.heap.size w v := by
 have HRB := hid (fun v => rjoint_c ⟨0, a, b, x, y, vx, vy, ln⟩ q v hi hq)
 have HOB := hid (fun v => ojoint_c 3 id a b x y vx vy an sp de ln k r ao n c v)
 clear hi hq
 obtain ⟨W, eW⟩ : ∃ W, W = w.alloc (.cells #[.int .i64 3, .int .i64 id, .int .i64 a, .int .i64 b, .int .i64 x, .int .i64 y, .int .i64 vx, .int .i64 vy, .int .i64 an, .int .i64 sp, .int .i64 de, .int .i64 ln, .int .i64 k, .int .i64 r, .slice ao n c] 49) := ⟨_, rfl⟩
 have KW : Hid (Made w.heap.size w W) := by unfold Hid; rw [eW]; exact (Made.rfl_ _ _).cells (Nat.le_refl _) _ _
 have HB : Hid (Has W w.heap.size 49 #[.int .i64 3, .int .i64 id, .int .i64 a, .int .i64 b, .int .i64 x, .int .i64 y, .int .i64 vx, .int .i64 vy, .int .i64 an, .int .i64 sp, .int .i64 de, .int .i64 ln, .int .i64 k, .int .i64 r, .slice ao n c]) := by unfold Hid; rw [eW]; exact has_new _ _ _
 obtain ⟨g1, eg1⟩ : ∃ g, w.heap.size = g := ⟨_, rfl⟩
 rw [eg1] at HB
 have b0 := HB.out.at_ 0
 have b1 := HB.out.at_ 1
 have b2 := HB.out.at_ 2
 have b3 := HB.out.at_ 3
 have b4 := HB.out.at_ 4
 have b5 := HB.out.at_ 5
 have b6 := HB.out.at_ 6
 have b7 := HB.out.at_ 7
 have b8 := HB.out.at_ 8
 have b9 := HB.out.at_ 9
 have b10 := HB.out.at_ 10
 have b11 := HB.out.at_ 11
 have b12 := HB.out.at_ 12
 have b13 := HB.out.at_ 13
 have b14 := HB.out.at_ 14
 simp at b0 b1 b2 b3 b4 b5 b6 b7 b8 b9 b10 b11 b12 b13 b14
 have l1 : g1 < W.heap.size := HB.out.here
 go_enter Tryz.func38, Tryz.ntmps38
 go_upto_region 1 with fail
 rw [← eW]
 clear eW
 try rw [eg1]
 go_wp2_with fail
 refine (HOB.out _).mono ?_
 rintro e w1 ⟨rfl, k1⟩
 have K1 := hid (KW.out.then_ (k1.low KW.out.1.size))
 clear k1 b0 b1 b2 b3 b4 b5 b6 b7 b8 b9 b10 b11 b12 b13 b14 l1
 go_wp2_with fail
 refine (HRB.out _).mono ?_
 rintro e w2 ⟨rfl, k2⟩
 have K2 := hid (K1.out.then_ (k2.low K1.out.1.size))
 clear k2
 go_wp2_with fail
 go_ret
 exact ⟨by first | rfl | trivial, by first | exact K2.out | exact eg1 ▸ K2.out⟩
theorem fits2 (q : Bool) (id a b x y vx vy an sp de ln k r : Int) (ao : Option Addr) (n c : Nat)  (w : World) (hq : decide (1 ≤ id) = q) :
  Calls Tryz.prog 38 #[.agg #[.int .i64 2, .int .i64 id, .int .i64 a, .int .i64 b, .int .i64 x, .int .i64 y, .int .i64 vx, .int .i64 vy, .int .i64 an, .int .i64 sp, .int .i64 de, .int .i64 ln, .int .i64 k, .int .i64 r, .slice ao n c]] w fun e v => e = .returned (.bool q) ∧ Made w.heap.size w v := by
 obtain ⟨W, eW⟩ : ∃ W, W = w.alloc (.cells #[.int .i64 2, .int .i64 id, .int .i64 a, .int .i64 b, .int .i64 x, .int .i64 y, .int .i64 vx, .int .i64 vy, .int .i64 an, .int .i64 sp, .int .i64 de, .int .i64 ln, .int .i64 k, .int .i64 r, .slice ao n c] 49) := ⟨_, rfl⟩
 have KW : Hid (Made w.heap.size w W) := by unfold Hid; rw [eW]; exact (Made.rfl_ _ _).cells (Nat.le_refl _) _ _
 have HB : Hid (Has W w.heap.size 49 #[.int .i64 2, .int .i64 id, .int .i64 a, .int .i64 b, .int .i64 x, .int .i64 y, .int .i64 vx, .int .i64 vy, .int .i64 an, .int .i64 sp, .int .i64 de, .int .i64 ln, .int .i64 k, .int .i64 r, .slice ao n c]) := by unfold Hid; rw [eW]; exact has_new _ _ _
 obtain ⟨g1, eg1⟩ : ∃ g, w.heap.size = g := ⟨_, rfl⟩
 rw [eg1] at HB
 have b0 := HB.out.at_ 0
 have b1 := HB.out.at_ 1
 have b2 := HB.out.at_ 2
 have b3 := HB.out.at_ 3
 have b4 := HB.out.at_ 4
 have b5 := HB.out.at_ 5
 have b6 := HB.out.at_ 6
 have b7 := HB.out.at_ 7
 have b8 := HB.out.at_ 8
 have b9 := HB.out.at_ 9
 have b10 := HB.out.at_ 10
 have b11 := HB.out.at_ 11
 have b12 := HB.out.at_ 12
 have b13 := HB.out.at_ 13
 have b14 := HB.out.at_ 14
 simp at b0 b1 b2 b3 b4 b5 b6 b7 b8 b9 b10 b11 b12 b13 b14
 have l1 : g1 < W.heap.size := HB.out.here
 go_enter Tryz.func38, Tryz.ntmps38
 go_upto_region 1 with fail
 rw [← eW]
 clear eW
 try rw [eg1]
 go_wp2_with fail
 go_ret
 exact ⟨by first | rfl | trivial, by first | exact KW.out | exact eg1 ▸ KW.out⟩
theorem fits4 (q : Bool) (id a b x y vx vy an sp de ln k r : Int) (ao : Option Addr) (n c : Nat)  (w : World) (hq : decide (1 ≤ id) = q) :
  Calls Tryz.prog 38 #[.agg #[.int .i64 4, .int .i64 id, .int .i64 a, .int .i64 b, .int .i64 x, .int .i64 y, .int .i64 vx, .int .i64 vy, .int .i64 an, .int .i64 sp, .int .i64 de, .int .i64 ln, .int .i64 k, .int .i64 r, .slice ao n c]] w fun e v => e = .returned (.bool q) ∧ Made w.heap.size w v := by
 obtain ⟨W, eW⟩ : ∃ W, W = w.alloc (.cells #[.int .i64 4, .int .i64 id, .int .i64 a, .int .i64 b, .int .i64 x, .int .i64 y, .int .i64 vx, .int .i64 vy, .int .i64 an, .int .i64 sp, .int .i64 de, .int .i64 ln, .int .i64 k, .int .i64 r, .slice ao n c] 49) := ⟨_, rfl⟩
 have KW : Hid (Made w.heap.size w W) := by unfold Hid; rw [eW]; exact (Made.rfl_ _ _).cells (Nat.le_refl _) _ _
 have HB : Hid (Has W w.heap.size 49 #[.int .i64 4, .int .i64 id, .int .i64 a, .int .i64 b, .int .i64 x, .int .i64 y, .int .i64 vx, .int .i64 vy, .int .i64 an, .int .i64 sp, .int .i64 de, .int .i64 ln, .int .i64 k, .int .i64 r, .slice ao n c]) := by unfold Hid; rw [eW]; exact has_new _ _ _
 obtain ⟨g1, eg1⟩ : ∃ g, w.heap.size = g := ⟨_, rfl⟩
 rw [eg1] at HB
 have b0 := HB.out.at_ 0
 have b1 := HB.out.at_ 1
 have b2 := HB.out.at_ 2
 have b3 := HB.out.at_ 3
 have b4 := HB.out.at_ 4
 have b5 := HB.out.at_ 5
 have b6 := HB.out.at_ 6
 have b7 := HB.out.at_ 7
 have b8 := HB.out.at_ 8
 have b9 := HB.out.at_ 9
 have b10 := HB.out.at_ 10
 have b11 := HB.out.at_ 11
 have b12 := HB.out.at_ 12
 have b13 := HB.out.at_ 13
 have b14 := HB.out.at_ 14
 simp at b0 b1 b2 b3 b4 b5 b6 b7 b8 b9 b10 b11 b12 b13 b14
 have l1 : g1 < W.heap.size := HB.out.here
 go_enter Tryz.func38, Tryz.ntmps38
 go_upto_region 1 with fail
 rw [← eW]
 clear eW
 try rw [eg1]
 go_wp2_with fail
 go_ret
 exact ⟨by first | rfl | trivial, by first | exact KW.out | exact eg1 ▸ KW.out⟩
theorem fits0 (q : Bool) (kd id a b x y vx vy an sp de ln k r : Int) (ao : Option Addr) (n c : Nat)  (w : World) (h1 : (kd == 1) = false) (h2 : (kd == 2) = false) (h3 : (kd == 3) = false) (h4 : (kd == 4) = false) (h5 : (kd == 5) = false) (h6 : (kd == 6) = false) (hq : q = false) :
  Calls Tryz.prog 38 #[.agg #[.int .i64 kd, .int .i64 id, .int .i64 a, .int .i64 b, .int .i64 x, .int .i64 y, .int .i64 vx, .int .i64 vy, .int .i64 an, .int .i64 sp, .int .i64 de, .int .i64 ln, .int .i64 k, .int .i64 r, .slice ao n c]] w fun e v => e = .returned (.bool q) ∧ Made w.heap.size w v := by
 subst hq
 obtain ⟨W, eW⟩ : ∃ W, W = w.alloc (.cells #[.int .i64 kd, .int .i64 id, .int .i64 a, .int .i64 b, .int .i64 x, .int .i64 y, .int .i64 vx, .int .i64 vy, .int .i64 an, .int .i64 sp, .int .i64 de, .int .i64 ln, .int .i64 k, .int .i64 r, .slice ao n c] 49) := ⟨_, rfl⟩
 have KW : Hid (Made w.heap.size w W) := by unfold Hid; rw [eW]; exact (Made.rfl_ _ _).cells (Nat.le_refl _) _ _
 have HB : Hid (Has W w.heap.size 49 #[.int .i64 kd, .int .i64 id, .int .i64 a, .int .i64 b, .int .i64 x, .int .i64 y, .int .i64 vx, .int .i64 vy, .int .i64 an, .int .i64 sp, .int .i64 de, .int .i64 ln, .int .i64 k, .int .i64 r, .slice ao n c]) := by unfold Hid; rw [eW]; exact has_new _ _ _
 obtain ⟨g1, eg1⟩ : ∃ g, w.heap.size = g := ⟨_, rfl⟩
 rw [eg1] at HB
 have b0 := HB.out.at_ 0
 have b1 := HB.out.at_ 1
 have b2 := HB.out.at_ 2
 have b3 := HB.out.at_ 3
 have b4 := HB.out.at_ 4
 have b5 := HB.out.at_ 5
 have b6 := HB.out.at_ 6
 have b7 := HB.out.at_ 7
 have b8 := HB.out.at_ 8
 have b9 := HB.out.at_ 9
 have b10 := HB.out.at_ 10
 have b11 := HB.out.at_ 11
 have b12 := HB.out.at_ 12
 have b13 := HB.out.at_ 13
 have b14 := HB.out.at_ 14
 simp at b0 b1 b2 b3 b4 b5 b6 b7 b8 b9 b10 b11 b12 b13 b14
 have l1 : g1 < W.heap.size := HB.out.here
 go_enter Tryz.func38, Tryz.ntmps38
 go_upto_region 1 with fail
 rw [← eW]
 clear eW
 try rw [eg1]
 go_wp2_with fail
 go_ret
 exact ⟨by first | rfl | trivial, by first | exact KW.out | exact eg1 ▸ KW.out⟩
theorem fits6 (q : Bool) (id a b x y vx vy an sp de ln k r : Int) (ao : Option Addr) (n c : Nat)  (w : World) (ivx : I64 vx) (ivy : I64 vy) (hq : q = true ↔ Inn vx 17592186044416 ∧ Inn vy 17592186044416) :
  Calls Tryz.prog 38 #[.agg #[.int .i64 6, .int .i64 id, .int .i64 a, .int .i64 b, .int .i64 x, .int .i64 y, .int .i64 vx, .int .i64 vy, .int .i64 an, .int .i64 sp, .int .i64 de, .int .i64 ln, .int .i64 k, .int .i64 r, .slice ao n c]] w fun e v => e = .returned (.bool q) ∧ Made w.heap.size w v := by
 obtain ⟨X, eX⟩ : ∃ z, bringF vx (negF 17592186044416) 17592186044416 = z := ⟨_, rfl⟩
 obtain ⟨Y, eY⟩ : ∃ z, bringF vy (negF 17592186044416) 17592186044416 = z := ⟨_, rfl⟩
 have hQ := veql vx vy X Y q (by rw [hq, ← eX, ← eY]; rw [show negF 17592186044416 = -17592186044416 by decide]; rw [bring_in ivx (by omega) (by omega), bring_in ivy (by omega) (by omega)])
 have EX := hid eX
 have EY := hid eY
 have iF : I64 17592186044416 := by unfold I64; omega
 clear eX eY hq
 obtain ⟨W, eW⟩ : ∃ W, W = w.alloc (.cells #[.int .i64 6, .int .i64 id, .int .i64 a, .int .i64 b, .int .i64 x, .int .i64 y, .int .i64 vx, .int .i64 vy, .int .i64 an, .int .i64 sp, .int .i64 de, .int .i64 ln, .int .i64 k, .int .i64 r, .slice ao n c] 49) := ⟨_, rfl⟩
 have KW : Hid (Made w.heap.size w W) := by unfold Hid; rw [eW]; exact (Made.rfl_ _ _).cells (Nat.le_refl _) _ _
 have HB : Hid (Has W w.heap.size 49 #[.int .i64 6, .int .i64 id, .int .i64 a, .int .i64 b, .int .i64 x, .int .i64 y, .int .i64 vx, .int .i64 vy, .int .i64 an, .int .i64 sp, .int .i64 de, .int .i64 ln, .int .i64 k, .int .i64 r, .slice ao n c]) := by unfold Hid; rw [eW]; exact has_new _ _ _
 obtain ⟨g1, eg1⟩ : ∃ g, w.heap.size = g := ⟨_, rfl⟩
 rw [eg1] at HB
 have b0 := HB.out.at_ 0
 have b1 := HB.out.at_ 1
 have b2 := HB.out.at_ 2
 have b3 := HB.out.at_ 3
 have b4 := HB.out.at_ 4
 have b5 := HB.out.at_ 5
 have b6 := HB.out.at_ 6
 have b7 := HB.out.at_ 7
 have b8 := HB.out.at_ 8
 have b9 := HB.out.at_ 9
 have b10 := HB.out.at_ 10
 have b11 := HB.out.at_ 11
 have b12 := HB.out.at_ 12
 have b13 := HB.out.at_ 13
 have b14 := HB.out.at_ 14
 simp at b0 b1 b2 b3 b4 b5 b6 b7 b8 b9 b10 b11 b12 b13 b14
 have l1 : g1 < W.heap.size := HB.out.here
 go_enter Tryz.func38, Tryz.ntmps38
 go_upto_region 1 with fail
 rw [← eW]
 clear eW
 try rw [eg1]
 go_wp2_with fail
 refine reg_made (by kernel_rfl) (by kernel_rfl) ?_
 intro Ty hT fw hf
 have z0 := Class.reads hf b0
 have z1 := Class.reads hf b1
 have z2 := Class.reads hf b2
 have z3 := Class.reads hf b3
 have z4 := Class.reads hf b4
 have z5 := Class.reads hf b5
 have z6 := Class.reads hf b6
 have z7 := Class.reads hf b7
 have z8 := Class.reads hf b8
 have z9 := Class.reads hf b9
 have z10 := Class.reads hf b10
 have z11 := Class.reads hf b11
 have z12 := Class.reads hf b12
 have z13 := Class.reads hf b13
 have z14 := Class.reads hf b14
 repeat (go_big_quiet_step ((first
  | (go_at_call 81; with_reducible exact hf.made (vbring_is vx vy 17592186044416 X Y _ ivx ivy iF EX.out EY.out)))))
 refine wpQuiet_nil ?_
 intro w3 h3
 have k3 := hf.here h3
 have K3 := hid (KW.out.then_ (k3.low KW.out.1.size))
 clear k3 h3 hf b0 b1 b2 b3 b4 b5 b6 b7 b8 b9 b10 b11 b12 b13 b14 l1 z0 z1 z2 z3 z4 z5 z6 z7 z8 z9 z10 z11 z12 z13 z14
 go_wp2_with fail
 go_ret
 exact ⟨by first | rfl | trivial, by first | exact K3.out | exact eg1 ▸ K3.out⟩
theorem fits5 (q : Bool) (id a b x y vx vy an sp de ln k r : Int) (ao : Option Addr) (n c : Nat)  (w : World) (ivx : I64 vx) (ivy : I64 vy) (isp : I64 sp) (hq : q = true ↔ 1 ≤ id ∧ (Inn vx 4611686018427387904 ∧ Inn vy 4611686018427387904) ∧ Inn sp 4611686018427387904) :
  Calls Tryz.prog 38 #[.agg #[.int .i64 5, .int .i64 id, .int .i64 a, .int .i64 b, .int .i64 x, .int .i64 y, .int .i64 vx, .int .i64 vy, .int .i64 an, .int .i64 sp, .int .i64 de, .int .i64 ln, .int .i64 k, .int .i64 r, .slice ao n c]] w fun e v => e = .returned (.bool q) ∧ Made w.heap.size w v := by
 obtain ⟨X, eX⟩ : ∃ z, bringF vx (negF 4611686018427387904) 4611686018427387904 = z := ⟨_, rfl⟩
 obtain ⟨Y, eY⟩ : ∃ z, bringF vy (negF 4611686018427387904) 4611686018427387904 = z := ⟨_, rfl⟩
 obtain ⟨Z, eZ⟩ : ∃ z, bringF sp (-4611686018427387904) 4611686018427387904 = z := ⟨_, rfl⟩
 obtain ⟨c1, hc1⟩ := a_bool (Inn vx 4611686018427387904 ∧ Inn vy 4611686018427387904)
 have hQ := veql vx vy X Y c1 (by rw [hc1, ← eX, ← eY]; rw [show negF 4611686018427387904 = -4611686018427387904 by decide]; rw [bring_in ivx (by omega) (by omega), bring_in ivy (by omega) (by omega)])
 have hZ : sp = Z ↔ Inn sp 4611686018427387904 := by rw [← eZ]; exact bring_in isp (by omega) (by omega)
 have HQ2 : Hid (q = true ↔ 1 ≤ id ∧ c1 = true ∧ sp = Z) := by unfold Hid; rw [hq, hc1, hZ]
 have EX := hid eX
 have EY := hid eY
 have EZ := hid eZ
 have iF : I64 4611686018427387904 := by unfold I64; omega
 have iM : I64 (-4611686018427387904) := by unfold I64; omega
 clear eX eY eZ hq hc1 hZ
 obtain ⟨W, eW⟩ : ∃ W, W = w.alloc (.cells #[.int .i64 5, .int .i64 id, .int .i64 a, .int .i64 b, .int .i64 x, .int .i64 y, .int .i64 vx, .int .i64 vy, .int .i64 an, .int .i64 sp, .int .i64 de, .int .i64 ln, .int .i64 k, .int .i64 r, .slice ao n c] 49) := ⟨_, rfl⟩
 have KW : Hid (Made w.heap.size w W) := by unfold Hid; rw [eW]; exact (Made.rfl_ _ _).cells (Nat.le_refl _) _ _
 have HB : Hid (Has W w.heap.size 49 #[.int .i64 5, .int .i64 id, .int .i64 a, .int .i64 b, .int .i64 x, .int .i64 y, .int .i64 vx, .int .i64 vy, .int .i64 an, .int .i64 sp, .int .i64 de, .int .i64 ln, .int .i64 k, .int .i64 r, .slice ao n c]) := by unfold Hid; rw [eW]; exact has_new _ _ _
 obtain ⟨g1, eg1⟩ : ∃ g, w.heap.size = g := ⟨_, rfl⟩
 rw [eg1] at HB
 have b0 := HB.out.at_ 0
 have b1 := HB.out.at_ 1
 have b2 := HB.out.at_ 2
 have b3 := HB.out.at_ 3
 have b4 := HB.out.at_ 4
 have b5 := HB.out.at_ 5
 have b6 := HB.out.at_ 6
 have b7 := HB.out.at_ 7
 have b8 := HB.out.at_ 8
 have b9 := HB.out.at_ 9
 have b10 := HB.out.at_ 10
 have b11 := HB.out.at_ 11
 have b12 := HB.out.at_ 12
 have b13 := HB.out.at_ 13
 have b14 := HB.out.at_ 14
 simp at b0 b1 b2 b3 b4 b5 b6 b7 b8 b9 b10 b11 b12 b13 b14
 have l1 : g1 < W.heap.size := HB.out.here
 go_enter Tryz.func38, Tryz.ntmps38
 go_upto_region 1 with fail
 rw [← eW]
 clear eW
 try rw [eg1]
 by_cases hi : 1 ≤ id
 case neg =>
  have e : q = false := Bool.eq_false_iff.2 fun h => hi (HQ2.out.1 h).1
  have g0 : decide (1 ≤ id) = false := by simpa using hi
  subst e
  clear hi
  go_wp2_with fail
  refine reg_made (by kernel_rfl) (by kernel_rfl) ?_
  intro Ty hT fw hf
  have z0 := Class.reads hf b0
  have z1 := Class.reads hf b1
  have z2 := Class.reads hf b2
  have z3 := Class.reads hf b3
  have z4 := Class.reads hf b4
  have z5 := Class.reads hf b5
  have z6 := Class.reads hf b6
  have z7 := Class.reads hf b7
  have z8 := Class.reads hf b8
  have z9 := Class.reads hf b9
  have z10 := Class.reads hf b10
  have z11 := Class.reads hf b11
  have z12 := Class.reads hf b12
  have z13 := Class.reads hf b13
  have z14 := Class.reads hf b14
  repeat (go_big_quiet_step ((first
   | (go_at_call 81; with_reducible exact hf.made (vbring_is vx vy 4611686018427387904 X Y _ ivx ivy iF EX.out EY.out))
   | (go_at_call 82; with_reducible exact hf.same (bring_is sp (-4611686018427387904) 4611686018427387904 Z _ isp iM iF EZ.out)))))
  refine wpQuiet_nil ?_
  intro w3 h3
  have k3 := hf.here h3
  have K3 := hid (KW.out.then_ (k3.low KW.out.1.size))
  clear k3 h3 hf b0 b1 b2 b3 b4 b5 b6 b7 b8 b9 b10 b11 b12 b13 b14 l1 z0 z1 z2 z3 z4 z5 z6 z7 z8 z9 z10 z11 z12 z13 z14
  go_wp2_with fail
  go_ret
  exact ⟨by first | rfl | trivial, by first | exact K3.out | exact eg1 ▸ K3.out⟩
 have g0 : decide (1 ≤ id) = true := by simpa using hi
 cases c1 with
 | false =>
  have e : q = false := Bool.eq_false_iff.2 fun h => by have := (HQ2.out.1 h).2.1; simp at this
  subst e
  clear hi
  go_wp2_with fail
  refine reg_made (by kernel_rfl) (by kernel_rfl) ?_
  intro Ty hT fw hf
  have z0 := Class.reads hf b0
  have z1 := Class.reads hf b1
  have z2 := Class.reads hf b2
  have z3 := Class.reads hf b3
  have z4 := Class.reads hf b4
  have z5 := Class.reads hf b5
  have z6 := Class.reads hf b6
  have z7 := Class.reads hf b7
  have z8 := Class.reads hf b8
  have z9 := Class.reads hf b9
  have z10 := Class.reads hf b10
  have z11 := Class.reads hf b11
  have z12 := Class.reads hf b12
  have z13 := Class.reads hf b13
  have z14 := Class.reads hf b14
  repeat (go_big_quiet_step ((first
   | (go_at_call 81; with_reducible exact hf.made (vbring_is vx vy 4611686018427387904 X Y _ ivx ivy iF EX.out EY.out))
   | (go_at_call 82; with_reducible exact hf.same (bring_is sp (-4611686018427387904) 4611686018427387904 Z _ isp iM iF EZ.out)))))
  refine wpQuiet_nil ?_
  intro w3 h3
  have k3 := hf.here h3
  have K3 := hid (KW.out.then_ (k3.low KW.out.1.size))
  clear k3 h3 hf b0 b1 b2 b3 b4 b5 b6 b7 b8 b9 b10 b11 b12 b13 b14 l1 z0 z1 z2 z3 z4 z5 z6 z7 z8 z9 z10 z11 z12 z13 z14
  go_wp2_with fail
  go_ret
  exact ⟨by first | rfl | trivial, by first | exact K3.out | exact eg1 ▸ K3.out⟩
 | true =>
  by_cases hz : sp = Z
  ·have e : q = true := HQ2.out.2 ⟨hi, rfl, hz⟩
   have g1 : (sp == Z) = true := by simpa using hz
   subst e
   clear hi hz
   go_wp2_with fail
   refine reg_made (by kernel_rfl) (by kernel_rfl) ?_
   intro Ty hT fw hf
   have z0 := Class.reads hf b0
   have z1 := Class.reads hf b1
   have z2 := Class.reads hf b2
   have z3 := Class.reads hf b3
   have z4 := Class.reads hf b4
   have z5 := Class.reads hf b5
   have z6 := Class.reads hf b6
   have z7 := Class.reads hf b7
   have z8 := Class.reads hf b8
   have z9 := Class.reads hf b9
   have z10 := Class.reads hf b10
   have z11 := Class.reads hf b11
   have z12 := Class.reads hf b12
   have z13 := Class.reads hf b13
   have z14 := Class.reads hf b14
   repeat (go_big_quiet_step ((first
    | (go_at_call 81; with_reducible exact hf.made (vbring_is vx vy 4611686018427387904 X Y _ ivx ivy iF EX.out EY.out))
    | (go_at_call 82; with_reducible exact hf.same (bring_is sp (-4611686018427387904) 4611686018427387904 Z _ isp iM iF EZ.out)))))
   refine wpQuiet_nil ?_
   intro w3 h3
   have k3 := hf.here h3
   have K3 := hid (KW.out.then_ (k3.low KW.out.1.size))
   clear k3 h3 hf b0 b1 b2 b3 b4 b5 b6 b7 b8 b9 b10 b11 b12 b13 b14 l1 z0 z1 z2 z3 z4 z5 z6 z7 z8 z9 z10 z11 z12 z13 z14
   go_wp2_with fail
   go_ret
   exact ⟨by first | rfl | trivial, by first | exact K3.out | exact eg1 ▸ K3.out⟩
  ·have e : q = false := Bool.eq_false_iff.2 fun h => hz (HQ2.out.1 h).2.2
   have g1 : (sp == Z) = false := by simpa using hz
   subst e
   clear hi hz
   go_wp2_with fail
   refine reg_made (by kernel_rfl) (by kernel_rfl) ?_
   intro Ty hT fw hf
   have z0 := Class.reads hf b0
   have z1 := Class.reads hf b1
   have z2 := Class.reads hf b2
   have z3 := Class.reads hf b3
   have z4 := Class.reads hf b4
   have z5 := Class.reads hf b5
   have z6 := Class.reads hf b6
   have z7 := Class.reads hf b7
   have z8 := Class.reads hf b8
   have z9 := Class.reads hf b9
   have z10 := Class.reads hf b10
   have z11 := Class.reads hf b11
   have z12 := Class.reads hf b12
   have z13 := Class.reads hf b13
   have z14 := Class.reads hf b14
   repeat (go_big_quiet_step ((first
    | (go_at_call 81; with_reducible exact hf.made (vbring_is vx vy 4611686018427387904 X Y _ ivx ivy iF EX.out EY.out))
    | (go_at_call 82; with_reducible exact hf.same (bring_is sp (-4611686018427387904) 4611686018427387904 Z _ isp iM iF EZ.out)))))
   refine wpQuiet_nil ?_
   intro w3 h3
   have k3 := hf.here h3
   have K3 := hid (KW.out.then_ (k3.low KW.out.1.size))
   clear k3 h3 hf b0 b1 b2 b3 b4 b5 b6 b7 b8 b9 b10 b11 b12 b13 b14 l1 z0 z1 z2 z3 z4 z5 z6 z7 z8 z9 z10 z11 z12 z13 z14
   go_wp2_with fail
   go_ret
   exact ⟨by first | rfl | trivial, by first | exact K3.out | exact eg1 ▸ K3.out⟩
theorem fits_c (q : Bool) (o : Or) {w : World} (hi : OrI o) (hs : Sl w o.ao o.n o.f) (hq : q = true ↔ FitP o) : Calls Tryz.prog 38 #[orV o] w fun e v => e = .returned (.bool q) ∧ Made w.heap.size w v := by
 obtain ⟨kd, id, a, b, x, y, vx, vy, an, sp, de, ln, k, r, ao, n, c, f⟩ := o
 have hb := hi.body
 have hj := hi.joint
 simp only [FitP] at hq
 by_cases h1 : kd = 1
 ·subst h1
  exact fits1 q id a b x y vx vy an sp de ln k r ao n c f w hs hb (by rw [hq]; simp [bodyOr])
 by_cases h2 : kd = 2
 ·subst h2
  exact fits2 q id a b x y vx vy an sp de ln k r ao n c w (by cases q <;> simp at hq ⊢ <;> omega)
 by_cases h4 : kd = 4
 ·subst h4
  exact fits4 q id a b x y vx vy an sp de ln k r ao n c w (by cases q <;> simp at hq ⊢ <;> omega)
 by_cases h3 : kd = 3
 ·subst h3
  exact fits3 q id a b x y vx vy an sp de ln k r ao n c w hj (by rw [hq]; simp [jointOr])
 by_cases h5 : kd = 5
 ·subst h5
  exact fits5 q id a b x y vx vy an sp de ln k r ao n c w hi.vx hi.vy hi.sp (by rw [hq]; simp)
 by_cases h6 : kd = 6
 ·subst h6
  exact fits6 q id a b x y vx vy an sp de ln k r ao n c w hi.vx hi.vy (by rw [hq]; simp)
 exact fits0 q kd id a b x y vx vy an sp de ln k r ao n c w (by simpa using h1) (by simpa using h2) (by simpa using h3) (by simpa using h4) (by simpa using h5) (by simpa using h6) (Bool.eq_false_iff.2 fun h => by have := hq.1 h; simp [h1, h2, h3, h4, h5, h6] at this)
end Go.Proofs.YtgdcphmmehedoaaGreat.Fx
/- order.Same. -/
namespace Go.Proofs.YtgdcphmmehedoaaGreat.Fx
open Go.ChangeShapes Go.WideShapes Go.ChangeAt Go.RowKit
set_option linter.unusedVariables false
def EqO (a b : Or) : Prop := a.kd = b.kd ∧ a.id = b.id ∧ a.a = b.a ∧ a.b = b.b ∧ (a.x = b.x ∧ a.y = b.y) ∧ (a.vx = b.vx ∧ a.vy = b.vy) ∧ a.an = b.an ∧ a.sp = b.sp ∧ a.de = b.de ∧ a.ln = b.ln ∧ a.k = b.k ∧ a.r = b.r ∧ a.n = b.n ∧ ∀ i, i < a.n → a.f i = b.f i
theorem osame_c (q : Bool) (o o' : Or) {w : World} (hmx : o.n ≤ 1073741824) (hl : Sl w o.ao o.n o.f) (hl' : Sl w o'.ao o'.n o'.f) (hr : q = true ↔ EqO o o') :
  Calls Tryz.prog 36 #[orV o, orV o'] w fun e v => e = .returned (.bool q) ∧ Made w.heap.size w v := by
 obtain ⟨kd, id, a, b, x, y, vx, vy, an, sp, de, ln, k, r, ao, n, c, f⟩ := o
 obtain ⟨kd', id', a', b', x', y', vx', vy', an', sp', de', ln', k', r', bo, n', c', g⟩ := o'
 simp only [EqO] at hr
 simp only [] at hmx hl hl'
 have HR := hid hr
 obtain ⟨W, eW⟩ : ∃ W, W = (w.alloc (.cells #[.int .i64 kd, .int .i64 id, .int .i64 a, .int .i64 b, .int .i64 x, .int .i64 y, .int .i64 vx, .int .i64 vy, .int .i64 an, .int .i64 sp, .int .i64 de, .int .i64 ln, .int .i64 k, .int .i64 r, .slice ao n c] 49)).alloc (.cells #[.int .i64 kd', .int .i64 id', .int .i64 a', .int .i64 b', .int .i64 x', .int .i64 y', .int .i64 vx', .int .i64 vy', .int .i64 an', .int .i64 sp', .int .i64 de', .int .i64 ln', .int .i64 k', .int .i64 r', .slice bo n' c'] 49) := ⟨_, rfl⟩
 have KW : Made w.heap.size w ((w.alloc (.cells #[.int .i64 kd, .int .i64 id, .int .i64 a, .int .i64 b, .int .i64 x, .int .i64 y, .int .i64 vx, .int .i64 vy, .int .i64 an, .int .i64 sp, .int .i64 de, .int .i64 ln, .int .i64 k, .int .i64 r, .slice ao n c] 49)).alloc (.cells #[.int .i64 kd', .int .i64 id', .int .i64 a', .int .i64 b', .int .i64 x', .int .i64 y', .int .i64 vx', .int .i64 vy', .int .i64 an', .int .i64 sp', .int .i64 de', .int .i64 ln', .int .i64 k', .int .i64 r', .slice bo n' c'] 49)) := ((Made.rfl_ _ _).cells (Nat.le_refl _) _ _).cells (by simp) _ _
 have HKW := hid KW
 have KW' : Hid (Made w.heap.size w W) := by unfold Hid; rw [eW]; exact KW
 have hlk : Hid (Sl W ao n f) := fun hn => by obtain ⟨b, off, e, hp⟩ := hl hn; exact ⟨b, off, e, hp.kept KW'.out⟩
 have hlk' : Hid (Sl W bo n' g) := fun hn => by obtain ⟨b, off, e, hp⟩ := hl' hn; exact ⟨b, off, e, hp.kept KW'.out⟩
 have HEW := hid eW
 clear eW KW hl hl' hr
 go_enter Tryz.func36, Tryz.ntmps36
 by_cases h0 : kd = kd'
 case neg =>
  have e : q = false := Bool.eq_false_iff.2 fun h => h0 (HR.out.1 h).1
  have q_kd : (kd == kd') = false := by simpa using (show ¬ kd = kd' from h0)
  subst e
  clear h0
  go_wp2_with fail
  go_ret
  exact ⟨rfl, HKW.out⟩
 have q_kd : (kd == kd') = true := by simpa using (show kd = kd' from h0)
 by_cases h1 : id = id'
 case neg =>
  have e : q = false := Bool.eq_false_iff.2 fun h => h1 (HR.out.1 h).2.1
  have q_id : (id == id') = false := by simpa using (show ¬ id = id' from h1)
  subst e
  clear h1 h0
  go_wp2_with fail
  go_ret
  exact ⟨rfl, HKW.out⟩
 have q_id : (id == id') = true := by simpa using (show id = id' from h1)
 by_cases h2 : a = a'
 case neg =>
  have e : q = false := Bool.eq_false_iff.2 fun h => h2 (HR.out.1 h).2.2.1
  have q_a : (a == a') = false := by simpa using (show ¬ a = a' from h2)
  subst e
  clear h2 h0 h1
  go_wp2_with fail
  go_ret
  exact ⟨rfl, HKW.out⟩
 have q_a : (a == a') = true := by simpa using (show a = a' from h2)
 by_cases h3 : b = b'
 case neg =>
  have e : q = false := Bool.eq_false_iff.2 fun h => h3 (HR.out.1 h).2.2.2.1
  have q_b : (b == b') = false := by simpa using (show ¬ b = b' from h3)
  subst e
  clear h3 h0 h1 h2
  go_wp2_with fail
  go_ret
  exact ⟨rfl, HKW.out⟩
 have q_b : (b == b') = true := by simpa using (show b = b' from h3)
 by_cases h4 : x = x' ∧ y = y'
 case neg =>
  have e : q = false := Bool.eq_false_iff.2 fun h => h4 (HR.out.1 h).2.2.2.2.1
  have q_x := veql x y x' y' false (iff_of_false (by simp) h4)
  subst e
  clear h4 h0 h1 h2 h3
  go_wp2_with fail
  go_ret
  exact ⟨rfl, HKW.out⟩
 have q_x := veql x y x' y' true (iff_of_true rfl h4)
 by_cases h5 : vx = vx' ∧ vy = vy'
 case neg =>
  have e : q = false := Bool.eq_false_iff.2 fun h => h5 (HR.out.1 h).2.2.2.2.2.1
  have q_vx := veql vx vy vx' vy' false (iff_of_false (by simp) h5)
  subst e
  clear h5 h0 h1 h2 h3 h4
  go_wp2_with fail
  go_ret
  exact ⟨rfl, HKW.out⟩
 have q_vx := veql vx vy vx' vy' true (iff_of_true rfl h5)
 by_cases h6 : an = an'
 case neg =>
  have e : q = false := Bool.eq_false_iff.2 fun h => h6 (HR.out.1 h).2.2.2.2.2.2.1
  have q_an : (an == an') = false := by simpa using (show ¬ an = an' from h6)
  subst e
  clear h6 h0 h1 h2 h3 h4 h5
  go_wp2_with fail
  go_ret
  exact ⟨rfl, HKW.out⟩
 have q_an : (an == an') = true := by simpa using (show an = an' from h6)
 by_cases h7 : sp = sp'
 case neg =>
  have e : q = false := Bool.eq_false_iff.2 fun h => h7 (HR.out.1 h).2.2.2.2.2.2.2.1
  have q_sp : (sp == sp') = false := by simpa using (show ¬ sp = sp' from h7)
  subst e
  clear h7 h0 h1 h2 h3 h4 h5 h6
  go_wp2_with fail
  go_ret
  exact ⟨rfl, HKW.out⟩
 have q_sp : (sp == sp') = true := by simpa using (show sp = sp' from h7)
 by_cases h8 : de = de'
 case neg =>
  have e : q = false := Bool.eq_false_iff.2 fun h => h8 (HR.out.1 h).2.2.2.2.2.2.2.2.1
  have q_de : (de == de') = false := by simpa using (show ¬ de = de' from h8)
  subst e
  clear h8 h0 h1 h2 h3 h4 h5 h6 h7
  go_wp2_with fail
  go_ret
  exact ⟨rfl, HKW.out⟩
 have q_de : (de == de') = true := by simpa using (show de = de' from h8)
 by_cases h9 : ln = ln'
 case neg =>
  have e : q = false := Bool.eq_false_iff.2 fun h => h9 (HR.out.1 h).2.2.2.2.2.2.2.2.2.1
  have q_ln : (ln == ln') = false := by simpa using (show ¬ ln = ln' from h9)
  subst e
  clear h9 h0 h1 h2 h3 h4 h5 h6 h7 h8
  go_wp2_with fail
  go_ret
  exact ⟨rfl, HKW.out⟩
 have q_ln : (ln == ln') = true := by simpa using (show ln = ln' from h9)
 have HC := hid (shapeSame_c (c := c) (c' := c') q k r k' r' hmx hlk.out hlk'.out (by rw [HR.out]; simp [h0, h1, h2, h3, h4, h5, h6, h7, h8, h9]))
 clear h0 h1 h2 h3 h4 h5 h6 h7 h8 h9
 go_wp2_with fail
 rw [← HEW.out]
 refine HC.out.mono ?_
 rintro e w1 ⟨rfl, k1⟩
 have K1 := hid (KW'.out.then_ (k1.low KW'.out.1.size))
 clear k1
 go_wp2_with fail
 go_ret
 exact ⟨by first | rfl | trivial, K1.out⟩
end Go.Proofs.YtgdcphmmehedoaaGreat.Fx
/- order.Right. -/
namespace Go.Proofs.YtgdcphmmehedoaaGreat.Fx
open Go.ChangeShapes Go.WideShapes Go.ChangeAt Go.RowKit
set_option linter.unusedVariables false
theorem order_iff (o : Or) : OrderP o ↔ EqO o (usedOr o) ∧ FitP o := by
 obtain ⟨kd, id, a, b, x, y, vx, vy, an, sp, de, ln, k, r, ao, n, c, f⟩ := o
 unfold OrderP EqO FitP usedOr BareO
 simp only []
 by_cases h1 : kd = 1
 ·subst h1
  by_cases hB : BodyP (bodyOr ⟨1, id, a, b, x, y, vx, vy, an, sp, de, ln, k, r, ao, n, c, f⟩) <;> simp [hB] <;> omega
 by_cases h2 : kd = 2
 ·subst h2; by_cases hn : n = 0 <;> simp [hn, Or.kind] <;> omega
 by_cases h4 : kd = 4
 ·subst h4; by_cases hn : n = 0 <;> simp [hn, Or.kind] <;> omega
 by_cases h3 : kd = 3
 ·subst h3
  by_cases hn : n = 0
  ·subst hn
   by_cases hB : JointP (jointOr ⟨3, id, a, b, x, y, vx, vy, an, sp, de, ln, k, r, ao, 0, c, f⟩) <;> simp [hB] <;> omega
  ·simp [hn]
 by_cases h5 : kd = 5
 ·subst h5; by_cases hn : n = 0 <;> simp [hn, Inn] <;> omega
 by_cases h6 : kd = 6
 ·subst h6; by_cases hn : n = 0 <;> simp [hn, Inn] <;> omega
 simp [h1, h2, h3, h4, h5, h6]
theorem usedOr_sl (o : Or) {w : World} (h : Sl w o.ao o.n o.f) : Sl w (usedOr o).ao (usedOr o).n (usedOr o).f := by
 unfold usedOr Or.kind
 split
 ·exact h
 ·repeat' split
  all_goals exact fun hn => absurd hn (by simp)
theorem oright_c (q : Bool) (o : Or) {w : World} (hmx : o.n ≤ 1073741824) (hi : OrI o) (hs : Sl w o.ao o.n o.f) (hq : q = true ↔ OrderP o) : Calls Tryz.prog 13 #[orV o] w fun e v => e = .returned (.bool q) ∧ Made w.heap.size w v := by
 obtain ⟨c1, hc1⟩ := a_bool (EqO o (usedOr o))
 obtain ⟨c2, hc2⟩ := a_bool (FitP o)
 have HQ : Hid (q = true ↔ c1 = true ∧ c2 = true) := by unfold Hid; rw [hq, hc1, hc2]; exact order_iff o
 have hsk : ∀ v, Made w.heap.size w v → Sl v o.ao o.n o.f := fun v k hn => by obtain ⟨b, off, e, hp⟩ := hs hn; exact ⟨b, off, e, hp.kept k⟩
 have HU := hid (fun v => used_c o v)
 have HS := hid (fun v (k : Made w.heap.size w v) => osame_c c1 o (usedOr o) hmx (hsk v k) (usedOr_sl o (hsk v k)) hc1)
 have HF := hid (fun v (k : Made w.heap.size w v) => fits_c c2 o hi (hsk v k) hc2)
 clear hsk hc1 hc2 hq hs hi hmx
 generalize usedOr o = U at HU HS
 obtain ⟨kd, id, a, b, x, y, vx, vy, an, sp, de, ln, k, r, ao, n, c, f⟩ := o
 obtain ⟨ukd, uid, ua, ub, ux, uy, uvx, uvy, uan, usp, ude, uln, uk, ur, uo, un, uc, uf⟩ := U
 obtain ⟨W, eW⟩ : ∃ W, W = w.alloc (.cells #[.int .i64 kd, .int .i64 id, .int .i64 a, .int .i64 b, .int .i64 x, .int .i64 y, .int .i64 vx, .int .i64 vy, .int .i64 an, .int .i64 sp, .int .i64 de, .int .i64 ln, .int .i64 k, .int .i64 r, .slice ao n c] 49) := ⟨_, rfl⟩
 have KW : Hid (Made w.heap.size w W) := by unfold Hid; rw [eW]; exact (Made.rfl_ _ _).cells (Nat.le_refl _) _ _
 have HB : Hid (Has W w.heap.size 49 #[.int .i64 kd, .int .i64 id, .int .i64 a, .int .i64 b, .int .i64 x, .int .i64 y, .int .i64 vx, .int .i64 vy, .int .i64 an, .int .i64 sp, .int .i64 de, .int .i64 ln, .int .i64 k, .int .i64 r, .slice ao n c]) := by unfold Hid; rw [eW]; exact has_new _ _ _
 obtain ⟨g1, eg1⟩ : ∃ g, w.heap.size = g := ⟨_, rfl⟩
 have HG1 := hid eg1
 rw [eg1] at HB
 have b0 := HB.out.at_ 0
 have b1 := HB.out.at_ 1
 have b2 := HB.out.at_ 2
 have b3 := HB.out.at_ 3
 have b4 := HB.out.at_ 4
 have b5 := HB.out.at_ 5
 have b6 := HB.out.at_ 6
 have b7 := HB.out.at_ 7
 have b8 := HB.out.at_ 8
 have b9 := HB.out.at_ 9
 have b10 := HB.out.at_ 10
 have b11 := HB.out.at_ 11
 have b12 := HB.out.at_ 12
 have b13 := HB.out.at_ 13
 have b14 := HB.out.at_ 14
 simp at b0 b1 b2 b3 b4 b5 b6 b7 b8 b9 b10 b11 b12 b13 b14
 have l1 : g1 < W.heap.size := HB.out.here
 go_enter Tryz.func13, Tryz.ntmps13
 go_upto_region 1 with fail
 rw [← eW]
 clear eW
 try rw [eg1]
 clear eg1
 go_wp2_with fail
 cases c1
 all_goals
  refine reg_made (by kernel_rfl) (by kernel_rfl) ?_
  intro Ty hT fw hf
  have z0 := Class.reads hf b0
  have z1 := Class.reads hf b1
  have z2 := Class.reads hf b2
  have z3 := Class.reads hf b3
  have z4 := Class.reads hf b4
  have z5 := Class.reads hf b5
  have z6 := Class.reads hf b6
  have z7 := Class.reads hf b7
  have z8 := Class.reads hf b8
  have z9 := Class.reads hf b9
  have z10 := Class.reads hf b10
  have z11 := Class.reads hf b11
  have z12 := Class.reads hf b12
  have z13 := Class.reads hf b13
  have z14 := Class.reads hf b14
  repeat (go_big_quiet_step ((first
   | (go_at_call 37; exact hf.made (HU.out _))
   | (go_at_call 36; exact hf.made (HS.out _ (KW.out.then_ ((hf.1 _).low KW.out.1.size))))
   | (go_at_call 38; exact hf.made (HF.out _ (KW.out.then_ ((hf.1 _).low KW.out.1.size)))))))
  refine wpQuiet_nil ?_
  intro w3 h3
  have k3 := hf.here h3
  have K3 := hid (KW.out.then_ (k3.low KW.out.1.size))
  clear k3 h3 hf b0 b1 b2 b3 b4 b5 b6 b7 b8 b9 b10 b11 b12 b13 b14 l1 z0 z1 z2 z3 z4 z5 z6 z7 z8 z9 z10 z11 z12 z13 z14
  go_wp2_with fail
  go_ret
  refine ⟨?_, K3.out⟩
  have h := HQ.out
  cases q <;> cases c2 <;> simp at h ⊢
end Go.Proofs.YtgdcphmmehedoaaGreat.Fx
/- IndexFunc and ContainsFunc over orders; are all of them right? -/
namespace Go.Proofs.YtgdcphmmehedoaaGreat.Fx
open Go.ChangeShapes Go.WideShapes Go.ChangeAt Go.RowKit
set_option linter.unusedVariables false
theorem ElT.o15 {w : World} {b o : Nat} {x : Or} (h : ElT encO w b o x) : w.cell? ⟨b, o, none⟩ = some (.int .i64 x.kd) ∧ w.cell? ⟨b, o + 1, none⟩ = some (.int .i64 x.id) ∧ w.cell? ⟨b, o + 2, none⟩ = some (.int .i64 x.a) ∧ w.cell? ⟨b, o + 3, none⟩ = some (.int .i64 x.b) ∧ w.cell? ⟨b, o + 4, none⟩ = some (.int .i64 x.x) ∧ w.cell? ⟨b, o + 5, none⟩ = some (.int .i64 x.y) ∧ w.cell? ⟨b, o + 6, none⟩ = some (.int .i64 x.vx) ∧ w.cell? ⟨b, o + 7, none⟩ = some (.int .i64 x.vy) ∧ w.cell? ⟨b, o + 8, none⟩ = some (.int .i64 x.an) ∧ w.cell? ⟨b, o + 9, none⟩ = some (.int .i64 x.sp) ∧ w.cell? ⟨b, o + 10, none⟩ = some (.int .i64 x.de) ∧ w.cell? ⟨b, o + 11, none⟩ = some (.int .i64 x.ln) ∧ w.cell? ⟨b, o + 12, none⟩ = some (.int .i64 x.k) ∧ w.cell? ⟨b, o + 13, none⟩ = some (.int .i64 x.r) ∧ w.cell? ⟨b, o + 14, none⟩ = some (.slice x.ao x.n x.c) :=
 ⟨h 0 _ rfl, h 1 _ rfl, h 2 _ rfl, h 3 _ rfl, h 4 _ rfl, h 5 _ rfl, h 6 _ rfl, h 7 _ rfl, h 8 _ rfl, h 9 _ rfl, h 10 _ rfl, h 11 _ rfl, h 12 _ rfl, h 13 _ rfl, h 14 _ rfl⟩
theorem idxO_c (g : Nat) (lb : Array Value) (eg : ∀ args w, (callFunc g args).run Tryz.prog w = .ok (.enter g args) w) (X : Nat → Prop) (St : Nat → World → Prop) (p : Nat → Bool) {l : List Or} {ao : Option Addr} {n c : Nat} {w : World}
  (hn : l.length = n) (hmx : n ≤ 4611686018427387904) (hl : LsT encO 15 w ao l) (hX : 0 < n → Offs X ao) (hS0 : St 0 w)
  (hS : ∀ i x u, l[i]? = some x → But X w u → St i u → Calls Tryz.prog g (#[orV x] ++ lb) u fun e v => e = .returned (.bool (p i)) ∧ But X u v ∧ St (i + 1) v) :
  Calls Tryz.prog 75 #[.slice ao n c, .func (.func g) #[] lb] w fun e v => ∃ r : Int, e = .returned (.int .i64 r) ∧ But X w v ∧ ((r = -1 ∧ (∀ i, i < n → p i = false) ∧ St n v) ∨ ∃ i, i < n ∧ r = i ∧ p i = true ∧ (∀ j, j < i → p j = false) ∧ St (i + 1) v) := by
 have HN := hid hn
 have HL := hid hl
 have HX := hid hX
 have HS := hid hS
 have H0 := hid hS0
 clear hn hl hX hS hS0
 go_enter Tryz.func75, Tryz.ntmps75
 go_wp2_with fail
 go_loopg [5, 8] n (fun gg s5 s8 wx => ∃ k : Nat, k + gg = n ∧ s8 = .int .i64 k ∧ Hid (But X w wx ∧ St k wx ∧ ∀ j, j < k → p j = false))
 case atStart => exact ⟨0, by omega, rfl, But.rfl_ _ _, H0.out, fun j hj => absurd hj (Nat.not_lt_zero _)⟩
 case round =>
  obtain ⟨k, hk, rfl, HB⟩ := hrel
  by_cases hlt : k < n
  ·obtain ⟨a, ea⟩ : ∃ a, l[k]? = some a := ⟨_, List.getElem?_eq_getElem (by rw [HN.out]; omega)⟩
   obtain ⟨b, off, rfl, hbl, hLB⟩ := HL.out (by rw [HN.out]; omega)
   have hcall := HS.out k a wr ea HB.out.1 HB.out.2.1
   have hcells := ((hLB.but HB.out.1 (HX.out (by omega) b off _ rfl)) k _ ea).o15
   clear ea hLB
   obtain ⟨x0, x1, x2, x3, x4, x5, x6, x7, x8, x9, x10, x11, x12, x13, x14, x15, x16, x17⟩ := a
   obtain ⟨a0, a1, a2, a3, a4, a5, a6, a7, a8, a9, a10, a11, a12, a13, a14⟩ := hcells
   simp only [] at a0 a1 a2 a3 a4 a5 a6 a7 a8 a9 a10 a11 a12 a13 a14
   obtain ⟨q, eq⟩ : ∃ q, p k = q := ⟨_, rfl⟩
   rw [eq] at hcall
   have EQ := hid eq
   clear eq
   cases q with
   | true =>
    go_wp2_with (go_at_fn g; refine hcall.mono ?_; rintro e w' ⟨rfl, k1, k2⟩)
    go_ret
    exact ⟨_, rfl, HB.out.1.then_ k1, .inr ⟨k, hlt, rfl, EQ.out, HB.out.2.2, k2⟩⟩
   | false =>
    go_wp2_with (go_at_fn g; refine hcall.mono ?_; rintro e w' ⟨rfl, k1, k2⟩)
    go_roundg (n - (k + 1))
    case measure => omega
    case rel =>
     refine ⟨k + 1, by omega, by go_num, HB.out.1.then_ k1, k2, fun j hj => ?_⟩
     by_cases e : j = k
     ·subst e; exact EQ.out
     ·exact HB.out.2.2 j (by omega)
  ·go_wp2_with fail
   go_ret
   have e : k = n := by omega
   subst e
   exact ⟨_, rfl, HB.out.1, .inl ⟨rfl, HB.out.2.2, HB.out.2.1⟩⟩
theorem containsO_c (g : Nat) (lb : Array Value) (eg : ∀ args w, (callFunc g args).run Tryz.prog w = .ok (.enter g args) w) (X : Nat → Prop) (St : Nat → World → Prop) (p : Nat → Bool) {l : List Or} {ao : Option Addr} {n c : Nat} {w : World}
  (hn : l.length = n) (hmx : n ≤ 4611686018427387904) (hl : LsT encO 15 w ao l) (hX : 0 < n → Offs X ao) (hS0 : St 0 w)
  (hS : ∀ i x u, l[i]? = some x → But X w u → St i u → Calls Tryz.prog g (#[orV x] ++ lb) u fun e v => e = .returned (.bool (p i)) ∧ But X u v ∧ St (i + 1) v) :
  Calls Tryz.prog 32 #[.slice ao n c, .func (.func g) #[] lb] w fun e v => ∃ r, e = .returned (.bool r) ∧ But X w v ∧ ((r = false ∧ (∀ i, i < n → p i = false) ∧ St n v) ∨ (r = true ∧ ∃ i, i < n ∧ p i = true)) := by
 have HC := hid (idxO_c g lb eg X St p (c := c) hn hmx hl hX hS0 hS)
 clear hn hl hX hS hS0
 go_enter Tryz.func32, Tryz.ntmps32
 go_wp2_with fail
 refine HC.out.mono ?_
 rintro e w1 ⟨r, rfl, k1, h⟩
 rcases h with ⟨rfl, h1, h2⟩ | ⟨i, hi, rfl, h1, h2, h3⟩
 ·go_wp2_with fail
  go_ret
  exact ⟨_, rfl, k1, .inl ⟨rfl, h1, h2⟩⟩
 ·go_wp2_with fail
  go_ret
  exact ⟨_, rfl, k1, .inr ⟨by simp, i, hi, h1⟩⟩
def OrsAt (w : World) (ao : Option Addr) (l : List Or) : Prop := LsT encO 15 w ao l ∧ ∀ o ∈ l, OrI o ∧ o.n ≤ 1073741824 ∧ Sl w o.ao o.n o.f
theorem OrsAt.kept {w v : World} {ao : Option Addr} {l : List Or} (h : OrsAt w ao l) (k : Made w.heap.size w v) : OrsAt v ao l :=
 ⟨h.1.kept k, fun o ho => ⟨(h.2 o ho).1, (h.2 o ho).2.1, fun hn => by obtain ⟨b, off, e, hp⟩ := (h.2 o ho).2.2 hn; exact ⟨b, off, e, hp.kept k⟩⟩⟩
end Go.Proofs.YtgdcphmmehedoaaGreat.Fx