/- OrC OrD -/
import Derived.Test.YtgdcphmmehedoaaGreatCb15
set_option maxRecDepth 100000
set_option maxHeartbeats 64000000
/- order.used: the kinds that assign many fields. -/
namespace Go.Proofs.YtgdcphmmehedoaaGreat.Fx
open Go.ChangeShapes Go.WideShapes Go.ChangeAt Go.RowKit
set_option linter.unusedVariables false
theorem used5 (id a b x y vx vy an sp de ln k r : Int) (ao : Option Addr) (n c : Nat) (w : World) :
  Calls Tryz.prog 37 #[.agg #[.int .i64 5, .int .i64 id, .int .i64 a, .int .i64 b, .int .i64 x, .int .i64 y, .int .i64 vx, .int .i64 vy, .int .i64 an, .int .i64 sp, .int .i64 de, .int .i64 ln, .int .i64 k, .int .i64 r, .slice ao n c]] w fun e v => e = .returned (.agg #[.int .i64 5, .int .i64 id, .int .i64 0, .int .i64 0, .int .i64 0, .int .i64 0, .int .i64 vx, .int .i64 vy, .int .i64 0, .int .i64 sp, .int .i64 0, .int .i64 0, .int .i64 0, .int .i64 0, .slice none 0 0]) ∧ Made w.heap.size w v := by
 obtain ⟨W, eW⟩ : ∃ W, W = (w.alloc (.cells #[.int .i64 5, .int .i64 id, .int .i64 a, .int .i64 b, .int .i64 x, .int .i64 y, .int .i64 vx, .int .i64 vy, .int .i64 an, .int .i64 sp, .int .i64 de, .int .i64 ln, .int .i64 k, .int .i64 r, .slice ao n c] 49)).alloc (.cells #[.int .i64 0, .int .i64 0, .int .i64 0, .int .i64 0, .int .i64 0, .int .i64 0, .int .i64 0, .int .i64 0, .int .i64 0, .int .i64 0, .int .i64 0, .int .i64 0, .int .i64 0, .int .i64 0, .slice none 0 0] 49) := ⟨_, rfl⟩
 have KW : Hid (Made w.heap.size w W) := by unfold Hid; rw [eW]; exact ((Made.rfl_ _ _).cells (Nat.le_refl _) _ _).cells (by simp) _ _
 have HB : Hid (Has W w.heap.size 49 #[.int .i64 5, .int .i64 id, .int .i64 a, .int .i64 b, .int .i64 x, .int .i64 y, .int .i64 vx, .int .i64 vy, .int .i64 an, .int .i64 sp, .int .i64 de, .int .i64 ln, .int .i64 k, .int .i64 r, .slice ao n c]) := by unfold Hid; rw [eW]; exact (has_new _ _ _).more _
 have HR : Hid (Has W (w.heap.size + 1) 49 #[.int .i64 0, .int .i64 0, .int .i64 0, .int .i64 0, .int .i64 0, .int .i64 0, .int .i64 0, .int .i64 0, .int .i64 0, .int .i64 0, .int .i64 0, .int .i64 0, .int .i64 0, .int .i64 0, .slice none 0 0]) := by unfold Hid; rw [eW]; exact has_nxt' _ _ _ _
 obtain ⟨g1, eg1⟩ : ∃ g, w.heap.size = g := ⟨_, rfl⟩
 obtain ⟨g2, eg2⟩ : ∃ g, g1 + 1 = g := ⟨_, rfl⟩
 have hw1 : w.heap.size ≤ g1 := Nat.le_of_eq eg1
 have hw2 : w.heap.size ≤ g2 := by omega
 rw [eg1] at HB
 rw [eg1, eg2] at HR
 go_enter Tryz.func37, Tryz.ntmps37
 have b0 := HB.out.at_ 0
 have b1 := HB.out.at_ 1
 have b2 := HB.out.at_ 2
 have b3 := HB.out.at_ 3
 have b4 := HB.out.at_ 4
 have b5 := HB.out.at_ 5
 have b6 := HB.out.at_ 6
 have b7 := HB.out.at_ 7
 have b8 := HB.out.at_ 8
 have b9 := HB.out.at_ 9
 have b10 := HB.out.at_ 10
 have b11 := HB.out.at_ 11
 have b12 := HB.out.at_ 12
 have b13 := HB.out.at_ 13
 have b14 := HB.out.at_ 14
 simp at b0 b1 b2 b3 b4 b5 b6 b7 b8 b9 b10 b11 b12 b13 b14
 have l1 : g1 < W.heap.size := HB.out.here
 have l2 : g2 < W.heap.size := HR.out.here
 go_upto_region 1 with fail
 rw [← eW]
 clear eW
 try rw [eg1]
 try rw [eg2]
 obtain ⟨W1, eW1⟩ : ∃ V, V = W.alloc (.cells #[.int .i64 5, .int .i64 0, .int .i64 0, .int .i64 0, .int .i64 0, .int .i64 0, .int .i64 0, .int .i64 0, .int .i64 0, .int .i64 0, .int .i64 0, .int .i64 0, .int .i64 0, .int .i64 0, .slice none 0 0] 49) := ⟨_, rfl⟩
 have kk1 : Made W.heap.size W W1 := by rw [eW1]; exact (Made.rfl_ _ _).cells (Nat.le_refl _) _ _
 have HU : Hid (Has W1 W.heap.size 49 #[.int .i64 5, .int .i64 0, .int .i64 0, .int .i64 0, .int .i64 0, .int .i64 0, .int .i64 0, .int .i64 0, .int .i64 0, .int .i64 0, .int .i64 0, .int .i64 0, .int .i64 0, .int .i64 0, .slice none 0 0]) := by unfold Hid; rw [eW1]; exact has_new _ _ _
 have K1 := hid (KW.out.then_ (kk1.low KW.out.1.size))
 have HB1 := hid (HB.out.stays kk1 HB.out.here)
 have HR1 := hid (HR.out.stays kk1 HR.out.here)
 obtain ⟨g3, eg3⟩ : ∃ g, W.heap.size = g := ⟨_, rfl⟩
 rw [eg3] at HU
 have h13 : ¬ g1 = g3 := by have := HB.out.here; omega
 have h31 : ¬ g3 = g1 := by omega
 have h23 : ¬ g2 = g3 := by have := HR.out.here; omega
 have h32 : ¬ g3 = g2 := by omega
 have hw3 : w.heap.size ≤ g3 := by have := KW.out.1.size; omega
 clear kk1 eg1 eg2
 go_upto_region 2 with fail
 rw [← eW1]
 clear eW1 b0 b1 b2 b3 b4 b5 b6 b7 b8 b9 b10 b11 b12 b13 b14 l1 l2 HB HR KW
 try rw [eg3]
 clear eg3
 have b0 := HB1.out.at_ 0
 have b1 := HB1.out.at_ 1
 have b2 := HB1.out.at_ 2
 have b3 := HB1.out.at_ 3
 have b4 := HB1.out.at_ 4
 have b5 := HB1.out.at_ 5
 have b6 := HB1.out.at_ 6
 have b7 := HB1.out.at_ 7
 have b8 := HB1.out.at_ 8
 have b9 := HB1.out.at_ 9
 have b10 := HB1.out.at_ 10
 have b11 := HB1.out.at_ 11
 have b12 := HB1.out.at_ 12
 have b13 := HB1.out.at_ 13
 have b14 := HB1.out.at_ 14
 simp at b0 b1 b2 b3 b4 b5 b6 b7 b8 b9 b10 b11 b12 b13 b14
 have l1 : g1 < W1.heap.size := HB1.out.here
 have u0 := HU.out.at_ 0
 have u1 := HU.out.at_ 1
 have u2 := HU.out.at_ 2
 have u3 := HU.out.at_ 3
 have u4 := HU.out.at_ 4
 have u5 := HU.out.at_ 5
 have u6 := HU.out.at_ 6
 have u7 := HU.out.at_ 7
 have u8 := HU.out.at_ 8
 have u9 := HU.out.at_ 9
 have u10 := HU.out.at_ 10
 have u11 := HU.out.at_ 11
 have u12 := HU.out.at_ 12
 have u13 := HU.out.at_ 13
 have u14 := HU.out.at_ 14
 simp at u0 u1 u2 u3 u4 u5 u6 u7 u8 u9 u10 u11 u12 u13 u14
 have l3 : g3 < W1.heap.size := HU.out.here
 have f3 : ∀ i, W1.frozen? ⟨g3, i, none⟩ = false := HU.out.free
 go_upto_region 11 with fail
 obtain ⟨V0, eV0⟩ : ∃ V, V = { W1 with drawn := W1.drawn + 1 } := ⟨_, rfl⟩
 have kv0 : But (fun b => b = g3) W1 V0 := by rw [eV0]; exact (But.rfl_ _ _).draws 1
 have HV0 : Has V0 g3 49 #[.int .i64 5, .int .i64 0, .int .i64 0, .int .i64 0, .int .i64 0, .int .i64 0, .int .i64 0, .int .i64 0, .int .i64 0, .int .i64 0, .int .i64 0, .int .i64 0, .int .i64 0, .int .i64 0, .slice none 0 0] := by rw [eV0]; exact HU.out.drawn 1
 have HC0 : Has V0 g1 49 #[.int .i64 5, .int .i64 id, .int .i64 a, .int .i64 b, .int .i64 x, .int .i64 y, .int .i64 vx, .int .i64 vy, .int .i64 an, .int .i64 sp, .int .i64 de, .int .i64 ln, .int .i64 k, .int .i64 r, .slice ao n c] := HB1.out.but kv0 h13
 obtain ⟨V1, eV1⟩ : ∃ V, V = (V0).setCell ⟨g3, 1, none⟩ (.int .i64 id) := ⟨_, rfl⟩
 have kk1 : But (fun b => b = g3) V0 V1 := by rw [eV1]; exact ((But.rfl_ (fun b => b = g3) V0).put (p := ⟨g3, 1, none⟩) (.inl rfl) _)
 have kv1 := kv0.then_ kk1
 have HV1 : Has V1 g3 49 #[.int .i64 5, .int .i64 id, .int .i64 0, .int .i64 0, .int .i64 0, .int .i64 0, .int .i64 0, .int .i64 0, .int .i64 0, .int .i64 0, .int .i64 0, .int .i64 0, .int .i64 0, .int .i64 0, .slice none 0 0] := by rw [eV1]; exact (HV0.put 1 _)
 have HC1 : Has V1 g1 49 #[.int .i64 5, .int .i64 id, .int .i64 a, .int .i64 b, .int .i64 x, .int .i64 y, .int .i64 vx, .int .i64 vy, .int .i64 an, .int .i64 sp, .int .i64 de, .int .i64 ln, .int .i64 k, .int .i64 r, .slice ao n c] := HC0.but kk1 h13
 clear kk1
 obtain ⟨V2, eV2⟩ : ∃ V, V = ((V1).setCell ⟨g3, 6, none⟩ (.int .i64 vx)).setCell ⟨g3, 7, none⟩ (.int .i64 vy) := ⟨_, rfl⟩
 have kk2 : But (fun b => b = g3) V1 V2 := by rw [eV2]; exact (((But.rfl_ (fun b => b = g3) V1).put (p := ⟨g3, 6, none⟩) (.inl rfl) _).put (p := ⟨g3, 7, none⟩) (.inl rfl) _)
 have kv2 := kv1.then_ kk2
 have HV2 : Has V2 g3 49 #[.int .i64 5, .int .i64 id, .int .i64 0, .int .i64 0, .int .i64 0, .int .i64 0, .int .i64 vx, .int .i64 vy, .int .i64 0, .int .i64 0, .int .i64 0, .int .i64 0, .int .i64 0, .int .i64 0, .slice none 0 0] := by rw [eV2]; exact ((HV1.put 6 _).put 7 _)
 have HC2 : Has V2 g1 49 #[.int .i64 5, .int .i64 id, .int .i64 a, .int .i64 b, .int .i64 x, .int .i64 y, .int .i64 vx, .int .i64 vy, .int .i64 an, .int .i64 sp, .int .i64 de, .int .i64 ln, .int .i64 k, .int .i64 r, .slice ao n c] := HC1.but kk2 h13
 clear kk2
 obtain ⟨V3, eV3⟩ : ∃ V, V = (V2).setCell ⟨g3, 9, none⟩ (.int .i64 sp) := ⟨_, rfl⟩
 have kk3 : But (fun b => b = g3) V2 V3 := by rw [eV3]; exact ((But.rfl_ (fun b => b = g3) V2).put (p := ⟨g3, 9, none⟩) (.inl rfl) _)
 have kv3 := kv2.then_ kk3
 have HV3 : Has V3 g3 49 #[.int .i64 5, .int .i64 id, .int .i64 0, .int .i64 0, .int .i64 0, .int .i64 0, .int .i64 vx, .int .i64 vy, .int .i64 0, .int .i64 sp, .int .i64 0, .int .i64 0, .int .i64 0, .int .i64 0, .slice none 0 0] := by rw [eV3]; exact (HV2.put 9 _)
 have HC3 : Has V3 g1 49 #[.int .i64 5, .int .i64 id, .int .i64 a, .int .i64 b, .int .i64 x, .int .i64 y, .int .i64 vx, .int .i64 vy, .int .i64 an, .int .i64 sp, .int .i64 de, .int .i64 ln, .int .i64 k, .int .i64 r, .slice ao n c] := HC2.but kk3 h13
 clear kk3
 have HBs : ∀ s, Has ([V0, V1, V2].getD s V3) g1 49 #[.int .i64 5, .int .i64 id, .int .i64 a, .int .i64 b, .int .i64 x, .int .i64 y, .int .i64 vx, .int .i64 vy, .int .i64 an, .int .i64 sp, .int .i64 de, .int .i64 ln, .int .i64 k, .int .i64 r, .slice ao n c] := fun s => match s with
  | 0 => HC0
  | 1 => HC1
  | 2 => HC2
  | _ + 3 => HC3
 have s0_1 := HV0.at_ 1
 have lv0 : g3 < V0.heap.size := HV0.here
 have fv0 : ∀ i, V0.frozen? ⟨g3, i, none⟩ = false := HV0.free
 have s1_6 := HV1.at_ 6
 have s1_7 := HV1.at_ 7
 have lv1 : g3 < V1.heap.size := HV1.here
 have fv1 : ∀ i, V1.frozen? ⟨g3, i, none⟩ = false := HV1.free
 have s2_9 := HV2.at_ 9
 have lv2 : g3 < V2.heap.size := HV2.here
 have fv2 : ∀ i, V2.frozen? ⟨g3, i, none⟩ = false := HV2.free
 simp at s0_1 s1_6 s1_7 s2_9
 have EV0 := hid eV0
 have EV1 := hid eV1
 have EV2 := hid eV2
 have EV3 := hid eV3
 have KV := hid kv3
 have HVn := hid HV3
 have HBS := hid HBs
 clear eV0 kv0 HC0 HV0 eV1 kv1 HC1 HV1 eV2 kv2 HC2 HV2 eV3 kv3 HC3 HV3 HBs b0 b1 b2 b3 b4 b5 b6 b7 b8 b9 b10 b11 b12 b13 b14 u0 u1 u2 u3 u4 u5 u6 u7 u8 u9 u10 u11 u12 u13 u14 l1 l3 f3
 refine RS.reg_stores (fun s => [V0, V1, V2].getD s V3) [7, 9, 11] 69 (by kernel_rfl) (by rw [← EV0.out]; rfl) (by kernel_rfl) rfl (by kernel_rfl) (by kernel_rfl) ?_
 apply Exists.intro
 refine ⟨?q1, ?q2, ?q3⟩
 case q1 =>
  intro s Ty hT fw hf
  have z0 : ∀ tt, (fw tt).cell? ⟨g1, 0, none⟩ = some (.int .i64 5) := fun tt => by rw [hf tt]; exact (HBS.out s).at_ 0
  have z1 : ∀ tt, (fw tt).cell? ⟨g1, 1, none⟩ = some (.int .i64 id) := fun tt => by rw [hf tt]; exact (HBS.out s).at_ 1
  have z2 : ∀ tt, (fw tt).cell? ⟨g1, 2, none⟩ = some (.int .i64 a) := fun tt => by rw [hf tt]; exact (HBS.out s).at_ 2
  have z3 : ∀ tt, (fw tt).cell? ⟨g1, 3, none⟩ = some (.int .i64 b) := fun tt => by rw [hf tt]; exact (HBS.out s).at_ 3
  have z4 : ∀ tt, (fw tt).cell? ⟨g1, 4, none⟩ = some (.int .i64 x) := fun tt => by rw [hf tt]; exact (HBS.out s).at_ 4
  have z5 : ∀ tt, (fw tt).cell? ⟨g1, 5, none⟩ = some (.int .i64 y) := fun tt => by rw [hf tt]; exact (HBS.out s).at_ 5
  have z6 : ∀ tt, (fw tt).cell? ⟨g1, 6, none⟩ = some (.int .i64 vx) := fun tt => by rw [hf tt]; exact (HBS.out s).at_ 6
  have z7 : ∀ tt, (fw tt).cell? ⟨g1, 7, none⟩ = some (.int .i64 vy) := fun tt => by rw [hf tt]; exact (HBS.out s).at_ 7
  have z8 : ∀ tt, (fw tt).cell? ⟨g1, 8, none⟩ = some (.int .i64 an) := fun tt => by rw [hf tt]; exact (HBS.out s).at_ 8
  have z9 : ∀ tt, (fw tt).cell? ⟨g1, 9, none⟩ = some (.int .i64 sp) := fun tt => by rw [hf tt]; exact (HBS.out s).at_ 9
  have z10 : ∀ tt, (fw tt).cell? ⟨g1, 10, none⟩ = some (.int .i64 de) := fun tt => by rw [hf tt]; exact (HBS.out s).at_ 10
  have z11 : ∀ tt, (fw tt).cell? ⟨g1, 11, none⟩ = some (.int .i64 ln) := fun tt => by rw [hf tt]; exact (HBS.out s).at_ 11
  have z12 : ∀ tt, (fw tt).cell? ⟨g1, 12, none⟩ = some (.int .i64 k) := fun tt => by rw [hf tt]; exact (HBS.out s).at_ 12
  have z13 : ∀ tt, (fw tt).cell? ⟨g1, 13, none⟩ = some (.int .i64 r) := fun tt => by rw [hf tt]; exact (HBS.out s).at_ 13
  have z14 : ∀ tt, (fw tt).cell? ⟨g1, 14, none⟩ = some (.slice ao n c) := fun tt => by rw [hf tt]; exact (HBS.out s).at_ 14
  clear hf
  simp only [List.filter, Option.isSome]
  repeat (go_big_quiet_step (fail))
  exact wpQuiet_nil rfl
 case q2 =>
  refine ⟨?_, ?_, ?_, trivial⟩
  ·show (∃ x, (execOp _ _).run Tryz.prog V0 = .ok (.value x) V1) ∨ (execOp _ _).run Tryz.prog V0 = .ok .skip V1
   rw [EV1.out]
   first | (refine .inl ⟨undef, ?_⟩; go_simp; done) | (refine .inr ?_; go_simp; done)
  ·show (∃ x, (execOp _ _).run Tryz.prog V1 = .ok (.value x) V2) ∨ (execOp _ _).run Tryz.prog V1 = .ok .skip V2
   rw [EV2.out]
   first | (refine .inl ⟨undef, ?_⟩; go_simp; done) | (refine .inr ?_; go_simp; done)
  ·show (∃ x, (execOp _ _).run Tryz.prog V2 = .ok (.value x) V3) ∨ (execOp _ _).run Tryz.prog V2 = .ok .skip V3
   rw [EV3.out]
   first | (refine .inl ⟨undef, ?_⟩; go_simp; done) | (refine .inr ?_; go_simp; done)
 have eUn : [V0, V1, V2].getD ([7, 9, 11] : List Nat).length V3 = V3 := rfl
 first | rw [eUn] | simp only [eUn]
 clear eUn
 have HU2 := HVn
 have HR2 := hid (HR1.out.but KV.out h23)
 have K2 : Hid (Made w.heap.size w V3) := But.made_ K1.out KV.out K1.out.1.size (fun b hb => by have hb : b = g3 := hb; omega)
 clear HU HR1 HB1 K1 s0_1 s1_6 s1_7 s2_9 lv0 fv0 lv1 fv1 lv2 fv2
 have u0 := HU2.out.at_ 0
 have u1 := HU2.out.at_ 1
 have u2 := HU2.out.at_ 2
 have u3 := HU2.out.at_ 3
 have u4 := HU2.out.at_ 4
 have u5 := HU2.out.at_ 5
 have u6 := HU2.out.at_ 6
 have u7 := HU2.out.at_ 7
 have u8 := HU2.out.at_ 8
 have u9 := HU2.out.at_ 9
 have u10 := HU2.out.at_ 10
 have u11 := HU2.out.at_ 11
 have u12 := HU2.out.at_ 12
 have u13 := HU2.out.at_ 13
 have u14 := HU2.out.at_ 14
 simp at u0 u1 u2 u3 u4 u5 u6 u7 u8 u9 u10 u11 u12 u13 u14
 have l3 : g3 < V3.heap.size := HU2.out.here
 have r_0 := HR2.out.at_ 0
 have r_1 := HR2.out.at_ 1
 have r_2 := HR2.out.at_ 2
 have r_3 := HR2.out.at_ 3
 have r_4 := HR2.out.at_ 4
 have r_5 := HR2.out.at_ 5
 have r_6 := HR2.out.at_ 6
 have r_7 := HR2.out.at_ 7
 have r_8 := HR2.out.at_ 8
 have r_9 := HR2.out.at_ 9
 have r_10 := HR2.out.at_ 10
 have r_11 := HR2.out.at_ 11
 have r_12 := HR2.out.at_ 12
 have r_13 := HR2.out.at_ 13
 have r_14 := HR2.out.at_ 14
 simp at r_0 r_1 r_2 r_3 r_4 r_5 r_6 r_7 r_8 r_9 r_10 r_11 r_12 r_13 r_14
 have l2 : g2 < V3.heap.size := HR2.out.here
 have f2 : ∀ i, V3.frozen? ⟨g2, i, none⟩ = false := HR2.out.free
 go_wp2_with fail
 obtain ⟨W3, eW3⟩ : ∃ V, V = (((((((((((((((V3).setCell ⟨g2, 0, none⟩ (.int .i64 5)).setCell ⟨g2, 1, none⟩ (.int .i64 id)).setCell ⟨g2, 2, none⟩ (.int .i64 0)).setCell ⟨g2, 3, none⟩ (.int .i64 0)).setCell ⟨g2, 4, none⟩ (.int .i64 0)).setCell ⟨g2, 5, none⟩ (.int .i64 0)).setCell ⟨g2, 6, none⟩ (.int .i64 vx)).setCell ⟨g2, 7, none⟩ (.int .i64 vy)).setCell ⟨g2, 8, none⟩ (.int .i64 0)).setCell ⟨g2, 9, none⟩ (.int .i64 sp)).setCell ⟨g2, 10, none⟩ (.int .i64 0)).setCell ⟨g2, 11, none⟩ (.int .i64 0)).setCell ⟨g2, 12, none⟩ (.int .i64 0)).setCell ⟨g2, 13, none⟩ (.int .i64 0)).setCell ⟨g2, 14, none⟩ (.slice none 0 0) := ⟨_, rfl⟩
 have k3 : But (fun b => b = g2) V3 W3 := by rw [eW3]; exact (But.rfl_ (fun b => b = g2) V3).put15 (.inl rfl) _ _ _ _ _ _ _ _ _ _ _ _ _ _ _
 have HR3 : Has W3 g2 49 #[.int .i64 5, .int .i64 id, .int .i64 0, .int .i64 0, .int .i64 0, .int .i64 0, .int .i64 vx, .int .i64 vy, .int .i64 0, .int .i64 sp, .int .i64 0, .int .i64 0, .int .i64 0, .int .i64 0, .slice none 0 0] := by rw [eW3]; exact HR2.out.put15 _ _ _ _ _ _ _ _ _ _ _ _ _ _ _
 have K3 : Made w.heap.size w W3 := But.made_ K2.out k3 K2.out.1.size (fun b hb => by have hb : b = g2 := hb; omega)
 try rw [← eW3]
 clear eW3 u0 u1 u2 u3 u4 u5 u6 u7 u8 u9 u10 u11 u12 u13 u14 l3 r_0 r_1 r_2 r_3 r_4 r_5 r_6 r_7 r_8 r_9 r_10 r_11 r_12 r_13 r_14 l2 f2
 have q0 := HR3.at_ 0
 have q1 := HR3.at_ 1
 have q2 := HR3.at_ 2
 have q3 := HR3.at_ 3
 have q4 := HR3.at_ 4
 have q5 := HR3.at_ 5
 have q6 := HR3.at_ 6
 have q7 := HR3.at_ 7
 have q8 := HR3.at_ 8
 have q9 := HR3.at_ 9
 have q10 := HR3.at_ 10
 have q11 := HR3.at_ 11
 have q12 := HR3.at_ 12
 have q13 := HR3.at_ 13
 have q14 := HR3.at_ 14
 simp at q0 q1 q2 q3 q4 q5 q6 q7 q8 q9 q10 q11 q12 q13 q14
 exact bodyPost_ret (v := .agg #[.int .i64 5, .int .i64 id, .int .i64 0, .int .i64 0, .int .i64 0, .int .i64 0, .int .i64 vx, .int .i64 vy, .int .i64 0, .int .i64 sp, .int .i64 0, .int .i64 0, .int .i64 0, .int .i64 0, .slice none 0 0]) (by simp [results, Tryz.results37, go_sem, q0, q1, q2, q3, q4, q5, q6, q7, q8, q9, q10, q11, q12, q13, q14]) rfl ⟨rfl, by first | exact K3 | exact K3.draws 1⟩
theorem used3 (id a b x y vx vy an sp de ln k r : Int) (ao : Option Addr) (n c : Nat) (w : World) :
  Calls Tryz.prog 37 #[.agg #[.int .i64 3, .int .i64 id, .int .i64 a, .int .i64 b, .int .i64 x, .int .i64 y, .int .i64 vx, .int .i64 vy, .int .i64 an, .int .i64 sp, .int .i64 de, .int .i64 ln, .int .i64 k, .int .i64 r, .slice ao n c]] w fun e v => e = .returned (.agg #[.int .i64 3, .int .i64 0, .int .i64 a, .int .i64 b, .int .i64 x, .int .i64 y, .int .i64 vx, .int .i64 vy, .int .i64 0, .int .i64 0, .int .i64 0, .int .i64 ln, .int .i64 0, .int .i64 0, .slice none 0 0]) ∧ Made w.heap.size w v := by
 obtain ⟨W, eW⟩ : ∃ W, W = (w.alloc (.cells #[.int .i64 3, .int .i64 id, .int .i64 a, .int .i64 b, .int .i64 x, .int .i64 y, .int .i64 vx, .int .i64 vy, .int .i64 an, .int .i64 sp, .int .i64 de, .int .i64 ln, .int .i64 k, .int .i64 r, .slice ao n c] 49)).alloc (.cells #[.int .i64 0, .int .i64 0, .int .i64 0, .int .i64 0, .int .i64 0, .int .i64 0, .int .i64 0, .int .i64 0, .int .i64 0, .int .i64 0, .int .i64 0, .int .i64 0, .int .i64 0, .int .i64 0, .slice none 0 0] 49) := ⟨_, rfl⟩
 have KW : Hid (Made w.heap.size w W) := by unfold Hid; rw [eW]; exact ((Made.rfl_ _ _).cells (Nat.le_refl _) _ _).cells (by simp) _ _
 have HB : Hid (Has W w.heap.size 49 #[.int .i64 3, .int .i64 id, .int .i64 a, .int .i64 b, .int .i64 x, .int .i64 y, .int .i64 vx, .int .i64 vy, .int .i64 an, .int .i64 sp, .int .i64 de, .int .i64 ln, .int .i64 k, .int .i64 r, .slice ao n c]) := by unfold Hid; rw [eW]; exact (has_new _ _ _).more _
 have HR : Hid (Has W (w.heap.size + 1) 49 #[.int .i64 0, .int .i64 0, .int .i64 0, .int .i64 0, .int .i64 0, .int .i64 0, .int .i64 0, .int .i64 0, .int .i64 0, .int .i64 0, .int .i64 0, .int .i64 0, .int .i64 0, .int .i64 0, .slice none 0 0]) := by unfold Hid; rw [eW]; exact has_nxt' _ _ _ _
 obtain ⟨g1, eg1⟩ : ∃ g, w.heap.size = g := ⟨_, rfl⟩
 obtain ⟨g2, eg2⟩ : ∃ g, g1 + 1 = g := ⟨_, rfl⟩
 have hw1 : w.heap.size ≤ g1 := Nat.le_of_eq eg1
 have hw2 : w.heap.size ≤ g2 := by omega
 rw [eg1] at HB
 rw [eg1, eg2] at HR
 go_enter Tryz.func37, Tryz.ntmps37
 have b0 := HB.out.at_ 0
 have b1 := HB.out.at_ 1
 have b2 := HB.out.at_ 2
 have b3 := HB.out.at_ 3
 have b4 := HB.out.at_ 4
 have b5 := HB.out.at_ 5
 have b6 := HB.out.at_ 6
 have b7 := HB.out.at_ 7
 have b8 := HB.out.at_ 8
 have b9 := HB.out.at_ 9
 have b10 := HB.out.at_ 10
 have b11 := HB.out.at_ 11
 have b12 := HB.out.at_ 12
 have b13 := HB.out.at_ 13
 have b14 := HB.out.at_ 14
 simp at b0 b1 b2 b3 b4 b5 b6 b7 b8 b9 b10 b11 b12 b13 b14
 have l1 : g1 < W.heap.size := HB.out.here
 have l2 : g2 < W.heap.size := HR.out.here
 go_upto_region 1 with fail
 rw [← eW]
 clear eW
 try rw [eg1]
 try rw [eg2]
 obtain ⟨W1, eW1⟩ : ∃ V, V = W.alloc (.cells #[.int .i64 3, .int .i64 0, .int .i64 0, .int .i64 0, .int .i64 0, .int .i64 0, .int .i64 0, .int .i64 0, .int .i64 0, .int .i64 0, .int .i64 0, .int .i64 0, .int .i64 0, .int .i64 0, .slice none 0 0] 49) := ⟨_, rfl⟩
 have kk1 : Made W.heap.size W W1 := by rw [eW1]; exact (Made.rfl_ _ _).cells (Nat.le_refl _) _ _
 have HU : Hid (Has W1 W.heap.size 49 #[.int .i64 3, .int .i64 0, .int .i64 0, .int .i64 0, .int .i64 0, .int .i64 0, .int .i64 0, .int .i64 0, .int .i64 0, .int .i64 0, .int .i64 0, .int .i64 0, .int .i64 0, .int .i64 0, .slice none 0 0]) := by unfold Hid; rw [eW1]; exact has_new _ _ _
 have K1 := hid (KW.out.then_ (kk1.low KW.out.1.size))
 have HB1 := hid (HB.out.stays kk1 HB.out.here)
 have HR1 := hid (HR.out.stays kk1 HR.out.here)
 obtain ⟨g3, eg3⟩ : ∃ g, W.heap.size = g := ⟨_, rfl⟩
 rw [eg3] at HU
 have h13 : ¬ g1 = g3 := by have := HB.out.here; omega
 have h31 : ¬ g3 = g1 := by omega
 have h23 : ¬ g2 = g3 := by have := HR.out.here; omega
 have h32 : ¬ g3 = g2 := by omega
 have hw3 : w.heap.size ≤ g3 := by have := KW.out.1.size; omega
 clear kk1 eg1 eg2
 go_upto_region 2 with fail
 rw [← eW1]
 clear eW1 b0 b1 b2 b3 b4 b5 b6 b7 b8 b9 b10 b11 b12 b13 b14 l1 l2 HB HR KW
 try rw [eg3]
 clear eg3
 have b0 := HB1.out.at_ 0
 have b1 := HB1.out.at_ 1
 have b2 := HB1.out.at_ 2
 have b3 := HB1.out.at_ 3
 have b4 := HB1.out.at_ 4
 have b5 := HB1.out.at_ 5
 have b6 := HB1.out.at_ 6
 have b7 := HB1.out.at_ 7
 have b8 := HB1.out.at_ 8
 have b9 := HB1.out.at_ 9
 have b10 := HB1.out.at_ 10
 have b11 := HB1.out.at_ 11
 have b12 := HB1.out.at_ 12
 have b13 := HB1.out.at_ 13
 have b14 := HB1.out.at_ 14
 simp at b0 b1 b2 b3 b4 b5 b6 b7 b8 b9 b10 b11 b12 b13 b14
 have l1 : g1 < W1.heap.size := HB1.out.here
 have u0 := HU.out.at_ 0
 have u1 := HU.out.at_ 1
 have u2 := HU.out.at_ 2
 have u3 := HU.out.at_ 3
 have u4 := HU.out.at_ 4
 have u5 := HU.out.at_ 5
 have u6 := HU.out.at_ 6
 have u7 := HU.out.at_ 7
 have u8 := HU.out.at_ 8
 have u9 := HU.out.at_ 9
 have u10 := HU.out.at_ 10
 have u11 := HU.out.at_ 11
 have u12 := HU.out.at_ 12
 have u13 := HU.out.at_ 13
 have u14 := HU.out.at_ 14
 simp at u0 u1 u2 u3 u4 u5 u6 u7 u8 u9 u10 u11 u12 u13 u14
 have l3 : g3 < W1.heap.size := HU.out.here
 have f3 : ∀ i, W1.frozen? ⟨g3, i, none⟩ = false := HU.out.free
 go_upto_region 9 with fail
 obtain ⟨V0, eV0⟩ : ∃ V, V = { W1 with drawn := W1.drawn + 1 } := ⟨_, rfl⟩
 have kv0 : But (fun b => b = g3) W1 V0 := by rw [eV0]; exact (But.rfl_ _ _).draws 1
 have HV0 : Has V0 g3 49 #[.int .i64 3, .int .i64 0, .int .i64 0, .int .i64 0, .int .i64 0, .int .i64 0, .int .i64 0, .int .i64 0, .int .i64 0, .int .i64 0, .int .i64 0, .int .i64 0, .int .i64 0, .int .i64 0, .slice none 0 0] := by rw [eV0]; exact HU.out.drawn 1
 have HC0 : Has V0 g1 49 #[.int .i64 3, .int .i64 id, .int .i64 a, .int .i64 b, .int .i64 x, .int .i64 y, .int .i64 vx, .int .i64 vy, .int .i64 an, .int .i64 sp, .int .i64 de, .int .i64 ln, .int .i64 k, .int .i64 r, .slice ao n c] := HB1.out.but kv0 h13
 obtain ⟨V1, eV1⟩ : ∃ V, V = (V0).setCell ⟨g3, 2, none⟩ (.int .i64 a) := ⟨_, rfl⟩
 have kk1 : But (fun b => b = g3) V0 V1 := by rw [eV1]; exact ((But.rfl_ (fun b => b = g3) V0).put (p := ⟨g3, 2, none⟩) (.inl rfl) _)
 have kv1 := kv0.then_ kk1
 have HV1 : Has V1 g3 49 #[.int .i64 3, .int .i64 0, .int .i64 a, .int .i64 0, .int .i64 0, .int .i64 0, .int .i64 0, .int .i64 0, .int .i64 0, .int .i64 0, .int .i64 0, .int .i64 0, .int .i64 0, .int .i64 0, .slice none 0 0] := by rw [eV1]; exact (HV0.put 2 _)
 have HC1 : Has V1 g1 49 #[.int .i64 3, .int .i64 id, .int .i64 a, .int .i64 b, .int .i64 x, .int .i64 y, .int .i64 vx, .int .i64 vy, .int .i64 an, .int .i64 sp, .int .i64 de, .int .i64 ln, .int .i64 k, .int .i64 r, .slice ao n c] := HC0.but kk1 h13
 clear kk1
 obtain ⟨V2, eV2⟩ : ∃ V, V = (V1).setCell ⟨g3, 3, none⟩ (.int .i64 b) := ⟨_, rfl⟩
 have kk2 : But (fun b => b = g3) V1 V2 := by rw [eV2]; exact ((But.rfl_ (fun b => b = g3) V1).put (p := ⟨g3, 3, none⟩) (.inl rfl) _)
 have kv2 := kv1.then_ kk2
 have HV2 : Has V2 g3 49 #[.int .i64 3, .int .i64 0, .int .i64 a, .int .i64 b, .int .i64 0, .int .i64 0, .int .i64 0, .int .i64 0, .int .i64 0, .int .i64 0, .int .i64 0, .int .i64 0, .int .i64 0, .int .i64 0, .slice none 0 0] := by rw [eV2]; exact (HV1.put 3 _)
 have HC2 : Has V2 g1 49 #[.int .i64 3, .int .i64 id, .int .i64 a, .int .i64 b, .int .i64 x, .int .i64 y, .int .i64 vx, .int .i64 vy, .int .i64 an, .int .i64 sp, .int .i64 de, .int .i64 ln, .int .i64 k, .int .i64 r, .slice ao n c] := HC1.but kk2 h13
 clear kk2
 obtain ⟨V3, eV3⟩ : ∃ V, V = ((V2).setCell ⟨g3, 4, none⟩ (.int .i64 x)).setCell ⟨g3, 5, none⟩ (.int .i64 y) := ⟨_, rfl⟩
 have kk3 : But (fun b => b = g3) V2 V3 := by rw [eV3]; exact (((But.rfl_ (fun b => b = g3) V2).put (p := ⟨g3, 4, none⟩) (.inl rfl) _).put (p := ⟨g3, 5, none⟩) (.inl rfl) _)
 have kv3 := kv2.then_ kk3
 have HV3 : Has V3 g3 49 #[.int .i64 3, .int .i64 0, .int .i64 a, .int .i64 b, .int .i64 x, .int .i64 y, .int .i64 0, .int .i64 0, .int .i64 0, .int .i64 0, .int .i64 0, .int .i64 0, .int .i64 0, .int .i64 0, .slice none 0 0] := by rw [eV3]; exact ((HV2.put 4 _).put 5 _)
 have HC3 : Has V3 g1 49 #[.int .i64 3, .int .i64 id, .int .i64 a, .int .i64 b, .int .i64 x, .int .i64 y, .int .i64 vx, .int .i64 vy, .int .i64 an, .int .i64 sp, .int .i64 de, .int .i64 ln, .int .i64 k, .int .i64 r, .slice ao n c] := HC2.but kk3 h13
 clear kk3
 obtain ⟨V4, eV4⟩ : ∃ V, V = ((V3).setCell ⟨g3, 6, none⟩ (.int .i64 vx)).setCell ⟨g3, 7, none⟩ (.int .i64 vy) := ⟨_, rfl⟩
 have kk4 : But (fun b => b = g3) V3 V4 := by rw [eV4]; exact (((But.rfl_ (fun b => b = g3) V3).put (p := ⟨g3, 6, none⟩) (.inl rfl) _).put (p := ⟨g3, 7, none⟩) (.inl rfl) _)
 have kv4 := kv3.then_ kk4
 have HV4 : Has V4 g3 49 #[.int .i64 3, .int .i64 0, .int .i64 a, .int .i64 b, .int .i64 x, .int .i64 y, .int .i64 vx, .int .i64 vy, .int .i64 0, .int .i64 0, .int .i64 0, .int .i64 0, .int .i64 0, .int .i64 0, .slice none 0 0] := by rw [eV4]; exact ((HV3.put 6 _).put 7 _)
 have HC4 : Has V4 g1 49 #[.int .i64 3, .int .i64 id, .int .i64 a, .int .i64 b, .int .i64 x, .int .i64 y, .int .i64 vx, .int .i64 vy, .int .i64 an, .int .i64 sp, .int .i64 de, .int .i64 ln, .int .i64 k, .int .i64 r, .slice ao n c] := HC3.but kk4 h13
 clear kk4
 obtain ⟨V5, eV5⟩ : ∃ V, V = (V4).setCell ⟨g3, 11, none⟩ (.int .i64 ln) := ⟨_, rfl⟩
 have kk5 : But (fun b => b = g3) V4 V5 := by rw [eV5]; exact ((But.rfl_ (fun b => b = g3) V4).put (p := ⟨g3, 11, none⟩) (.inl rfl) _)
 have kv5 := kv4.then_ kk5
 have HV5 : Has V5 g3 49 #[.int .i64 3, .int .i64 0, .int .i64 a, .int .i64 b, .int .i64 x, .int .i64 y, .int .i64 vx, .int .i64 vy, .int .i64 0, .int .i64 0, .int .i64 0, .int .i64 ln, .int .i64 0, .int .i64 0, .slice none 0 0] := by rw [eV5]; exact (HV4.put 11 _)
 have HC5 : Has V5 g1 49 #[.int .i64 3, .int .i64 id, .int .i64 a, .int .i64 b, .int .i64 x, .int .i64 y, .int .i64 vx, .int .i64 vy, .int .i64 an, .int .i64 sp, .int .i64 de, .int .i64 ln, .int .i64 k, .int .i64 r, .slice ao n c] := HC4.but kk5 h13
 clear kk5
 have HBs : ∀ s, Has ([V0, V1, V2, V3, V4].getD s V5) g1 49 #[.int .i64 3, .int .i64 id, .int .i64 a, .int .i64 b, .int .i64 x, .int .i64 y, .int .i64 vx, .int .i64 vy, .int .i64 an, .int .i64 sp, .int .i64 de, .int .i64 ln, .int .i64 k, .int .i64 r, .slice ao n c] := fun s => match s with
  | 0 => HC0
  | 1 => HC1
  | 2 => HC2
  | 3 => HC3
  | 4 => HC4
  | _ + 5 => HC5
 have s0_2 := HV0.at_ 2
 have lv0 : g3 < V0.heap.size := HV0.here
 have fv0 : ∀ i, V0.frozen? ⟨g3, i, none⟩ = false := HV0.free
 have s1_3 := HV1.at_ 3
 have lv1 : g3 < V1.heap.size := HV1.here
 have fv1 : ∀ i, V1.frozen? ⟨g3, i, none⟩ = false := HV1.free
 have s2_4 := HV2.at_ 4
 have s2_5 := HV2.at_ 5
 have lv2 : g3 < V2.heap.size := HV2.here
 have fv2 : ∀ i, V2.frozen? ⟨g3, i, none⟩ = false := HV2.free
 have s3_6 := HV3.at_ 6
 have s3_7 := HV3.at_ 7
 have lv3 : g3 < V3.heap.size := HV3.here
 have fv3 : ∀ i, V3.frozen? ⟨g3, i, none⟩ = false := HV3.free
 have s4_11 := HV4.at_ 11
 have lv4 : g3 < V4.heap.size := HV4.here
 have fv4 : ∀ i, V4.frozen? ⟨g3, i, none⟩ = false := HV4.free
 simp at s0_2 s1_3 s2_4 s2_5 s3_6 s3_7 s4_11
 have EV0 := hid eV0
 have EV1 := hid eV1
 have EV2 := hid eV2
 have EV3 := hid eV3
 have EV4 := hid eV4
 have EV5 := hid eV5
 have KV := hid kv5
 have HVn := hid HV5
 have HBS := hid HBs
 clear eV0 kv0 HC0 HV0 eV1 kv1 HC1 HV1 eV2 kv2 HC2 HV2 eV3 kv3 HC3 HV3 eV4 kv4 HC4 HV4 eV5 kv5 HC5 HV5 HBs b0 b1 b2 b3 b4 b5 b6 b7 b8 b9 b10 b11 b12 b13 b14 u0 u1 u2 u3 u4 u5 u6 u7 u8 u9 u10 u11 u12 u13 u14 l1 l3 f3
 refine RS.reg_stores (fun s => [V0, V1, V2, V3, V4].getD s V5) [11, 13, 15, 17, 19] 69 (by kernel_rfl) (by rw [← EV0.out]; rfl) (by kernel_rfl) rfl (by kernel_rfl) (by kernel_rfl) ?_
 apply Exists.intro
 refine ⟨?q1, ?q2, ?q3⟩
 case q1 =>
  intro s Ty hT fw hf
  have z0 : ∀ tt, (fw tt).cell? ⟨g1, 0, none⟩ = some (.int .i64 3) := fun tt => by rw [hf tt]; exact (HBS.out s).at_ 0
  have z1 : ∀ tt, (fw tt).cell? ⟨g1, 1, none⟩ = some (.int .i64 id) := fun tt => by rw [hf tt]; exact (HBS.out s).at_ 1
  have z2 : ∀ tt, (fw tt).cell? ⟨g1, 2, none⟩ = some (.int .i64 a) := fun tt => by rw [hf tt]; exact (HBS.out s).at_ 2
  have z3 : ∀ tt, (fw tt).cell? ⟨g1, 3, none⟩ = some (.int .i64 b) := fun tt => by rw [hf tt]; exact (HBS.out s).at_ 3
  have z4 : ∀ tt, (fw tt).cell? ⟨g1, 4, none⟩ = some (.int .i64 x) := fun tt => by rw [hf tt]; exact (HBS.out s).at_ 4
  have z5 : ∀ tt, (fw tt).cell? ⟨g1, 5, none⟩ = some (.int .i64 y) := fun tt => by rw [hf tt]; exact (HBS.out s).at_ 5
  have z6 : ∀ tt, (fw tt).cell? ⟨g1, 6, none⟩ = some (.int .i64 vx) := fun tt => by rw [hf tt]; exact (HBS.out s).at_ 6
  have z7 : ∀ tt, (fw tt).cell? ⟨g1, 7, none⟩ = some (.int .i64 vy) := fun tt => by rw [hf tt]; exact (HBS.out s).at_ 7
  have z8 : ∀ tt, (fw tt).cell? ⟨g1, 8, none⟩ = some (.int .i64 an) := fun tt => by rw [hf tt]; exact (HBS.out s).at_ 8
  have z9 : ∀ tt, (fw tt).cell? ⟨g1, 9, none⟩ = some (.int .i64 sp) := fun tt => by rw [hf tt]; exact (HBS.out s).at_ 9
  have z10 : ∀ tt, (fw tt).cell? ⟨g1, 10, none⟩ = some (.int .i64 de) := fun tt => by rw [hf tt]; exact (HBS.out s).at_ 10
  have z11 : ∀ tt, (fw tt).cell? ⟨g1, 11, none⟩ = some (.int .i64 ln) := fun tt => by rw [hf tt]; exact (HBS.out s).at_ 11
  have z12 : ∀ tt, (fw tt).cell? ⟨g1, 12, none⟩ = some (.int .i64 k) := fun tt => by rw [hf tt]; exact (HBS.out s).at_ 12
  have z13 : ∀ tt, (fw tt).cell? ⟨g1, 13, none⟩ = some (.int .i64 r) := fun tt => by rw [hf tt]; exact (HBS.out s).at_ 13
  have z14 : ∀ tt, (fw tt).cell? ⟨g1, 14, none⟩ = some (.slice ao n c) := fun tt => by rw [hf tt]; exact (HBS.out s).at_ 14
  clear hf
  simp only [List.filter, Option.isSome]
  repeat (go_big_quiet_step (fail))
  exact wpQuiet_nil rfl
 case q2 =>
  refine ⟨?_, ?_, ?_, ?_, ?_, trivial⟩
  ·show (∃ x, (execOp _ _).run Tryz.prog V0 = .ok (.value x) V1) ∨ (execOp _ _).run Tryz.prog V0 = .ok .skip V1
   rw [EV1.out]
   first | (refine .inl ⟨undef, ?_⟩; go_simp; done) | (refine .inr ?_; go_simp; done)
  ·show (∃ x, (execOp _ _).run Tryz.prog V1 = .ok (.value x) V2) ∨ (execOp _ _).run Tryz.prog V1 = .ok .skip V2
   rw [EV2.out]
   first | (refine .inl ⟨undef, ?_⟩; go_simp; done) | (refine .inr ?_; go_simp; done)
  ·show (∃ x, (execOp _ _).run Tryz.prog V2 = .ok (.value x) V3) ∨ (execOp _ _).run Tryz.prog V2 = .ok .skip V3
   rw [EV3.out]
   first | (refine .inl ⟨undef, ?_⟩; go_simp; done) | (refine .inr ?_; go_simp; done)
  ·show (∃ x, (execOp _ _).run Tryz.prog V3 = .ok (.value x) V4) ∨ (execOp _ _).run Tryz.prog V3 = .ok .skip V4
   rw [EV4.out]
   first | (refine .inl ⟨undef, ?_⟩; go_simp; done) | (refine .inr ?_; go_simp; done)
  ·show (∃ x, (execOp _ _).run Tryz.prog V4 = .ok (.value x) V5) ∨ (execOp _ _).run Tryz.prog V4 = .ok .skip V5
   rw [EV5.out]
   first | (refine .inl ⟨undef, ?_⟩; go_simp; done) | (refine .inr ?_; go_simp; done)
 have eUn : [V0, V1, V2, V3, V4].getD ([11, 13, 15, 17, 19] : List Nat).length V5 = V5 := rfl
 first | rw [eUn] | simp only [eUn]
 clear eUn
 have HU2 := HVn
 have HR2 := hid (HR1.out.but KV.out h23)
 have K2 : Hid (Made w.heap.size w V5) := But.made_ K1.out KV.out K1.out.1.size (fun b hb => by have hb : b = g3 := hb; omega)
 clear HU HR1 HB1 K1 s0_2 s1_3 s2_4 s2_5 s3_6 s3_7 s4_11 lv0 fv0 lv1 fv1 lv2 fv2 lv3 fv3 lv4 fv4
 have u0 := HU2.out.at_ 0
 have u1 := HU2.out.at_ 1
 have u2 := HU2.out.at_ 2
 have u3 := HU2.out.at_ 3
 have u4 := HU2.out.at_ 4
 have u5 := HU2.out.at_ 5
 have u6 := HU2.out.at_ 6
 have u7 := HU2.out.at_ 7
 have u8 := HU2.out.at_ 8
 have u9 := HU2.out.at_ 9
 have u10 := HU2.out.at_ 10
 have u11 := HU2.out.at_ 11
 have u12 := HU2.out.at_ 12
 have u13 := HU2.out.at_ 13
 have u14 := HU2.out.at_ 14
 simp at u0 u1 u2 u3 u4 u5 u6 u7 u8 u9 u10 u11 u12 u13 u14
 have l3 : g3 < V5.heap.size := HU2.out.here
 have r_0 := HR2.out.at_ 0
 have r_1 := HR2.out.at_ 1
 have r_2 := HR2.out.at_ 2
 have r_3 := HR2.out.at_ 3
 have r_4 := HR2.out.at_ 4
 have r_5 := HR2.out.at_ 5
 have r_6 := HR2.out.at_ 6
 have r_7 := HR2.out.at_ 7
 have r_8 := HR2.out.at_ 8
 have r_9 := HR2.out.at_ 9
 have r_10 := HR2.out.at_ 10
 have r_11 := HR2.out.at_ 11
 have r_12 := HR2.out.at_ 12
 have r_13 := HR2.out.at_ 13
 have r_14 := HR2.out.at_ 14
 simp at r_0 r_1 r_2 r_3 r_4 r_5 r_6 r_7 r_8 r_9 r_10 r_11 r_12 r_13 r_14
 have l2 : g2 < V5.heap.size := HR2.out.here
 have f2 : ∀ i, V5.frozen? ⟨g2, i, none⟩ = false := HR2.out.free
 go_wp2_with fail
 obtain ⟨W3, eW3⟩ : ∃ V, V = (((((((((((((((V5).setCell ⟨g2, 0, none⟩ (.int .i64 3)).setCell ⟨g2, 1, none⟩ (.int .i64 0)).setCell ⟨g2, 2, none⟩ (.int .i64 a)).setCell ⟨g2, 3, none⟩ (.int .i64 b)).setCell ⟨g2, 4, none⟩ (.int .i64 x)).setCell ⟨g2, 5, none⟩ (.int .i64 y)).setCell ⟨g2, 6, none⟩ (.int .i64 vx)).setCell ⟨g2, 7, none⟩ (.int .i64 vy)).setCell ⟨g2, 8, none⟩ (.int .i64 0)).setCell ⟨g2, 9, none⟩ (.int .i64 0)).setCell ⟨g2, 10, none⟩ (.int .i64 0)).setCell ⟨g2, 11, none⟩ (.int .i64 ln)).setCell ⟨g2, 12, none⟩ (.int .i64 0)).setCell ⟨g2, 13, none⟩ (.int .i64 0)).setCell ⟨g2, 14, none⟩ (.slice none 0 0) := ⟨_, rfl⟩
 have k3 : But (fun b => b = g2) V5 W3 := by rw [eW3]; exact (But.rfl_ (fun b => b = g2) V5).put15 (.inl rfl) _ _ _ _ _ _ _ _ _ _ _ _ _ _ _
 have HR3 : Has W3 g2 49 #[.int .i64 3, .int .i64 0, .int .i64 a, .int .i64 b, .int .i64 x, .int .i64 y, .int .i64 vx, .int .i64 vy, .int .i64 0, .int .i64 0, .int .i64 0, .int .i64 ln, .int .i64 0, .int .i64 0, .slice none 0 0] := by rw [eW3]; exact HR2.out.put15 _ _ _ _ _ _ _ _ _ _ _ _ _ _ _
 have K3 : Made w.heap.size w W3 := But.made_ K2.out k3 K2.out.1.size (fun b hb => by have hb : b = g2 := hb; omega)
 try rw [← eW3]
 clear eW3 u0 u1 u2 u3 u4 u5 u6 u7 u8 u9 u10 u11 u12 u13 u14 l3 r_0 r_1 r_2 r_3 r_4 r_5 r_6 r_7 r_8 r_9 r_10 r_11 r_12 r_13 r_14 l2 f2
 have q0 := HR3.at_ 0
 have q1 := HR3.at_ 1
 have q2 := HR3.at_ 2
 have q3 := HR3.at_ 3
 have q4 := HR3.at_ 4
 have q5 := HR3.at_ 5
 have q6 := HR3.at_ 6
 have q7 := HR3.at_ 7
 have q8 := HR3.at_ 8
 have q9 := HR3.at_ 9
 have q10 := HR3.at_ 10
 have q11 := HR3.at_ 11
 have q12 := HR3.at_ 12
 have q13 := HR3.at_ 13
 have q14 := HR3.at_ 14
 simp at q0 q1 q2 q3 q4 q5 q6 q7 q8 q9 q10 q11 q12 q13 q14
 exact bodyPost_ret (v := .agg #[.int .i64 3, .int .i64 0, .int .i64 a, .int .i64 b, .int .i64 x, .int .i64 y, .int .i64 vx, .int .i64 vy, .int .i64 0, .int .i64 0, .int .i64 0, .int .i64 ln, .int .i64 0, .int .i64 0, .slice none 0 0]) (by simp [results, Tryz.results37, go_sem, q0, q1, q2, q3, q4, q5, q6, q7, q8, q9, q10, q11, q12, q13, q14]) rfl ⟨rfl, by first | exact K3 | exact K3.draws 1⟩
end Go.Proofs.YtgdcphmmehedoaaGreat.Fx
/- order.used: an AddBody. -/
namespace Go.Proofs.YtgdcphmmehedoaaGreat.Fx
open Go.ChangeShapes Go.WideShapes Go.ChangeAt Go.RowKit
set_option linter.unusedVariables false
theorem used1 (id a b x y vx vy an sp de ln k r : Int) (ao : Option Addr) (n c : Nat) (w : World) :
  Calls Tryz.prog 37 #[.agg #[.int .i64 1, .int .i64 id, .int .i64 a, .int .i64 b, .int .i64 x, .int .i64 y, .int .i64 vx, .int .i64 vy, .int .i64 an, .int .i64 sp, .int .i64 de, .int .i64 ln, .int .i64 k, .int .i64 r, .slice ao n c]] w fun e v => e = .returned (.agg #[.int .i64 1, .int .i64 0, .int .i64 0, .int .i64 0, .int .i64 x, .int .i64 y, .int .i64 vx, .int .i64 vy, .int .i64 an, .int .i64 sp, .int .i64 de, .int .i64 0, .int .i64 k, .int .i64 r, .slice ao n c]) ∧ Made w.heap.size w v := by
 obtain ⟨W, eW⟩ : ∃ W, W = (w.alloc (.cells #[.int .i64 1, .int .i64 id, .int .i64 a, .int .i64 b, .int .i64 x, .int .i64 y, .int .i64 vx, .int .i64 vy, .int .i64 an, .int .i64 sp, .int .i64 de, .int .i64 ln, .int .i64 k, .int .i64 r, .slice ao n c] 49)).alloc (.cells #[.int .i64 0, .int .i64 0, .int .i64 0, .int .i64 0, .int .i64 0, .int .i64 0, .int .i64 0, .int .i64 0, .int .i64 0, .int .i64 0, .int .i64 0, .int .i64 0, .int .i64 0, .int .i64 0, .slice none 0 0] 49) := ⟨_, rfl⟩
 have KW : Hid (Made w.heap.size w W) := by unfold Hid; rw [eW]; exact ((Made.rfl_ _ _).cells (Nat.le_refl _) _ _).cells (by simp) _ _
 have HB : Hid (Has W w.heap.size 49 #[.int .i64 1, .int .i64 id, .int .i64 a, .int .i64 b, .int .i64 x, .int .i64 y, .int .i64 vx, .int .i64 vy, .int .i64 an, .int .i64 sp, .int .i64 de, .int .i64 ln, .int .i64 k, .int .i64 r, .slice ao n c]) := by unfold Hid; rw [eW]; exact (has_new _ _ _).more _
 have HR : Hid (Has W (w.heap.size + 1) 49 #[.int .i64 0, .int .i64 0, .int .i64 0, .int .i64 0, .int .i64 0, .int .i64 0, .int .i64 0, .int .i64 0, .int .i64 0, .int .i64 0, .int .i64 0, .int .i64 0, .int .i64 0, .int .i64 0, .slice none 0 0]) := by unfold Hid; rw [eW]; exact has_nxt' _ _ _ _
 obtain ⟨g1, eg1⟩ : ∃ g, w.heap.size = g := ⟨_, rfl⟩
 obtain ⟨g2, eg2⟩ : ∃ g, g1 + 1 = g := ⟨_, rfl⟩
 have hw1 : w.heap.size ≤ g1 := Nat.le_of_eq eg1
 have hw2 : w.heap.size ≤ g2 := by omega
 rw [eg1] at HB
 rw [eg1, eg2] at HR
 go_enter Tryz.func37, Tryz.ntmps37
 have b0 := HB.out.at_ 0
 have b1 := HB.out.at_ 1
 have b2 := HB.out.at_ 2
 have b3 := HB.out.at_ 3
 have b4 := HB.out.at_ 4
 have b5 := HB.out.at_ 5
 have b6 := HB.out.at_ 6
 have b7 := HB.out.at_ 7
 have b8 := HB.out.at_ 8
 have b9 := HB.out.at_ 9
 have b10 := HB.out.at_ 10
 have b11 := HB.out.at_ 11
 have b12 := HB.out.at_ 12
 have b13 := HB.out.at_ 13
 have b14 := HB.out.at_ 14
 simp at b0 b1 b2 b3 b4 b5 b6 b7 b8 b9 b10 b11 b12 b13 b14
 have l1 : g1 < W.heap.size := HB.out.here
 have l2 : g2 < W.heap.size := HR.out.here
 go_upto_region 1 with fail
 rw [← eW]
 clear eW
 try rw [eg1]
 try rw [eg2]
 obtain ⟨W1, eW1⟩ : ∃ V, V = W.alloc (.cells #[.int .i64 1, .int .i64 0, .int .i64 0, .int .i64 0, .int .i64 0, .int .i64 0, .int .i64 0, .int .i64 0, .int .i64 0, .int .i64 0, .int .i64 0, .int .i64 0, .int .i64 0, .int .i64 0, .slice none 0 0] 49) := ⟨_, rfl⟩
 have kk1 : Made W.heap.size W W1 := by rw [eW1]; exact (Made.rfl_ _ _).cells (Nat.le_refl _) _ _
 have HU : Hid (Has W1 W.heap.size 49 #[.int .i64 1, .int .i64 0, .int .i64 0, .int .i64 0, .int .i64 0, .int .i64 0, .int .i64 0, .int .i64 0, .int .i64 0, .int .i64 0, .int .i64 0, .int .i64 0, .int .i64 0, .int .i64 0, .slice none 0 0]) := by unfold Hid; rw [eW1]; exact has_new _ _ _
 have K1 := hid (KW.out.then_ (kk1.low KW.out.1.size))
 have HB1 := hid (HB.out.stays kk1 HB.out.here)
 have HR1 := hid (HR.out.stays kk1 HR.out.here)
 obtain ⟨g3, eg3⟩ : ∃ g, W.heap.size = g := ⟨_, rfl⟩
 rw [eg3] at HU
 have h13 : ¬ g1 = g3 := by have := HB.out.here; omega
 have h31 : ¬ g3 = g1 := by omega
 have h23 : ¬ g2 = g3 := by have := HR.out.here; omega
 have h32 : ¬ g3 = g2 := by omega
 have hw3 : w.heap.size ≤ g3 := by have := KW.out.1.size; omega
 clear kk1 eg1 eg2
 go_upto_region 2 with fail
 rw [← eW1]
 clear eW1 b0 b1 b2 b3 b4 b5 b6 b7 b8 b9 b10 b11 b12 b13 b14 l1 l2 HB HR KW
 try rw [eg3]
 clear eg3
 have b0 := HB1.out.at_ 0
 have b1 := HB1.out.at_ 1
 have b2 := HB1.out.at_ 2
 have b3 := HB1.out.at_ 3
 have b4 := HB1.out.at_ 4
 have b5 := HB1.out.at_ 5
 have b6 := HB1.out.at_ 6
 have b7 := HB1.out.at_ 7
 have b8 := HB1.out.at_ 8
 have b9 := HB1.out.at_ 9
 have b10 := HB1.out.at_ 10
 have b11 := HB1.out.at_ 11
 have b12 := HB1.out.at_ 12
 have b13 := HB1.out.at_ 13
 have b14 := HB1.out.at_ 14
 simp at b0 b1 b2 b3 b4 b5 b6 b7 b8 b9 b10 b11 b12 b13 b14
 have l1 : g1 < W1.heap.size := HB1.out.here
 have u0 := HU.out.at_ 0
 have u1 := HU.out.at_ 1
 have u2 := HU.out.at_ 2
 have u3 := HU.out.at_ 3
 have u4 := HU.out.at_ 4
 have u5 := HU.out.at_ 5
 have u6 := HU.out.at_ 6
 have u7 := HU.out.at_ 7
 have u8 := HU.out.at_ 8
 have u9 := HU.out.at_ 9
 have u10 := HU.out.at_ 10
 have u11 := HU.out.at_ 11
 have u12 := HU.out.at_ 12
 have u13 := HU.out.at_ 13
 have u14 := HU.out.at_ 14
 simp at u0 u1 u2 u3 u4 u5 u6 u7 u8 u9 u10 u11 u12 u13 u14
 have l3 : g3 < W1.heap.size := HU.out.here
 have f3 : ∀ i, W1.frozen? ⟨g3, i, none⟩ = false := HU.out.free
 go_upto_region 4 with fail
 obtain ⟨V0, eV0⟩ : ∃ V, V = { W1 with drawn := W1.drawn + 1 } := ⟨_, rfl⟩
 have kv0 : But (fun b => b = g3) W1 V0 := by rw [eV0]; exact (But.rfl_ _ _).draws 1
 have HV0 : Has V0 g3 49 #[.int .i64 1, .int .i64 0, .int .i64 0, .int .i64 0, .int .i64 0, .int .i64 0, .int .i64 0, .int .i64 0, .int .i64 0, .int .i64 0, .int .i64 0, .int .i64 0, .int .i64 0, .int .i64 0, .slice none 0 0] := by rw [eV0]; exact HU.out.drawn 1
 have HC0 : Has V0 g1 49 #[.int .i64 1, .int .i64 id, .int .i64 a, .int .i64 b, .int .i64 x, .int .i64 y, .int .i64 vx, .int .i64 vy, .int .i64 an, .int .i64 sp, .int .i64 de, .int .i64 ln, .int .i64 k, .int .i64 r, .slice ao n c] := HB1.out.but kv0 h13
 obtain ⟨V1, eV1⟩ : ∃ V, V = ((V0).setCell ⟨g3, 4, none⟩ (.int .i64 x)).setCell ⟨g3, 5, none⟩ (.int .i64 y) := ⟨_, rfl⟩
 have kk1 : But (fun b => b = g3) V0 V1 := by rw [eV1]; exact (((But.rfl_ (fun b => b = g3) V0).put (p := ⟨g3, 4, none⟩) (.inl rfl) _).put (p := ⟨g3, 5, none⟩) (.inl rfl) _)
 have kv1 := kv0.then_ kk1
 have HV1 : Has V1 g3 49 #[.int .i64 1, .int .i64 0, .int .i64 0, .int .i64 0, .int .i64 x, .int .i64 y, .int .i64 0, .int .i64 0, .int .i64 0, .int .i64 0, .int .i64 0, .int .i64 0, .int .i64 0, .int .i64 0, .slice none 0 0] := by rw [eV1]; exact ((HV0.put 4 _).put 5 _)
 have HC1 : Has V1 g1 49 #[.int .i64 1, .int .i64 id, .int .i64 a, .int .i64 b, .int .i64 x, .int .i64 y, .int .i64 vx, .int .i64 vy, .int .i64 an, .int .i64 sp, .int .i64 de, .int .i64 ln, .int .i64 k, .int .i64 r, .slice ao n c] := HC0.but kk1 h13
 clear kk1
 obtain ⟨V2, eV2⟩ : ∃ V, V = ((V1).setCell ⟨g3, 6, none⟩ (.int .i64 vx)).setCell ⟨g3, 7, none⟩ (.int .i64 vy) := ⟨_, rfl⟩
 have kk2 : But (fun b => b = g3) V1 V2 := by rw [eV2]; exact (((But.rfl_ (fun b => b = g3) V1).put (p := ⟨g3, 6, none⟩) (.inl rfl) _).put (p := ⟨g3, 7, none⟩) (.inl rfl) _)
 have kv2 := kv1.then_ kk2
 have HV2 : Has V2 g3 49 #[.int .i64 1, .int .i64 0, .int .i64 0, .int .i64 0, .int .i64 x, .int .i64 y, .int .i64 vx, .int .i64 vy, .int .i64 0, .int .i64 0, .int .i64 0, .int .i64 0, .int .i64 0, .int .i64 0, .slice none 0 0] := by rw [eV2]; exact ((HV1.put 6 _).put 7 _)
 have HC2 : Has V2 g1 49 #[.int .i64 1, .int .i64 id, .int .i64 a, .int .i64 b, .int .i64 x, .int .i64 y, .int .i64 vx, .int .i64 vy, .int .i64 an, .int .i64 sp, .int .i64 de, .int .i64 ln, .int .i64 k, .int .i64 r, .slice ao n c] := HC1.but kk2 h13
 clear kk2
 obtain ⟨V3, eV3⟩ : ∃ V, V = (V2).setCell ⟨g3, 8, none⟩ (.int .i64 an) := ⟨_, rfl⟩
 have kk3 : But (fun b => b = g3) V2 V3 := by rw [eV3]; exact ((But.rfl_ (fun b => b = g3) V2).put (p := ⟨g3, 8, none⟩) (.inl rfl) _)
 have kv3 := kv2.then_ kk3
 have HV3 : Has V3 g3 49 #[.int .i64 1, .int .i64 0, .int .i64 0, .int .i64 0, .int .i64 x, .int .i64 y, .int .i64 vx, .int .i64 vy, .int .i64 an, .int .i64 0, .int .i64 0, .int .i64 0, .int .i64 0, .int .i64 0, .slice none 0 0] := by rw [eV3]; exact (HV2.put 8 _)
 have HC3 : Has V3 g1 49 #[.int .i64 1, .int .i64 id, .int .i64 a, .int .i64 b, .int .i64 x, .int .i64 y, .int .i64 vx, .int .i64 vy, .int .i64 an, .int .i64 sp, .int .i64 de, .int .i64 ln, .int .i64 k, .int .i64 r, .slice ao n c] := HC2.but kk3 h13
 clear kk3
 obtain ⟨V4, eV4⟩ : ∃ V, V = (V3).setCell ⟨g3, 9, none⟩ (.int .i64 sp) := ⟨_, rfl⟩
 have kk4 : But (fun b => b = g3) V3 V4 := by rw [eV4]; exact ((But.rfl_ (fun b => b = g3) V3).put (p := ⟨g3, 9, none⟩) (.inl rfl) _)
 have kv4 := kv3.then_ kk4
 have HV4 : Has V4 g3 49 #[.int .i64 1, .int .i64 0, .int .i64 0, .int .i64 0, .int .i64 x, .int .i64 y, .int .i64 vx, .int .i64 vy, .int .i64 an, .int .i64 sp, .int .i64 0, .int .i64 0, .int .i64 0, .int .i64 0, .slice none 0 0] := by rw [eV4]; exact (HV3.put 9 _)
 have HC4 : Has V4 g1 49 #[.int .i64 1, .int .i64 id, .int .i64 a, .int .i64 b, .int .i64 x, .int .i64 y, .int .i64 vx, .int .i64 vy, .int .i64 an, .int .i64 sp, .int .i64 de, .int .i64 ln, .int .i64 k, .int .i64 r, .slice ao n c] := HC3.but kk4 h13
 clear kk4
 obtain ⟨V5, eV5⟩ : ∃ V, V = (V4).setCell ⟨g3, 10, none⟩ (.int .i64 de) := ⟨_, rfl⟩
 have kk5 : But (fun b => b = g3) V4 V5 := by rw [eV5]; exact ((But.rfl_ (fun b => b = g3) V4).put (p := ⟨g3, 10, none⟩) (.inl rfl) _)
 have kv5 := kv4.then_ kk5
 have HV5 : Has V5 g3 49 #[.int .i64 1, .int .i64 0, .int .i64 0, .int .i64 0, .int .i64 x, .int .i64 y, .int .i64 vx, .int .i64 vy, .int .i64 an, .int .i64 sp, .int .i64 de, .int .i64 0, .int .i64 0, .int .i64 0, .slice none 0 0] := by rw [eV5]; exact (HV4.put 10 _)
 have HC5 : Has V5 g1 49 #[.int .i64 1, .int .i64 id, .int .i64 a, .int .i64 b, .int .i64 x, .int .i64 y, .int .i64 vx, .int .i64 vy, .int .i64 an, .int .i64 sp, .int .i64 de, .int .i64 ln, .int .i64 k, .int .i64 r, .slice ao n c] := HC4.but kk5 h13
 clear kk5
 obtain ⟨V6, eV6⟩ : ∃ V, V = (((V5).setCell ⟨g3, 12, none⟩ (.int .i64 k)).setCell ⟨g3, 13, none⟩ (.int .i64 r)).setCell ⟨g3, 14, none⟩ (.slice ao n c) := ⟨_, rfl⟩
 have kk6 : But (fun b => b = g3) V5 V6 := by rw [eV6]; exact ((((But.rfl_ (fun b => b = g3) V5).put (p := ⟨g3, 12, none⟩) (.inl rfl) _).put (p := ⟨g3, 13, none⟩) (.inl rfl) _).put (p := ⟨g3, 14, none⟩) (.inl rfl) _)
 have kv6 := kv5.then_ kk6
 have HV6 : Has V6 g3 49 #[.int .i64 1, .int .i64 0, .int .i64 0, .int .i64 0, .int .i64 x, .int .i64 y, .int .i64 vx, .int .i64 vy, .int .i64 an, .int .i64 sp, .int .i64 de, .int .i64 0, .int .i64 k, .int .i64 r, .slice ao n c] := by rw [eV6]; exact (((HV5.put 12 _).put 13 _).put 14 _)
 have HC6 : Has V6 g1 49 #[.int .i64 1, .int .i64 id, .int .i64 a, .int .i64 b, .int .i64 x, .int .i64 y, .int .i64 vx, .int .i64 vy, .int .i64 an, .int .i64 sp, .int .i64 de, .int .i64 ln, .int .i64 k, .int .i64 r, .slice ao n c] := HC5.but kk6 h13
 clear kk6
 have HBs : ∀ s, Has ([V0, V1, V2, V3, V4, V5].getD s V6) g1 49 #[.int .i64 1, .int .i64 id, .int .i64 a, .int .i64 b, .int .i64 x, .int .i64 y, .int .i64 vx, .int .i64 vy, .int .i64 an, .int .i64 sp, .int .i64 de, .int .i64 ln, .int .i64 k, .int .i64 r, .slice ao n c] := fun s => match s with
  | 0 => HC0
  | 1 => HC1
  | 2 => HC2
  | 3 => HC3
  | 4 => HC4
  | 5 => HC5
  | _ + 6 => HC6
 have s0_4 := HV0.at_ 4
 have s0_5 := HV0.at_ 5
 have lv0 : g3 < V0.heap.size := HV0.here
 have fv0 : ∀ i, V0.frozen? ⟨g3, i, none⟩ = false := HV0.free
 have s1_6 := HV1.at_ 6
 have s1_7 := HV1.at_ 7
 have lv1 : g3 < V1.heap.size := HV1.here
 have fv1 : ∀ i, V1.frozen? ⟨g3, i, none⟩ = false := HV1.free
 have s2_8 := HV2.at_ 8
 have lv2 : g3 < V2.heap.size := HV2.here
 have fv2 : ∀ i, V2.frozen? ⟨g3, i, none⟩ = false := HV2.free
 have s3_9 := HV3.at_ 9
 have lv3 : g3 < V3.heap.size := HV3.here
 have fv3 : ∀ i, V3.frozen? ⟨g3, i, none⟩ = false := HV3.free
 have s4_10 := HV4.at_ 10
 have lv4 : g3 < V4.heap.size := HV4.here
 have fv4 : ∀ i, V4.frozen? ⟨g3, i, none⟩ = false := HV4.free
 have s5_12 := HV5.at_ 12
 have s5_13 := HV5.at_ 13
 have s5_14 := HV5.at_ 14
 have lv5 : g3 < V5.heap.size := HV5.here
 have fv5 : ∀ i, V5.frozen? ⟨g3, i, none⟩ = false := HV5.free
 simp at s0_4 s0_5 s1_6 s1_7 s2_8 s3_9 s4_10 s5_12 s5_13 s5_14
 have EV0 := hid eV0
 have EV1 := hid eV1
 have EV2 := hid eV2
 have EV3 := hid eV3
 have EV4 := hid eV4
 have EV5 := hid eV5
 have EV6 := hid eV6
 have KV := hid kv6
 have HVn := hid HV6
 have HBS := hid HBs
 clear eV0 kv0 HC0 HV0 eV1 kv1 HC1 HV1 eV2 kv2 HC2 HV2 eV3 kv3 HC3 HV3 eV4 kv4 HC4 HV4 eV5 kv5 HC5 HV5 eV6 kv6 HC6 HV6 HBs b0 b1 b2 b3 b4 b5 b6 b7 b8 b9 b10 b11 b12 b13 b14 u0 u1 u2 u3 u4 u5 u6 u7 u8 u9 u10 u11 u12 u13 u14 l1 l3 f3
 refine RS.reg_stores (fun s => [V0, V1, V2, V3, V4, V5].getD s V6) [13, 15, 17, 19, 21, 23] 69 (by kernel_rfl) (by rw [← EV0.out]; rfl) (by kernel_rfl) rfl (by kernel_rfl) (by kernel_rfl) ?_
 apply Exists.intro
 refine ⟨?q1, ?q2, ?q3⟩
 case q1 =>
  intro s Ty hT fw hf
  have z0 : ∀ tt, (fw tt).cell? ⟨g1, 0, none⟩ = some (.int .i64 1) := fun tt => by rw [hf tt]; exact (HBS.out s).at_ 0
  have z1 : ∀ tt, (fw tt).cell? ⟨g1, 1, none⟩ = some (.int .i64 id) := fun tt => by rw [hf tt]; exact (HBS.out s).at_ 1
  have z2 : ∀ tt, (fw tt).cell? ⟨g1, 2, none⟩ = some (.int .i64 a) := fun tt => by rw [hf tt]; exact (HBS.out s).at_ 2
  have z3 : ∀ tt, (fw tt).cell? ⟨g1, 3, none⟩ = some (.int .i64 b) := fun tt => by rw [hf tt]; exact (HBS.out s).at_ 3
  have z4 : ∀ tt, (fw tt).cell? ⟨g1, 4, none⟩ = some (.int .i64 x) := fun tt => by rw [hf tt]; exact (HBS.out s).at_ 4
  have z5 : ∀ tt, (fw tt).cell? ⟨g1, 5, none⟩ = some (.int .i64 y) := fun tt => by rw [hf tt]; exact (HBS.out s).at_ 5
  have z6 : ∀ tt, (fw tt).cell? ⟨g1, 6, none⟩ = some (.int .i64 vx) := fun tt => by rw [hf tt]; exact (HBS.out s).at_ 6
  have z7 : ∀ tt, (fw tt).cell? ⟨g1, 7, none⟩ = some (.int .i64 vy) := fun tt => by rw [hf tt]; exact (HBS.out s).at_ 7
  have z8 : ∀ tt, (fw tt).cell? ⟨g1, 8, none⟩ = some (.int .i64 an) := fun tt => by rw [hf tt]; exact (HBS.out s).at_ 8
  have z9 : ∀ tt, (fw tt).cell? ⟨g1, 9, none⟩ = some (.int .i64 sp) := fun tt => by rw [hf tt]; exact (HBS.out s).at_ 9
  have z10 : ∀ tt, (fw tt).cell? ⟨g1, 10, none⟩ = some (.int .i64 de) := fun tt => by rw [hf tt]; exact (HBS.out s).at_ 10
  have z11 : ∀ tt, (fw tt).cell? ⟨g1, 11, none⟩ = some (.int .i64 ln) := fun tt => by rw [hf tt]; exact (HBS.out s).at_ 11
  have z12 : ∀ tt, (fw tt).cell? ⟨g1, 12, none⟩ = some (.int .i64 k) := fun tt => by rw [hf tt]; exact (HBS.out s).at_ 12
  have z13 : ∀ tt, (fw tt).cell? ⟨g1, 13, none⟩ = some (.int .i64 r) := fun tt => by rw [hf tt]; exact (HBS.out s).at_ 13
  have z14 : ∀ tt, (fw tt).cell? ⟨g1, 14, none⟩ = some (.slice ao n c) := fun tt => by rw [hf tt]; exact (HBS.out s).at_ 14
  clear hf
  simp only [List.filter, Option.isSome]
  repeat (go_big_quiet_step (fail))
  exact wpQuiet_nil rfl
 case q2 =>
  refine ⟨?_, ?_, ?_, ?_, ?_, ?_, trivial⟩
  ·show (∃ x, (execOp _ _).run Tryz.prog V0 = .ok (.value x) V1) ∨ (execOp _ _).run Tryz.prog V0 = .ok .skip V1
   rw [EV1.out]
   first | (refine .inl ⟨undef, ?_⟩; go_simp; done) | (refine .inr ?_; go_simp; done)
  ·show (∃ x, (execOp _ _).run Tryz.prog V1 = .ok (.value x) V2) ∨ (execOp _ _).run Tryz.prog V1 = .ok .skip V2
   rw [EV2.out]
   first | (refine .inl ⟨undef, ?_⟩; go_simp; done) | (refine .inr ?_; go_simp; done)
  ·show (∃ x, (execOp _ _).run Tryz.prog V2 = .ok (.value x) V3) ∨ (execOp _ _).run Tryz.prog V2 = .ok .skip V3
   rw [EV3.out]
   first | (refine .inl ⟨undef, ?_⟩; go_simp; done) | (refine .inr ?_; go_simp; done)
  ·show (∃ x, (execOp _ _).run Tryz.prog V3 = .ok (.value x) V4) ∨ (execOp _ _).run Tryz.prog V3 = .ok .skip V4
   rw [EV4.out]
   first | (refine .inl ⟨undef, ?_⟩; go_simp; done) | (refine .inr ?_; go_simp; done)
  ·show (∃ x, (execOp _ _).run Tryz.prog V4 = .ok (.value x) V5) ∨ (execOp _ _).run Tryz.prog V4 = .ok .skip V5
   rw [EV5.out]
   first | (refine .inl ⟨undef, ?_⟩; go_simp; done) | (refine .inr ?_; go_simp; done)
  ·show (∃ x, (execOp _ _).run Tryz.prog V5 = .ok (.value x) V6) ∨ (execOp _ _).run Tryz.prog V5 = .ok .skip V6
   rw [EV6.out]
   first | (refine .inl ⟨undef, ?_⟩; go_simp; done) | (refine .inr ?_; go_simp; done)
 have eUn : [V0, V1, V2, V3, V4, V5].getD ([13, 15, 17, 19, 21, 23] : List Nat).length V6 = V6 := rfl
 first | rw [eUn] | simp only [eUn]
 clear eUn
 have HU2 := HVn
 have HR2 := hid (HR1.out.but KV.out h23)
 have K2 : Hid (Made w.heap.size w V6) := But.made_ K1.out KV.out K1.out.1.size (fun b hb => by have hb : b = g3 := hb; omega)
 clear HU HR1 HB1 K1 s0_4 s0_5 s1_6 s1_7 s2_8 s3_9 s4_10 s5_12 s5_13 s5_14 lv0 fv0 lv1 fv1 lv2 fv2 lv3 fv3 lv4 fv4 lv5 fv5
 have u0 := HU2.out.at_ 0
 have u1 := HU2.out.at_ 1
 have u2 := HU2.out.at_ 2
 have u3 := HU2.out.at_ 3
 have u4 := HU2.out.at_ 4
 have u5 := HU2.out.at_ 5
 have u6 := HU2.out.at_ 6
 have u7 := HU2.out.at_ 7
 have u8 := HU2.out.at_ 8
 have u9 := HU2.out.at_ 9
 have u10 := HU2.out.at_ 10
 have u11 := HU2.out.at_ 11
 have u12 := HU2.out.at_ 12
 have u13 := HU2.out.at_ 13
 have u14 := HU2.out.at_ 14
 simp at u0 u1 u2 u3 u4 u5 u6 u7 u8 u9 u10 u11 u12 u13 u14
 have l3 : g3 < V6.heap.size := HU2.out.here
 have r_0 := HR2.out.at_ 0
 have r_1 := HR2.out.at_ 1
 have r_2 := HR2.out.at_ 2
 have r_3 := HR2.out.at_ 3
 have r_4 := HR2.out.at_ 4
 have r_5 := HR2.out.at_ 5
 have r_6 := HR2.out.at_ 6
 have r_7 := HR2.out.at_ 7
 have r_8 := HR2.out.at_ 8
 have r_9 := HR2.out.at_ 9
 have r_10 := HR2.out.at_ 10
 have r_11 := HR2.out.at_ 11
 have r_12 := HR2.out.at_ 12
 have r_13 := HR2.out.at_ 13
 have r_14 := HR2.out.at_ 14
 simp at r_0 r_1 r_2 r_3 r_4 r_5 r_6 r_7 r_8 r_9 r_10 r_11 r_12 r_13 r_14
 have l2 : g2 < V6.heap.size := HR2.out.here
 have f2 : ∀ i, V6.frozen? ⟨g2, i, none⟩ = false := HR2.out.free
 go_wp2_with fail
 obtain ⟨W3, eW3⟩ : ∃ V, V = (((((((((((((((V6).setCell ⟨g2, 0, none⟩ (.int .i64 1)).setCell ⟨g2, 1, none⟩ (.int .i64 0)).setCell ⟨g2, 2, none⟩ (.int .i64 0)).setCell ⟨g2, 3, none⟩ (.int .i64 0)).setCell ⟨g2, 4, none⟩ (.int .i64 x)).setCell ⟨g2, 5, none⟩ (.int .i64 y)).setCell ⟨g2, 6, none⟩ (.int .i64 vx)).setCell ⟨g2, 7, none⟩ (.int .i64 vy)).setCell ⟨g2, 8, none⟩ (.int .i64 an)).setCell ⟨g2, 9, none⟩ (.int .i64 sp)).setCell ⟨g2, 10, none⟩ (.int .i64 de)).setCell ⟨g2, 11, none⟩ (.int .i64 0)).setCell ⟨g2, 12, none⟩ (.int .i64 k)).setCell ⟨g2, 13, none⟩ (.int .i64 r)).setCell ⟨g2, 14, none⟩ (.slice ao n c) := ⟨_, rfl⟩
 have k3 : But (fun b => b = g2) V6 W3 := by rw [eW3]; exact (But.rfl_ (fun b => b = g2) V6).put15 (.inl rfl) _ _ _ _ _ _ _ _ _ _ _ _ _ _ _
 have HR3 : Has W3 g2 49 #[.int .i64 1, .int .i64 0, .int .i64 0, .int .i64 0, .int .i64 x, .int .i64 y, .int .i64 vx, .int .i64 vy, .int .i64 an, .int .i64 sp, .int .i64 de, .int .i64 0, .int .i64 k, .int .i64 r, .slice ao n c] := by rw [eW3]; exact HR2.out.put15 _ _ _ _ _ _ _ _ _ _ _ _ _ _ _
 have K3 : Made w.heap.size w W3 := But.made_ K2.out k3 K2.out.1.size (fun b hb => by have hb : b = g2 := hb; omega)
 try rw [← eW3]
 clear eW3 u0 u1 u2 u3 u4 u5 u6 u7 u8 u9 u10 u11 u12 u13 u14 l3 r_0 r_1 r_2 r_3 r_4 r_5 r_6 r_7 r_8 r_9 r_10 r_11 r_12 r_13 r_14 l2 f2
 have q0 := HR3.at_ 0
 have q1 := HR3.at_ 1
 have q2 := HR3.at_ 2
 have q3 := HR3.at_ 3
 have q4 := HR3.at_ 4
 have q5 := HR3.at_ 5
 have q6 := HR3.at_ 6
 have q7 := HR3.at_ 7
 have q8 := HR3.at_ 8
 have q9 := HR3.at_ 9
 have q10 := HR3.at_ 10
 have q11 := HR3.at_ 11
 have q12 := HR3.at_ 12
 have q13 := HR3.at_ 13
 have q14 := HR3.at_ 14
 simp at q0 q1 q2 q3 q4 q5 q6 q7 q8 q9 q10 q11 q12 q13 q14
 exact bodyPost_ret (v := .agg #[.int .i64 1, .int .i64 0, .int .i64 0, .int .i64 0, .int .i64 x, .int .i64 y, .int .i64 vx, .int .i64 vy, .int .i64 an, .int .i64 sp, .int .i64 de, .int .i64 0, .int .i64 k, .int .i64 r, .slice ao n c]) (by simp [results, Tryz.results37, go_sem, q0, q1, q2, q3, q4, q5, q6, q7, q8, q9, q10, q11, q12, q13, q14]) rfl ⟨rfl, by first | exact K3 | exact K3.draws 1⟩
end Go.Proofs.YtgdcphmmehedoaaGreat.Fx