/- OtP OtE WlQ Open -/
import Derived.Test.YtjecadafjnbijaaGreatPa3
import Derived.Test.YtjecadafjnbijaaGreatPa11
import Derived.Test.YtjecadafjnbijaaGreatPa17
import Derived.Test.YtjecadafjnbijaaGreatPa27
import Derived.Deep.SlicePairs
set_option maxRecDepth 100000
set_option maxHeartbeats 64000000
/- order.push. -/
namespace Go.Proofs.YtjecadafjnbijaaGreat.Fx
open Go.ChangeShapes Go.WideShapes Go.ChangeAt Go.RowKit
set_option linter.unusedVariables false
theorem id_at {B : List Bd} (hup : (B.map (·.id)).Pairwise (· < ·)) {i j : Nat} {x y : Bd} (hx : B[i]? = some x) (hy : B[j]? = some y) (e : x.id = y.id) : i = j := by
 rcases Nat.lt_trichotomy i j with h | h | h
 ·have := List.pairwise_iff_getElem.1 hup i j (by simpa using (List.getElem?_eq_some_iff.1 hx).1) (by simpa using (List.getElem?_eq_some_iff.1 hy).1) h
  simp [(List.getElem?_eq_some_iff.1 hx).2, (List.getElem?_eq_some_iff.1 hy).2] at this
  omega
 ·exact h
 ·have := List.pairwise_iff_getElem.1 hup j i (by simpa using (List.getElem?_eq_some_iff.1 hy).1) (by simpa using (List.getElem?_eq_some_iff.1 hx).1) h
  simp [(List.getElem?_eq_some_iff.1 hx).2, (List.getElem?_eq_some_iff.1 hy).2] at this
  omega
theorem id_one {B : List Bd} (hup : (B.map (·.id)).Pairwise (· < ·)) {x y : Bd} (hx : x ∈ B) (hy : y ∈ B) (e : x.id = y.id) : x = y := by
 obtain ⟨i, hi⟩ := List.mem_iff_getElem?.1 hx
 obtain ⟨j, hj⟩ := List.mem_iff_getElem?.1 hy
 have := id_at hup hi hj e
 subst this
 rw [hi] at hj
 exact Option.some.inj hj
theorem wbody_det (tk nb nj gx gy : Int) (oj oc : Option Addr) (nn cj nc cc : Nat) {l : List Bd} {ao : Option Addr} {n c : Nat} (id : Int) (hn : l.length = n) (hmx : n ≤ 1073741824) (hup : (l.map (·.id)).Pairwise (· < ·)) :
  ∃ (i : Nat) (r : Bool), (r = true → ∃ x, l[i]? = some x ∧ x.id = id) ∧ (r = false → ∀ x ∈ l, x.id ≠ id) ∧ ∀ w, LsT encB 11 w ao l → Calls Tryz.prog 82 #[wdV tk nb nj gx gy (.slice ao n c) (.slice oj nn cj) (.slice oc nc cc), .int .i64 id] w fun e v => e = .returned (.tuple #[.int .i64 (i : Nat), .bool r]) ∧ Made w.heap.size w v := by
 by_cases h : ∃ x ∈ l, x.id = id
 ·obtain ⟨x, hx, e⟩ := h
  obtain ⟨i, hi⟩ := List.mem_iff_getElem?.1 hx
  refine ⟨i, true, fun _ => ⟨x, hi, e⟩, fun h => (by cases h), fun w hl => (wbody_c tk nb nj gx gy oj oc nn cj nc cc (c := c) id hn hmx hl hup).mono ?_⟩
  rintro e' v ⟨i', r', rfl, k, h1, h2⟩
  cases r' with
  | false => exact absurd e ((h2 rfl).2 x hx)
  | true =>
   obtain ⟨y, hy, ey⟩ := h1 rfl
   have : i' = i := id_at hup hy hi (ey.trans e.symm)
   subst this
   exact ⟨rfl, k⟩
 ·refine ⟨0, false, fun h => (by cases h), fun _ x hx e => h ⟨x, hx, e⟩, fun w hl => (wbody_c tk nb nj gx gy oj oc nn cj nc cc (c := c) id hn hmx hl hup).mono ?_⟩
  rintro e' v ⟨i', r', rfl, k, h1, h2⟩
  cases r' with
  | false =>
   have := (h2 rfl).1
   subst this
   exact ⟨rfl, k⟩
  | true =>
   obtain ⟨y, hy, ey⟩ := h1 rfl
   exact absurd ⟨y, List.mem_of_getElem? hy, ey⟩ h
theorem RowL.bub {α : Type} {enc : α → List Value} {k : Nat} {X : Nat → Prop} {w v : World} {g n : Nat} {t : TypeId} {l : List α} (h : RowL enc k w g t n l) (kk : BuB X w v) (hx : ¬ X g) : RowL enc k v g t n l := by
 obtain ⟨h0, A, hA, h⟩ := h
 exact ⟨h0, A, hA.bub kk hx, h⟩
theorem massB_is {b : Bd} (hd : 0 < b.de) : ∃ m i, massB b = massV m i (moveB b) (spinB b) :=
 ⟨_, _, by unfold massB massOf moveB spinB; rw [if_neg (by omega), if_neg (by omega), if_neg (by omega)]⟩
theorem opush_c {X : Nat → Prop} {w : World} {gw : Nat} (tk gx gy nb nj : Int) (B : List Bd) (J : List Jt) (C : List Ct) (kd id a b x y vx vy an sp de ln k r : Int) (ao : Option Addr) (n c : Nat) (hV : GV X w gw ⟨tk, gx, gy, ⟨nb, nj, B, J, C⟩⟩) (hG : GOk ⟨tk, gx, gy, ⟨nb, nj, B, J, C⟩⟩) (hXg : X gw) (hXw : ∀ b, X b → b < w.heap.size) (ivx : I64 vx) (ivy : I64 vy) (isp : I64 sp) :
  Calls Tryz.prog 51 #[.pointer (some ⟨gw, 0, none⟩), .agg #[.int .i64 kd, .int .i64 id, .int .i64 a, .int .i64 b, .int .i64 x, .int .i64 y, .int .i64 vx, .int .i64 vy, .int .i64 an, .int .i64 sp, .int .i64 de, .int .i64 ln, .int .i64 k, .int .i64 r, .slice ao n c]] w fun e v => e = .returned (.tuple #[]) ∧ ∃ P', PushP id vx vy sp ⟨nb, nj, B, J, C⟩ P' ∧ GV X v gw ⟨tk, gx, gy, P'⟩ ∧ BuB (fun g => g = gw) w v := by
 obtain ⟨ob, oj, oc, cb, cj, cc, hH, hL⟩ := hV
 have lgw := hH.here
 obtain ⟨nB, hnB⟩ : ∃ m, B.length = m := ⟨_, rfl⟩
 obtain ⟨nJ, hnJ⟩ : ∃ m, J.length = m := ⟨_, rfl⟩
 obtain ⟨nC, hnC⟩ : ∃ m, C.length = m := ⟨_, rfl⟩
 have hmB : nB ≤ 1024 := by rw [← hnB]; exact hG.hB.len
 have hG' : BodiesP B nb := hG.hB
 have hH : Has w gw 42 #[.int .i64 tk, .int .i64 nb, .int .i64 nj, .int .i64 gx, .int .i64 gy, .slice ob nB cb, .slice oj nJ cj, .slice oc nC cc] := by rw [← hnB, ← hnJ, ← hnC]; exact hH
 have hL : WLs X w ob cb B oj cj J oc cc C := hL
 obtain ⟨i, q, hq1, hq0, hdet⟩ := wbody_det tk nb nj gx gy oj oc nJ cj nC cc (ao := ob) (c := cb) id hnB (by omega) hG'.num.2.2.1
 have HD := hid (fun v (k' : Made w.heap.size w v) => hdet v (hL.at_.lB.below k'.1))
 have HCl := hid (fun v (k' : Made w.heap.size w v) => cloneB_c (w := v) (c := cb) hnB (by omega) (hL.at_.lB.below k'.1) (by rw [← hnB]; exact hL.okB))
 have HQ1 := hid hq1
 have HQ0 := hid hq0
 have HGB := hid hG'
 have HL := hid hL
 have HXg := hid hXg
 have HXw := hid hXw
 have HN := hid (And.intro hnB (And.intro hnJ hnC))
 have HH := hid hH
 have HLg := hid lgw
 have HmB := hid hmB
 clear hG hG' hH hL hq1 hq0 hdet hXg hXw hnB hnJ hnC lgw hmB
 obtain ⟨W, eW⟩ : ∃ W, W = w.alloc (.cells #[.int .i64 kd, .int .i64 id, .int .i64 a, .int .i64 b, .int .i64 x, .int .i64 y, .int .i64 vx, .int .i64 vy, .int .i64 an, .int .i64 sp, .int .i64 de, .int .i64 ln, .int .i64 k, .int .i64 r, .slice ao n c] 49) := ⟨_, rfl⟩
 have KW : Hid (Made w.heap.size w W) := by unfold Hid; rw [eW]; exact (Made.rfl_ _ _).cells (Nat.le_refl _) _ _
 have HB : Hid (Has W w.heap.size 49 #[.int .i64 kd, .int .i64 id, .int .i64 a, .int .i64 b, .int .i64 x, .int .i64 y, .int .i64 vx, .int .i64 vy, .int .i64 an, .int .i64 sp, .int .i64 de, .int .i64 ln, .int .i64 k, .int .i64 r, .slice ao n c]) := by unfold Hid; rw [eW]; exact has_new _ _ _
 obtain ⟨g1, eg1⟩ : ∃ g, w.heap.size = g := ⟨_, rfl⟩
 have HG1 := hid eg1
 rw [eg1] at HB
 have b_0 := HB.out.at_ 0
 have b_1 := HB.out.at_ 1
 have b_2 := HB.out.at_ 2
 have b_3 := HB.out.at_ 3
 have b_4 := HB.out.at_ 4
 have b_5 := HB.out.at_ 5
 have b_6 := HB.out.at_ 6
 have b_7 := HB.out.at_ 7
 have b_8 := HB.out.at_ 8
 have b_9 := HB.out.at_ 9
 have b_10 := HB.out.at_ 10
 have b_11 := HB.out.at_ 11
 have b_12 := HB.out.at_ 12
 have b_13 := HB.out.at_ 13
 have b_14 := HB.out.at_ 14
 simp at b_0 b_1 b_2 b_3 b_4 b_5 b_6 b_7 b_8 b_9 b_10 b_11 b_12 b_13 b_14
 have l1 : g1 < W.heap.size := HB.out.here
 go_enter Tryz.func51, Tryz.ntmps51
 go_upto_region 1 with fail
 rw [← eW]
 clear eW
 try rw [eg1]
 clear eg1
 have HW1 := hid (HH.out.stays KW.out HLg.out)
 have y_0 := HW1.out.at_ 0
 have y_1 := HW1.out.at_ 1
 have y_2 := HW1.out.at_ 2
 have y_3 := HW1.out.at_ 3
 have y_4 := HW1.out.at_ 4
 have y_5 := HW1.out.at_ 5
 have y_6 := HW1.out.at_ 6
 have y_7 := HW1.out.at_ 7
 simp at y_0 y_1 y_2 y_3 y_4 y_5 y_6 y_7
 have lw : gw < W.heap.size := HW1.out.here
 refine reg_made (by kernel_rfl) (by kernel_rfl) ?_
 intro Ty hT fw hf
 have z0 := Class.reads hf y_0
 have z1 := Class.reads hf y_1
 have z2 := Class.reads hf y_2
 have z3 := Class.reads hf y_3
 have z4 := Class.reads hf y_4
 have z5 := Class.reads hf y_5
 have z6 := Class.reads hf y_6
 have z7 := Class.reads hf y_7
 have zb := Class.reads hf b_1
 have HfM : ∀ x, Made W.heap.size W (fw x) := hf.1
 have HDf := hid (fun x => HD.out (fw x) (KW.out.then_ ((HfM x).low KW.out.1.size)))
 repeat (go_big_quiet_step ((go_at_call 82; with_reducible exact hf.made (HDf.out _))))
 refine wpQuiet_nil ?_
 intro w1 h1
 have k1 := hf.here h1
 have K1 := hid (KW.out.then_ (k1.low KW.out.1.size))
 have HV1 := hid (HW1.out.stays k1 HW1.out.here)
 have HO1 := hid (HB.out.stays k1 HB.out.here)
 clear z0 z1 z2 z3 z4 z5 z6 z7 zb HfM HDf hf h1 k1 y_0 y_1 y_2 y_3 y_4 y_5 y_6 y_7 b_0 b_1 b_2 b_3 b_4 b_5 b_6 b_7 b_8 b_9 b_10 b_11 b_12 b_13 b_14 l1 lw HW1 HB KW HD
 have hne : ¬ g1 = gw := by have := HG1.out; have := HLg.out; omega
 cases q with
 | false =>
  have HQf := hid (HQ0.out rfl)
  go_wp2_with fail
  first | refine void_end rfl rfl ?_ | refine void_ret rfl rfl ?_
  exact ⟨rfl, ⟨nb, nj, B, J, C⟩, .inl ⟨fun b hb e => absurd e (HQf.out b hb), rfl⟩, ⟨ob, oj, oc, cb, cj, cc, by rw [HN.out.1, HN.out.2.1, HN.out.2.2]; exact HV1.out, HL.out.kept K1.out⟩, Made.bub K1.out⟩
 | true =>
  obtain ⟨bx, hbx, hbi⟩ := HQ1.out rfl
  have hin : i < nB := by rw [← HN.out.1]; exact (List.getElem?_eq_some_iff.1 hbx).1
  have EB := hid hbx
  have EI := hid hbi
  have HPb := hid (HGB.out.all bx (List.mem_of_getElem? hbx))
  obtain ⟨gA, off, eob, hgA, hLB⟩ := (HL.out.kept K1.out).at_.lB (by rw [HN.out.1]; omega)
  have HBi := hid ((HL.out.at_.sB bx (List.mem_of_getElem? hbx)).2)
  have HOne := hid (fun y (hy : y ∈ B) (e : y.id = id) => id_one HGB.out.num.2.2.1 hy (List.mem_of_getElem? hbx) (e.trans hbi.symm))
  obtain ⟨x0, x1, x2, x3, x4, x5, x6, x7, x8, x9, x10, x11, x12, x13⟩ := bx
  have hcs := (hLB i _ EB.out).b11
  obtain ⟨e_0, e_1, e_2, e_3, e_4, e_5, e_6, e_7, e_8, e_9, e_10⟩ := hcs
  clear hbx hbi hLB
  subst eob
  have y_0 := HV1.out.at_ 0
  have y_1 := HV1.out.at_ 1
  have y_2 := HV1.out.at_ 2
  have y_3 := HV1.out.at_ 3
  have y_4 := HV1.out.at_ 4
  have y_5 := HV1.out.at_ 5
  have y_6 := HV1.out.at_ 6
  have y_7 := HV1.out.at_ 7
  simp at y_0 y_1 y_2 y_3 y_4 y_5 y_6 y_7
  have lw : gw < w1.heap.size := HV1.out.here
  by_cases hde : x7 ≤ 0
  ·have hq : decide (x7 ≤ 0) = true := by simpa using hde
   have HDe := hid hde
   clear hde
   go_wp2_with fail
   first | refine void_end rfl rfl ?_ | refine void_ret rfl rfl ?_
   refine ⟨rfl, ⟨nb, nj, B, J, C⟩, .inl ⟨fun b hb e => ?_, rfl⟩, ⟨_, oj, oc, cb, cj, cc, by rw [HN.out.1, HN.out.2.1, HN.out.2.2]; exact HV1.out, HL.out.kept K1.out⟩, Made.bub K1.out⟩
   rw [HOne.out b hb e]
   exact HDe.out
  have hq : decide (x7 ≤ 0) = false := by simpa using hde
  have HDe : Hid (0 < x7) := by unfold Hid; omega
  clear hde
  go_wp2_with fail
  refine (HCl.out _ K1.out).mono ?_
  rintro e w2 ⟨ao', c', rfl, hnew, k2⟩
  obtain ⟨gB, rfl, hrow⟩ := hnew.row (by omega)
  have hfr : w1.heap.size ≤ gB := hnew.fresh gB 0 none rfl
  have HNc := hid (And.intro hnew.nc hnew.cm)
  have K2 := hid (K1.out.then_ (k2.low K1.out.1.size))
  have HV2 := hid (HV1.out.stays k2 HV1.out.here)
  have HO2 := hid (HO1.out.stays k2 HO1.out.here)
  have hgwB : ¬ gB = gw := by have := HV1.out.here; omega
  have hg1B : ¬ gB = g1 := by have := HO1.out.here; omega
  have HFr : Hid (w.heap.size ≤ gB) := Nat.le_trans K1.out.1.size hfr
  have HRow := hid hrow
  clear e_0 e_1 e_2 e_3 e_4 e_5 e_6 e_7 e_8 e_9 e_10 y_0 y_1 y_2 y_3 y_4 y_5 y_6 y_7 lw hq hnew hrow hfr k2 HCl HV1 HO1 K1 hgA
  have y_0 := HV2.out.at_ 0
  have y_1 := HV2.out.at_ 1
  have y_2 := HV2.out.at_ 2
  have y_3 := HV2.out.at_ 3
  have y_4 := HV2.out.at_ 4
  have y_5 := HV2.out.at_ 5
  have y_6 := HV2.out.at_ 6
  have y_7 := HV2.out.at_ 7
  simp at y_0 y_1 y_2 y_3 y_4 y_5 y_6 y_7
  have lw : gw < w2.heap.size := HV2.out.here
  have fw2 : ∀ i, w2.frozen? ⟨gw, i, none⟩ = false := HV2.out.free
  obtain ⟨W3, eW3⟩ : ∃ V, V = w2.setCell ⟨gw, 5, none⟩ (.slice (some ⟨gB, 0, none⟩) nB c') := ⟨_, rfl⟩
  have k3 : But (fun b => b = gw) w2 W3 := by rw [eW3]; exact (But.rfl_ (fun b => b = gw) w2).put (p := ⟨gw, 5, none⟩) (.inl rfl) _
  have HV3 : Hid (Has W3 gw 42 #[.int .i64 tk, .int .i64 nb, .int .i64 nj, .int .i64 gx, .int .i64 gy, .slice (some ⟨gB, 0, none⟩) nB c', .slice oj nJ cj, .slice oc nC cc]) := by unfold Hid; rw [eW3]; exact HV2.out.put 5 _
  have HO3 := hid (HO2.out.but k3 hne)
  have HR3 := hid (HRow.out.but k3 hgwB)
  have U3 : Hid (BuB (fun g => g = gw) w W3) := (Made.bub K2.out).then_ k3.bub
  go_upto_region 4 with fail
  rw [← eW3]
  clear eW3 k3 y_0 y_1 y_2 y_3 y_4 y_5 y_6 y_7 lw fw2 HV2 HO2 HRow K2
  have y_0 := HV3.out.at_ 0
  have y_1 := HV3.out.at_ 1
  have y_2 := HV3.out.at_ 2
  have y_3 := HV3.out.at_ 3
  have y_4 := HV3.out.at_ 4
  have y_5 := HV3.out.at_ 5
  have y_6 := HV3.out.at_ 6
  have y_7 := HV3.out.at_ 7
  simp at y_0 y_1 y_2 y_3 y_4 y_5 y_6 y_7
  have lw : gw < W3.heap.size := HV3.out.here
  have hcs := (HR3.out.lsB i _ EB.out).b11
  obtain ⟨e_0, e_1, e_2, e_3, e_4, e_5, e_6, e_7, e_8, e_9, e_10⟩ := hcs
  simp only [Nat.zero_add] at e_0 e_1 e_2 e_3 e_4 e_5 e_6 e_7 e_8 e_9 e_10
  have lB : gB < W3.heap.size := HR3.out.here
  obtain ⟨m1, m2, emb⟩ := massB_is (b := (⟨x0, x1, x2, x3, x4, x5, x6, x7, x8, x9, x10, x11, x12, x13⟩ : Bd)) HDe.out
  obtain ⟨mv, emv⟩ : ∃ z, moveB (⟨x0, x1, x2, x3, x4, x5, x6, x7, x8, x9, x10, x11, x12, x13⟩ : Bd) = z := ⟨_, rfl⟩
  obtain ⟨ms, ems⟩ : ∃ z, spinB (⟨x0, x1, x2, x3, x4, x5, x6, x7, x8, x9, x10, x11, x12, x13⟩ : Bd) = z := ⟨_, rfl⟩
  have imv : I64 mv := by rw [← emv]; exact moveB_i _
  have ims : I64 ms := by rw [← ems]; exact spinB_i _
  have HSl : Hid (Sl W3 x10 x11 x13) := by
   have h := HL.out.bub U3.out (fun b hb => by have hb : b = gw := hb; rw [hb]; exact HXg.out)
   exact (h.at_.sB (⟨x0, x1, x2, x3, x4, x5, x6, x7, x8, x9, x10, x11, x12, x13⟩ : Bd) (List.mem_of_getElem? EB.out)).1
  have HM := mof_c (⟨x0, x1, x2, x3, x4, x5, x6, x7, x8, x9, x10, x11, x12, x13⟩ : Bd) (w := W3) HBi.out HPb.out HSl.out
  rw [emb, emv, ems] at HM
  have HM := hid HM
  have HMV := hid emv
  have HMS := hid ems
  clear emb emv ems
  go_wp2_with fail
  refine HM.out.mono ?_
  rintro e w4 ⟨rfl, k4⟩
  obtain ⟨V5, eV5⟩ : ∃ V, V = w4.alloc (.cells #[.int .i64 m1, .int .i64 m2, .int .i64 mv, .int .i64 ms] 121) := ⟨_, rfl⟩
  have HM5 : Hid (Has V5 w4.heap.size 121 #[.int .i64 m1, .int .i64 m2, .int .i64 mv, .int .i64 ms]) := by
   unfold Hid
   rw [eV5]
   exact has_new _ _ _
  have k5 : Below W3.heap.size W3 V5 := by
   rw [eV5]
   exact k4.alloc k4.size _
  obtain ⟨g5, eg5⟩ : ∃ g, w4.heap.size = g := ⟨_, rfl⟩
  have h5B : ¬ gB = g5 := by have := k4.size; omega
  have h5o : W3.heap.size ≤ g5 := by have := k4.size; omega
  rw [eg5] at HM5
  go_upto_region 6 with fail
  rw [← eV5]
  have HV5 := hid (HV3.out.kept k5 HV3.out.here)
  have HO5 := hid (HO3.out.kept k5 HO3.out.here)
  have HR5 := hid (RowL.bub (X := Nil0) HR3.out (Below.bub k5) (fun h => h))
  have U5 : Hid (BuB (fun g => g = gw) w V5) := U3.out.then_ (Below.bub k5)
  have h5w : w.heap.size ≤ g5 := Nat.le_trans U3.out.size h5o
  clear eV5 eg5 k5 k4 h5o e_0 e_1 e_2 e_3 e_4 e_5 e_6 e_7 e_8 e_9 e_10 y_0 y_1 y_2 y_3 y_4 y_5 y_6 y_7 lw lB HV3 HO3 HR3 U3 HM HSl
  have b_0 := HO5.out.at_ 0
  have b_1 := HO5.out.at_ 1
  have b_2 := HO5.out.at_ 2
  have b_3 := HO5.out.at_ 3
  have b_4 := HO5.out.at_ 4
  have b_5 := HO5.out.at_ 5
  have b_6 := HO5.out.at_ 6
  have b_7 := HO5.out.at_ 7
  have b_8 := HO5.out.at_ 8
  have b_9 := HO5.out.at_ 9
  have b_10 := HO5.out.at_ 10
  have b_11 := HO5.out.at_ 11
  have b_12 := HO5.out.at_ 12
  have b_13 := HO5.out.at_ 13
  have b_14 := HO5.out.at_ 14
  simp at b_0 b_1 b_2 b_3 b_4 b_5 b_6 b_7 b_8 b_9 b_10 b_11 b_12 b_13 b_14
  have l1 : g1 < V5.heap.size := HO5.out.here
  have m_0 := HM5.out.at_ 0
  have m_1 := HM5.out.at_ 1
  have m_2 := HM5.out.at_ 2
  have m_3 := HM5.out.at_ 3
  simp at m_0 m_1 m_2 m_3
  have l5 : g5 < V5.heap.size := HM5.out.here
  have hcs := (HR5.out.lsB i _ EB.out).b11
  obtain ⟨e_0, e_1, e_2, e_3, e_4, e_5, e_6, e_7, e_8, e_9, e_10⟩ := hcs
  simp only [Nat.zero_add] at e_0 e_1 e_2 e_3 e_4 e_5 e_6 e_7 e_8 e_9 e_10
  have lB : gB < V5.heap.size := HR5.out.here
  obtain ⟨p1, ep1⟩ : ∃ z, mulF vx mv = z := ⟨_, rfl⟩
  obtain ⟨p2, ep2⟩ : ∃ z, mulF vy mv = z := ⟨_, rfl⟩
  obtain ⟨q1, eq1⟩ : ∃ z, addF x3 p1 = z := ⟨_, rfl⟩
  obtain ⟨q2, eq2⟩ : ∃ z, addF x4 p2 = z := ⟨_, rfl⟩
  obtain ⟨r1, er1⟩ : ∃ z, bringF q1 (negF 17592186044416) 17592186044416 = z := ⟨_, rfl⟩
  obtain ⟨r2, er2⟩ : ∃ z, bringF q2 (negF 17592186044416) 17592186044416 = z := ⟨_, rfl⟩
  obtain ⟨p3, ep3⟩ : ∃ z, mulF sp ms = z := ⟨_, rfl⟩
  obtain ⟨q3, eq3⟩ : ∃ z, addF x6 p3 = z := ⟨_, rfl⟩
  obtain ⟨r3, er3⟩ : ∃ z, bringF q3 (-1099511627776) 1099511627776 = z := ⟨_, rfl⟩
  have ix3 : I64 x3 := HBi.out.vx
  have ix4 : I64 x4 := HBi.out.vy
  have ix6 : I64 x6 := HBi.out.sp
  have iM : I64 17592186044416 := by unfold I64; omega
  have iN : I64 1099511627776 := by unfold I64; omega
  have iK : I64 (-1099511627776) := by unfold I64; omega
  have ip1 : I64 p1 := by rw [← ep1]; exact i64_mul _ _
  have ip2 : I64 p2 := by rw [← ep2]; exact i64_mul _ _
  have ip3 : I64 p3 := by rw [← ep3]; exact i64_mul _ _
  have iq1 : I64 q1 := by rw [← eq1]; exact i64_add _ _
  have iq2 : I64 q2 := by rw [← eq2]; exact i64_add _ _
  have iq3 : I64 q3 := by rw [← eq3]; exact i64_add _ _
  have ir1 : I64 r1 := by rw [← er1]; exact i64_bring iq1 (i64_neg iM) iM
  have ir2 : I64 r2 := by rw [← er2]; exact i64_bring iq2 (i64_neg iM) iM
  have ir3 : I64 r3 := by rw [← er3]; exact i64_bring iq3 iK iN
  have HE := hid (And.intro ep1 (And.intro ep2 (And.intro eq1 (And.intro eq2 (And.intro er1 (And.intro er2 (And.intro ep3 (And.intro eq3 er3))))))))
  have HC1 := hid (fun v => vscale_is vx vy mv p1 p2 v ivx ivy imv ep1 ep2)
  have HC2 := hid (fun v => vadd_is x3 x4 p1 p2 q1 q2 v ix3 ix4 ip1 ip2 eq1 eq2)
  have HC3 := hid (fun v => vbring_is q1 q2 17592186044416 r1 r2 v iq1 iq2 iM er1 er2)
  have HC4 := hid (fun v => mul_is sp ms p3 v isp ims ep3)
  have HC5 := hid (fun v => add_is x6 p3 q3 v ix6 ip3 eq3)
  have HC6 := hid (fun v => bring_is q3 (-1099511627776) 1099511627776 r3 v iq3 iK iN er3)
  have HPu : Hid (pushB vx vy sp (⟨x0, x1, x2, x3, x4, x5, x6, x7, x8, x9, x10, x11, x12, x13⟩ : Bd) = (⟨x0, x1, x2, r1, r2, x5, r3, x7, x8, x9, x10, x11, x12, x13⟩ : Bd)) := by
   unfold Hid pushB
   rw [HMV.out, HMS.out]
   simp only []
   rw [ep1, ep2, ep3, eq1, eq2, eq3, er1, er2, er3]
  clear ep1 ep2 ep3 eq1 eq2 eq3 er1 er2 er3
  refine reg_made_tail 14 (by kernel_rfl) (by kernel_rfl) ?_
  intro Ty hT fw hf
  have z0 := Class.reads hf e_3
  have z1 := Class.reads hf e_4
  have z2 := Class.reads hf b_6
  have z3 := Class.reads hf b_7
  have z4 := Class.reads hf m_2
  simp only [List.take_succ_cons, List.take_zero, List.drop_succ_cons, List.drop_zero]
  repeat (go_big_quiet_step ((first
   | (go_at_call 85; with_reducible exact hf.made (HC1.out _))
   | (go_at_call 84; with_reducible exact hf.made (HC2.out _))
   | (go_at_call 42; with_reducible exact hf.made (HC3.out _)))))
  refine wpQuiet_nil ?_
  intro w6 h6
  have k6 := hf.here h6
  have HO6 := hid (HO5.out.stays k6 HO5.out.here)
  have HV6 := hid (HV5.out.stays k6 HV5.out.here)
  have HM6 := hid (HM5.out.stays k6 HM5.out.here)
  have HR6 := hid (HR5.out.stays k6 HR5.out.here)
  have U6 : Hid (BuB (fun g => g = gw) w w6) := U5.out.then_ (Made.bub k6)
  clear z0 z1 z2 z3 z4 hf h6 k6 e_0 e_1 e_2 e_3 e_4 e_5 e_6 e_7 e_8 e_9 e_10 b_0 b_1 b_2 b_3 b_4 b_5 b_6 b_7 b_8 b_9 b_10 b_11 b_12 b_13 b_14 m_0 m_1 m_2 m_3 lB l1 l5 HO5 HV5 HM5 HR5 U5
  have hcs := (HR6.out.lsB i _ EB.out).b11
  obtain ⟨e_0, e_1, e_2, e_3, e_4, e_5, e_6, e_7, e_8, e_9, e_10⟩ := hcs
  simp only [Nat.zero_add] at e_0 e_1 e_2 e_3 e_4 e_5 e_6 e_7 e_8 e_9 e_10
  have lB : gB < w6.heap.size := HR6.out.here
  have fB : ∀ j, w6.frozen? ⟨gB, j, none⟩ = false := HR6.out.free
  obtain ⟨W7, eW7⟩ : ∃ V, V = (w6.setCell ⟨gB, i * 11 + 3, none⟩ (.int .i64 r1)).setCell ⟨gB, i * 11 + 4, none⟩ (.int .i64 r2) := ⟨_, rfl⟩
  have hR7 : RowL encB 11 W7 gB 35 nB (B.set i (⟨x0, x1, x2, r1, r2, x5, x6, x7, x8, x9, x10, x11, x12, x13⟩ : Bd)) := by
   rw [eW7]
   refine HR6.out.part encB_len EB.out 3 [.int .i64 r1, .int .i64 r2] (by simp) (fun b v hv => ?_)
   have hb : b < 11 := by rw [← encB_len (⟨x0, x1, x2, r1, r2, x5, x6, x7, x8, x9, x10, x11, x12, x13⟩ : Bd)]; exact (List.getElem?_eq_some_iff.1 hv).1
   match b, hb with
   | 0, _ => exact hv
   | 1, _ => exact hv
   | 2, _ => exact hv
   | 3, _ => exact hv
   | 4, _ => exact hv
   | 5, _ => exact hv
   | 6, _ => exact hv
   | 7, _ => exact hv
   | 8, _ => exact hv
   | 9, _ => exact hv
   | 10, _ => exact hv
  have k7 : BuB (fun b => b = gB) w6 W7 := by rw [eW7]; exact ((BuB.rfl_ (fun b => b = gB) w6).put (p := ⟨gB, i * 11 + 3, none⟩) (.inl rfl) _).put (p := ⟨gB, i * 11 + 4, none⟩) (.inl rfl) _
  have HO7 := hid (HO6.out.bub k7 (fun h => hg1B h.symm))
  have HV7 := hid (HV6.out.bub k7 (fun h => hgwB h.symm))
  have HM7 := hid (HM6.out.bub k7 (fun h => h5B h.symm))
  have U7 : Hid (BuB (fun g => g = gw) w W7) := U6.out.then_' k7 (fun b hb => by have hb : b = gB := hb; rw [hb]; exact .inr HFr.out)
  have HR7 := hid hR7
  have EB7 : Hid ((B.set i (⟨x0, x1, x2, r1, r2, x5, x6, x7, x8, x9, x10, x11, x12, x13⟩ : Bd))[i]? = some (⟨x0, x1, x2, r1, r2, x5, x6, x7, x8, x9, x10, x11, x12, x13⟩ : Bd)) := List.getElem?_set_self (by rw [HN.out.1]; exact hin)
  go_upto_region 7 with fail
  rw [← eW7]
  clear eW7 hR7 k7 e_0 e_1 e_2 e_3 e_4 e_5 e_6 e_7 e_8 e_9 e_10 lB fB HO6 HV6 HM6 HR6 U6
  have b_0 := HO7.out.at_ 0
  have b_1 := HO7.out.at_ 1
  have b_2 := HO7.out.at_ 2
  have b_3 := HO7.out.at_ 3
  have b_4 := HO7.out.at_ 4
  have b_5 := HO7.out.at_ 5
  have b_6 := HO7.out.at_ 6
  have b_7 := HO7.out.at_ 7
  have b_8 := HO7.out.at_ 8
  have b_9 := HO7.out.at_ 9
  have b_10 := HO7.out.at_ 10
  have b_11 := HO7.out.at_ 11
  have b_12 := HO7.out.at_ 12
  have b_13 := HO7.out.at_ 13
  have b_14 := HO7.out.at_ 14
  simp at b_0 b_1 b_2 b_3 b_4 b_5 b_6 b_7 b_8 b_9 b_10 b_11 b_12 b_13 b_14
  have l1 : g1 < W7.heap.size := HO7.out.here
  have m_0 := HM7.out.at_ 0
  have m_1 := HM7.out.at_ 1
  have m_2 := HM7.out.at_ 2
  have m_3 := HM7.out.at_ 3
  simp at m_0 m_1 m_2 m_3
  have l5 : g5 < W7.heap.size := HM7.out.here
  have hcs := (HR7.out.lsB i _ EB7.out).b11
  obtain ⟨e_0, e_1, e_2, e_3, e_4, e_5, e_6, e_7, e_8, e_9, e_10⟩ := hcs
  simp only [Nat.zero_add] at e_0 e_1 e_2 e_3 e_4 e_5 e_6 e_7 e_8 e_9 e_10
  have lB : gB < W7.heap.size := HR7.out.here
  refine reg_made_tail 14 (by kernel_rfl) (by kernel_rfl) ?_
  intro Ty hT fw hf
  have z0 := Class.reads hf e_6
  have z2 := Class.reads hf b_9
  have z4 := Class.reads hf m_3
  simp only [List.take_succ_cons, List.take_zero, List.drop_succ_cons, List.drop_zero]
  repeat (go_big_quiet_step ((first
   | (go_at_call 87; with_reducible exact hf.same (HC4.out _))
   | (go_at_call 86; with_reducible exact hf.same (HC5.out _))
   | (go_at_call 43; with_reducible exact hf.same (HC6.out _)))))
  refine wpQuiet_nil ?_
  intro w8 h8
  have k8 := hf.here h8
  have HV8 := hid (HV7.out.stays k8 HV7.out.here)
  have HR8 := hid (HR7.out.stays k8 HR7.out.here)
  have U8 : Hid (BuB (fun g => g = gw) w w8) := U7.out.then_ (Made.bub k8)
  clear z0 z2 z4 hf h8 k8 e_0 e_1 e_2 e_3 e_4 e_5 e_6 e_7 e_8 e_9 e_10 b_0 b_1 b_2 b_3 b_4 b_5 b_6 b_7 b_8 b_9 b_10 b_11 b_12 b_13 b_14 m_0 m_1 m_2 m_3 lB l1 l5 HO7 HV7 HM7 HR7 U7
  have hcs := (HR8.out.lsB i _ EB7.out).b11
  obtain ⟨e_0, e_1, e_2, e_3, e_4, e_5, e_6, e_7, e_8, e_9, e_10⟩ := hcs
  simp only [Nat.zero_add] at e_0 e_1 e_2 e_3 e_4 e_5 e_6 e_7 e_8 e_9 e_10
  have lB : gB < w8.heap.size := HR8.out.here
  have fB : ∀ j, w8.frozen? ⟨gB, j, none⟩ = false := HR8.out.free
  obtain ⟨W9, eW9⟩ : ∃ V, V = w8.setCell ⟨gB, i * 11 + 6, none⟩ (.int .i64 r3) := ⟨_, rfl⟩
  have hR9 : RowL encB 11 W9 gB 35 nB ((B.set i (⟨x0, x1, x2, r1, r2, x5, x6, x7, x8, x9, x10, x11, x12, x13⟩ : Bd)).set i (⟨x0, x1, x2, r1, r2, x5, r3, x7, x8, x9, x10, x11, x12, x13⟩ : Bd)) := by
   rw [eW9]
   refine HR8.out.part encB_len EB7.out 6 [.int .i64 r3] (by simp) (fun b v hv => ?_)
   have hb : b < 11 := by rw [← encB_len (⟨x0, x1, x2, r1, r2, x5, r3, x7, x8, x9, x10, x11, x12, x13⟩ : Bd)]; exact (List.getElem?_eq_some_iff.1 hv).1
   match b, hb with
   | 0, _ => exact hv
   | 1, _ => exact hv
   | 2, _ => exact hv
   | 3, _ => exact hv
   | 4, _ => exact hv
   | 5, _ => exact hv
   | 6, _ => exact hv
   | 7, _ => exact hv
   | 8, _ => exact hv
   | 9, _ => exact hv
   | 10, _ => exact hv
  have k9 : BuB (fun b => b = gB) w8 W9 := by rw [eW9]; exact (BuB.rfl_ (fun b => b = gB) w8).put (p := ⟨gB, i * 11 + 6, none⟩) (.inl rfl) _
  have HV9 := hid (HV8.out.bub k9 (fun h => hgwB h.symm))
  have U9 : Hid (BuB (fun g => g = gw) w W9) := U8.out.then_' k9 (fun b hb => by have hb : b = gB := hb; rw [hb]; exact .inr HFr.out)
  have HR9 := hid hR9
  have HEW := hid eW9
  clear eW9 hR9 k9
  go_wp2_with fail
  rw [← HEW.out]
  first | refine void_end rfl rfl ?_ | refine void_ret rfl rfl ?_
  have hLf := HL.out.bub U9.out (fun b hb => by have hb : b = gw := hb; rw [hb]; exact HXg.out)
  have hset : (B.set i (⟨x0, x1, x2, r1, r2, x5, x6, x7, x8, x9, x10, x11, x12, x13⟩ : Bd)).set i (⟨x0, x1, x2, r1, r2, x5, r3, x7, x8, x9, x10, x11, x12, x13⟩ : Bd) = B.set i (pushB vx vy sp (⟨x0, x1, x2, x3, x4, x5, x6, x7, x8, x9, x10, x11, x12, x13⟩ : Bd)) := by rw [List.set_set, HPu.out]
  have hRf := HR9.out
  rw [hset] at hRf
  have hlen : (B.set i (pushB vx vy sp (⟨x0, x1, x2, x3, x4, x5, x6, x7, x8, x9, x10, x11, x12, x13⟩ : Bd))).length = nB := by rw [List.length_set]; exact HN.out.1
  have hXB : ¬ X gB := fun hx => by have := HXw.out gB hx; have := HFr.out; omega
  have hmem : ∀ y, y ∈ B.set i (pushB vx vy sp (⟨x0, x1, x2, x3, x4, x5, x6, x7, x8, x9, x10, x11, x12, x13⟩ : Bd)) → ∃ z ∈ B, y.ao = z.ao ∧ y.n = z.n ∧ y.c = z.c ∧ y.f = z.f ∧ (BdI z → BdI y) := fun y hy => by
   rcases List.mem_or_eq_of_mem_set hy with hy | hy
   ·exact ⟨y, hy, rfl, rfl, rfl, rfl, fun h => h⟩
   ·refine ⟨(⟨x0, x1, x2, x3, x4, x5, x6, x7, x8, x9, x10, x11, x12, x13⟩ : Bd), List.mem_of_getElem? EB.out, ?_⟩
    rw [hy, HPu.out]
    exact ⟨rfl, rfl, rfl, rfl, fun h => ⟨h.id, h.x, h.y, ir1, ir2, h.an, ir3, h.de, h.k, h.r, h.f⟩⟩
  refine ⟨rfl, ⟨nb, nj, B.set i (pushB vx vy sp (⟨x0, x1, x2, x3, x4, x5, x6, x7, x8, x9, x10, x11, x12, x13⟩ : Bd)), J, C⟩, .inr ⟨i, (⟨x0, x1, x2, x3, x4, x5, x6, x7, x8, x9, x10, x11, x12, x13⟩ : Bd), EB.out, EI.out, HDe.out, rfl⟩, ⟨_, oj, oc, c', cj, cc, ?_, ⟨⟨hRf.lsT, hLf.at_.lJ, hLf.at_.lC, fun y hy => ?_, hLf.at_.iJ, hLf.at_.iC⟩, ?_, hLf.okJ, hLf.okC, fun _ b o s e => ?_, hLf.offJ, hLf.offC, fun y hy hn => ?_, fun y hy => ?_⟩⟩, U9.out⟩
  ·show Has W9 gw 42 #[.int .i64 tk, .int .i64 nb, .int .i64 nj, .int .i64 gx, .int .i64 gy, .slice _ (B.set i (pushB vx vy sp (⟨x0, x1, x2, x3, x4, x5, x6, x7, x8, x9, x10, x11, x12, x13⟩ : Bd))).length c', .slice oj J.length cj, .slice oc C.length cc]
   rw [hlen, HN.out.2.1, HN.out.2.2]
   exact HV9.out
  ·obtain ⟨z, hz, h1, h2, h3, h4, h5⟩ := hmem y hy
   obtain ⟨s1, s2⟩ := hLf.at_.sB z hz
   rw [h1, h2, h4]
   exact ⟨s1, h5 s2⟩
  ·show SlOk _ (B.set i (pushB vx vy sp (⟨x0, x1, x2, x3, x4, x5, x6, x7, x8, x9, x10, x11, x12, x13⟩ : Bd))).length c'
   rw [hlen]
   exact ⟨HNc.out.1, HNc.out.2, .inr ⟨_, _, rfl⟩⟩
  ·cases e
   exact hXB
  ·obtain ⟨z, hz, h1, h2, h3, h4, h5⟩ := hmem y hy
   rw [h1]
   exact hLf.offP z hz (by rw [← h2]; exact hn)
  ·obtain ⟨z, hz, h1, h2, h3, h4, h5⟩ := hmem y hy
   rw [h1, h2, h3]
   exact hLf.okP z hz
theorem exec_p {X : Nat → Prop} {w : World} {gw : Nat} {G : PG} (o : Or) (hV : GV X w gw G) (hG : GOk G) (hXg : X gw) (hXw : ∀ b, X b → b < w.heap.size) (hoi : OrI o) (hoP : OrderP o) (hos : Sl w o.ao o.n o.f) (hok : (o.ao = none ∧ o.n = 0 ∧ o.c = 0) ∨ ∃ a, o.ao = some a) (hmC : G.P.C.length ≤ 1073741824) :
  Calls Tryz.prog 30 #[.pointer (some ⟨gw, 0, none⟩), orV o] w fun e v => ∃ er G', e = .returned (.int .i64 er) ∧ ExecP o G er G' ∧ GV X v gw G' ∧ BuB (fun g => g = gw) w v :=
 exec_c o hV hG hXg hXw hoi hoP hos hok hmC fun _ v k => opush_c G.tk G.gx G.gy G.P.nb G.P.nj G.P.B G.P.J G.P.C o.kd o.id o.a o.b o.x o.y o.vx o.vy o.an o.sp o.de o.ln o.k o.r o.ao o.n o.c (WVar.kept hV k) hG hXg (fun b hb => Nat.lt_of_lt_of_le (hXw b hb) k.1.size) hoi.vx hoi.vy hoi.sp
theorem odo_p {X : Nat → Prop} {w : World} {gw : Nat} {G : PG} (o : Or) (hV : GV X w gw G) (hG : GOk G) (hXg : X gw) (hXw : ∀ b, X b → b < w.heap.size) (hoi : OrI o) (hoP : OrderP o) (hos : Sl w o.ao o.n o.f) (hok : (o.ao = none ∧ o.n = 0 ∧ o.c = 0) ∨ ∃ a, o.ao = some a) (hmC : G.P.C.length ≤ 1073741824) :
  Calls Tryz.prog 13 #[.pointer (some ⟨gw, 0, none⟩), orV o] w fun e v => e = .returned (.tuple #[]) ∧ ∃ er G', ExecP o G er G' ∧ GV X v gw G' ∧ BuB (fun g => g = gw) w v :=
 odo_c o hV hG hXg hXw hoi hoP hos hok hmC fun _ v k => opush_c G.tk G.gx G.gy G.P.nb G.P.nj G.P.B G.P.J G.P.C o.kd o.id o.a o.b o.x o.y o.vx o.vy o.an o.sp o.de o.ln o.k o.r o.ao o.n o.c (WVar.kept hV k) hG hXg (fun b hb => Nat.lt_of_lt_of_le (hXw b hb) k.1.size) hoi.vx hoi.vy hoi.sp
end Go.Proofs.YtjecadafjnbijaaGreat.Fx
/- Equal worlds go the same way, plain. -/
namespace Go.Proofs.YtjecadafjnbijaaGreat.Fx
open Go.ChangeShapes Go.WideShapes Go.ChangeAt Go.RowKit
set_option linter.unusedVariables false
theorem eqb_nil (B' : List Bd) (h : EqBs [] B') : B' = [] := List.eq_nil_of_length_eq_zero h.1.symm
theorem eqb_cons {b b' : Bd} {B B' : List Bd} : EqBs (b :: B) (b' :: B') ↔ EqB b b' ∧ EqBs B B' := by
 constructor
 ·intro h
  refine ⟨h.2 0 b b' rfl rfl, by simpa using h.1, fun i x y hx hy => h.2 (i + 1) x y (by simpa using hx) (by simpa using hy)⟩
 ·rintro ⟨h0, h1, h2⟩
  refine ⟨by simpa using h1, fun i x y hx hy => ?_⟩
  cases i with
  | zero => simp at hx hy; subst hx; subst hy; exact h0
  | succ i => exact h2 i x y (by simpa using hx) (by simpa using hy)
theorem EqBs.ids {B B' : List Bd} (h : EqBs B B') : Fx.ids B = Fx.ids B' := by
 induction B generalizing B' with
 | nil => rw [eqb_nil _ h]
 | cons b B ih =>
  cases B' with
  | nil => exact absurd h.1 (by simp)
  | cons b' B' =>
   obtain ⟨h0, h1⟩ := eqb_cons.1 h
   show b.id :: Fx.ids B = b'.id :: Fx.ids B'
   rw [ih h1, h0.1]
theorem EqBs.snoc {B B' : List Bd} {b b' : Bd} (h : EqBs B B') (k : EqB b b') : EqBs (B ++ [b]) (B' ++ [b']) := by
 induction B generalizing B' with
 | nil => rw [eqb_nil _ h]; exact eqb_cons.2 ⟨k, rfl, fun i x y hx => by simp at hx⟩
 | cons c B ih =>
  cases B' with
  | nil => exact absurd h.1 (by simp)
  | cons c' B' =>
   obtain ⟨h0, h1⟩ := eqb_cons.1 h
   exact eqb_cons.2 ⟨h0, ih h1⟩
theorem EqBs.filter {B B' : List Bd} (h : EqBs B B') (p : Bd → Bool) (hp : ∀ x y, EqB x y → p x = p y) : EqBs (B.filter p) (B'.filter p) := by
 induction B generalizing B' with
 | nil => rw [eqb_nil _ h]; exact ⟨rfl, fun i x y hx => by simp at hx⟩
 | cons b B ih =>
  cases B' with
  | nil => exact absurd h.1 (by simp)
  | cons b' B' =>
   obtain ⟨h0, h1⟩ := eqb_cons.1 h
   rw [List.filter_cons, List.filter_cons, hp b b' h0]
   split
   ·exact eqb_cons.2 ⟨h0, ih h1⟩
   ·exact ih h1
theorem sumT_same (T : Int × Int → Int × Int → Int) {f g : Cs} {n : Nat} (h : ∀ i, i < n → f i = g i) : ∀ m, m ≤ n → sumT T f n m = sumT T g n m
 | 0, _ => rfl
 | m + 1, hm => by
  unfold sumT
  rw [sumT_same T h m (by omega), h m (by omega), h ((m + 1) % n) (Nat.mod_lt _ (by omega))]
theorem EqB.area {b b' : Bd} (h : EqB b b') : areaB b = areaB b' ∧ roundB b = roundB b' := by
 obtain ⟨_, _, _, _, _, _, hk, hr, hn, hf⟩ := h
 unfold areaB roundB
 rw [hk, hr, hn, sumT_same areaT (f := b.f) (g := b'.f) (n := b'.n) (fun i hi => hf i (by omega)) _ (Nat.le_refl _), sumT_same roundT (f := b.f) (g := b'.f) (n := b'.n) (fun i hi => hf i (by omega)) _ (Nat.le_refl _)]
 exact ⟨rfl, rfl⟩
theorem EqB.push {b b' : Bd} (h : EqB b b') (vx vy sp : Int) : EqB (pushB vx vy sp b) (pushB vx vy sp b') := by
 obtain ⟨ha, hr⟩ := h.area
 have hm : moveB b = moveB b' := by unfold moveB; rw [h.2.2.2.2.2.1, ha]
 have hs : spinB b = spinB b' := by unfold spinB; rw [h.2.2.2.2.2.1, hr]
 obtain ⟨h1, ⟨h2, h2'⟩, ⟨h3, h3'⟩, h4, h5, h6, h7, h8, h9, h10⟩ := h
 unfold pushB
 rw [hm, hs, h3, h3', h5]
 exact ⟨h1, ⟨h2, h2'⟩, ⟨rfl, rfl⟩, h4, rfl, h6, h7, h8, h9, h10⟩
def EqG (G H : PG) : Prop := G.tk = H.tk ∧ G.gx = H.gx ∧ G.gy = H.gy ∧ G.P.nb = H.P.nb ∧ G.P.nj = H.P.nj ∧ EqBs G.P.B H.P.B ∧ G.P.J = H.P.J ∧ G.P.C = H.P.C
theorem right_same {K R : Int} {n : Nat} {f g : Cs} (h : RightP K R n f) (e : ∀ i, i < n → f i = g i) : RightP K R n g := by
 rcases h with h | ⟨h1, h2, h3, h4, h5, h6⟩
 ·exact .inl h
 ·refine .inr ⟨h1, h2, h3, h4, fun i hi => by rw [← e i hi]; exact h5 i hi, fun i hi j hj a b => ?_⟩
  have h7 := h6 i hi j hj a b
  unfold crossF at h7 ⊢
  rwa [e i hi, e j hj, e ((i + 1) % n) (Nat.mod_lt _ (by omega))] at h7
theorem body_same {b b' : Bd} (h : EqB b { b' with id := b.id }) (k : BodyP b) : BodyP b' := by
 obtain ⟨_, ⟨h2, h2'⟩, ⟨h3, h3'⟩, h4, h5, h6, h7, h8, h9, h10⟩ := h
 have h2 : b.x = b'.x := h2; have h2' : b.y = b'.y := h2'; have h3 : b.vx = b'.vx := h3; have h3' : b.vy = b'.vy := h3'
 have h4 : b.an = b'.an := h4; have h5 : b.sp = b'.sp := h5; have h6 : b.de = b'.de := h6; have h7 : b.k = b'.k := h7; have h8 : b.r = b'.r := h8; have h9 : b.n = b'.n := h9
 refine ⟨?_, by rw [← h2]; exact k.x, by rw [← h2']; exact k.y, by rw [← h3]; exact k.vx, by rw [← h3']; exact k.vy, by rw [← h5]; exact k.sp, by rw [← h4]; exact k.an, by rw [← h6]; exact k.de, fun h0 => by rw [← h3, ← h3', ← h5]; exact k.still (h6.trans h0)⟩
 have hf : ∀ i, i < b'.n → b.f i = b'.f i := fun i hi => h10 i (by omega)
 rw [← h7, ← h8, ← h9]
 exact right_same k.shape (fun i hi => hf i (by omega))
theorem add_same {G H : PG} {b b' : Bd} {n e n' e' : Int} {P' Q' : PW} (h : EqG G H) (hb : EqB b { b' with id := b.id }) (k : AddBP b G.P n e P') (k' : AddBP b' H.P n' e' Q') : EqG ⟨G.tk, G.gx, G.gy, P'⟩ ⟨H.tk, H.gx, H.gy, Q'⟩ := by
 obtain ⟨e1, e2, e3, e4, e5, e6, e7, e8⟩ := h
 have hB : BodyP b ↔ BodyP b' := ⟨body_same hb, fun k => body_same (b := b') (b' := b) (by
  obtain ⟨_, ⟨h2, h2'⟩, ⟨h3, h3'⟩, h4, h5, h6, h7, h8, h9, h10⟩ := hb
  exact ⟨rfl, ⟨h2.symm, h2'.symm⟩, ⟨h3.symm, h3'.symm⟩, h4.symm, h5.symm, h6.symm, h7.symm, h8.symm, h9.symm, fun i hi => (h10 i (by have h9 : b.n = b'.n := h9; omega)).symm⟩) k⟩
 have hl := e6.1
 rcases k with ⟨a, _, _, rfl⟩ | ⟨a, c, _, _, rfl⟩ | ⟨a, c, d, _, _, ao, cc, rfl⟩
 ·rcases k' with ⟨_, _, _, rfl⟩ | ⟨a', _⟩ | ⟨a', _⟩
  ·exact ⟨e1, e2, e3, e4, e5, e6, e7, e8⟩
  ·exact absurd (hB.2 a') a
  ·exact absurd (hB.2 a') a
 ·rcases k' with ⟨a', _⟩ | ⟨_, _, _, _, rfl⟩ | ⟨_, c', d', _⟩
  ·exact absurd (hB.1 a) a'
  ·exact ⟨e1, e2, e3, e4, e5, e6, e7, e8⟩
  ·omega
 ·rcases k' with ⟨a', _⟩ | ⟨_, c', _⟩ | ⟨_, _, _, _, _, ao', cc', rfl⟩
  ·exact absurd (hB.1 a) a'
  ·omega
  ·refine ⟨e1, e2, e3, by show _ + 1 = _ + 1; rw [e4], e5, e6.snoc ?_, e7, e8⟩
   obtain ⟨_, h2, h3, h4, h5, h6, h7, h8, h9, h10⟩ := hb
   exact ⟨e4, h2, h3, h4, h5, h6, h7, h8, h9, h10⟩
theorem remb_same {G H : PG} {id : Int} {g g' : Bool} {P' Q' : PW} (h : EqG G H) (k : RemBP id G.P g P') (k' : RemBP id H.P g' Q') : EqG ⟨G.tk, G.gx, G.gy, P'⟩ ⟨H.tk, H.gx, H.gy, Q'⟩ := by
 obtain ⟨e1, e2, e3, e4, e5, e6, e7, e8⟩ := h
 have hi := e6.ids
 rcases k with ⟨a, _, rfl⟩ | ⟨a, _, rfl⟩
 ·rcases k' with ⟨_, _, rfl⟩ | ⟨a', _⟩
  ·exact ⟨e1, e2, e3, e4, e5, e6, e7, e8⟩
  ·exact absurd (by rw [hi]; exact a') a
 ·rcases k' with ⟨a', _⟩ | ⟨_, _, rfl⟩
  ·exact absurd (by rw [← hi]; exact a) a'
  ·refine ⟨e1, e2, e3, e4, e5, e6.filter _ (fun x y hxy => by unfold goneB; rw [hxy.1]), ?_, ?_⟩
   ·show G.P.J.filter _ = H.P.J.filter _; rw [e7]
   ·show G.P.C.filter _ = H.P.C.filter _; rw [e8]
theorem addj_same {G H : PG} {j j' : Jt} {n e n' e' : Int} {P' Q' : PW} (h : EqG G H) (hj : j' = { j with id := j'.id }) (k : AddJP j G.P n e P') (k' : AddJP j' H.P n' e' Q') : EqG ⟨G.tk, G.gx, G.gy, P'⟩ ⟨H.tk, H.gx, H.gy, Q'⟩ := by
 obtain ⟨e1, e2, e3, e4, e5, e6, e7, e8⟩ := h
 have hi := e6.ids
 have hJ : JointP j ↔ JointP j' := by rw [hj]; exact ⟨fun k => ⟨k.ax, k.ay, k.tx, k.ty, k.ln, k.a, k.b, k.ab⟩, fun k => ⟨k.ax, k.ay, k.tx, k.ty, k.ln, k.a, k.b, k.ab⟩⟩
 have ha : j'.a = j.a := by rw [hj]
 have hb : j'.b = j.b := by rw [hj]
 have hn : newJ G.P.nj j = newJ H.P.nj j' := by rw [hj, e5]; rfl
 unfold AddJP at k'
 rw [← hi, ← e7, ← e5, ha, hb] at k'
 rcases k with ⟨a, _, _, rfl⟩ | ⟨a, c, _, _, rfl⟩ | ⟨a, c, d, _, _, rfl⟩ | ⟨a, c, d, f, _, _, rfl⟩
 ·rcases k' with ⟨_, _, _, rfl⟩ | ⟨a', _⟩ | ⟨a', _⟩ | ⟨a', _⟩
  ·exact ⟨e1, e2, e3, e4, e5, e6, e7, e8⟩
  all_goals exact absurd (hJ.2 a') a
 ·rcases k' with ⟨a', _⟩ | ⟨_, _, _, _, rfl⟩ | ⟨_, c', _⟩ | ⟨_, c', _⟩
  ·exact absurd (hJ.1 a) a'
  ·exact ⟨e1, e2, e3, e4, e5, e6, e7, e8⟩
  all_goals exact absurd c' c
 ·rcases k' with ⟨a', _⟩ | ⟨_, c', _⟩ | ⟨_, _, _, _, _, rfl⟩ | ⟨_, _, d', f', _⟩
  ·exact absurd (hJ.1 a) a'
  ·exact absurd c c'
  ·exact ⟨e1, e2, e3, e4, e5, e6, e7, e8⟩
  ·omega
 ·rcases k' with ⟨a', _⟩ | ⟨_, c', _⟩ | ⟨_, _, d', _⟩ | ⟨_, _, _, _, _, _, rfl⟩
  ·exact absurd (hJ.1 a) a'
  ·exact absurd c c'
  ·omega
  ·refine ⟨e1, e2, e3, e4, by show _ + 1 = _ + 1; rw [e5], e6, ?_, e8⟩
   show G.P.J ++ [newJ G.P.nj j] = _
   rw [e7, hn, ← e5]
theorem remj_same {G H : PG} {id : Int} {g g' : Bool} {P' Q' : PW} (h : EqG G H) (k : RemJP id G.P g P') (k' : RemJP id H.P g' Q') : EqG ⟨G.tk, G.gx, G.gy, P'⟩ ⟨H.tk, H.gx, H.gy, Q'⟩ := by
 obtain ⟨e1, e2, e3, e4, e5, e6, e7, e8⟩ := h
 rcases k with ⟨a, _, rfl⟩ | ⟨a, _, rfl⟩
 ·rcases k' with ⟨_, _, rfl⟩ | ⟨a', _⟩
  ·exact ⟨e1, e2, e3, e4, e5, e6, e7, e8⟩
  ·exact absurd (by rw [e7]; exact a') a
 ·rcases k' with ⟨a', _⟩ | ⟨_, _, rfl⟩
  ·exact absurd (by rw [← e7]; exact a) a'
  ·refine ⟨e1, e2, e3, e4, e5, e6, ?_, e8⟩
   show G.P.J.filter _ = H.P.J.filter _; rw [e7]
def pushOne (id vx vy sp : Int) (b : Bd) : Bd := if b.id = id ∧ b.de ≠ 0 then pushB vx vy sp b else b
theorem push_same {G H : PG} {id vx vy sp : Int} {P' : PW} (h : EqG G H) (hG : POk G.P) (k : PushP id vx vy sp G.P P') : EqG ⟨G.tk, G.gx, G.gy, P'⟩ ⟨H.tk, H.gx, H.gy, ⟨H.P.nb, H.P.nj, H.P.B.map (pushOne id vx vy sp), H.P.J, H.P.C⟩⟩ := by
 obtain ⟨e1, e2, e3, e4, e5, e6, e7, e8⟩ := h
 have get : ∀ (j : Nat) y, (H.P.B.map (pushOne id vx vy sp))[j]? = some y → ∃ z, H.P.B[j]? = some z ∧ y = pushOne id vx vy sp z := fun j y hy => by
  rw [List.getElem?_map] at hy
  cases hz : H.P.B[j]? with
  | none => rw [hz] at hy; cases hy
  | some z => rw [hz] at hy; exact ⟨z, rfl, (Option.some.inj hy).symm⟩
 rcases k with ⟨a, rfl⟩ | ⟨i, b, hb, hi, hd, rfl⟩
 ·refine ⟨e1, e2, e3, e4, e5, ⟨by rw [List.length_map]; exact e6.1, fun j x y hx hy => ?_⟩, e7, e8⟩
  obtain ⟨z, hz, rfl⟩ := get j y hy
  have hxz := e6.2 j x z hx hz
  have hno : ¬ (z.id = id ∧ z.de ≠ 0) := fun ⟨h1, h2⟩ => by
   have hm := List.mem_of_getElem? hx
   have h3 := a x hm (hxz.1.trans h1)
   have h4 := (hG.hB.all x hm).de.1
   have h5 := hxz.2.2.2.2.2.1
   omega
  unfold pushOne
  rw [if_neg hno]
  exact hxz
 ·refine ⟨e1, e2, e3, e4, e5, ⟨by rw [List.length_map, List.length_set]; exact e6.1, fun j x y hx hy => ?_⟩, e7, e8⟩
  obtain ⟨z, hz, rfl⟩ := get j y hy
  have hx : (G.P.B.set i (pushB vx vy sp b))[j]? = some x := hx
  unfold pushOne
  by_cases hj : i = j
  ·subst hj
   rw [List.getElem?_set_self (List.getElem?_eq_some_iff.1 hb).1] at hx
   have hx := Option.some.inj hx
   have hbz := e6.2 i b z hb hz
   rw [← hx, if_pos ⟨hbz.1.symm.trans hi, by have := hbz.2.2.2.2.2.1; omega⟩]
   exact hbz.push vx vy sp
  ·rw [List.getElem?_set_ne hj] at hx
   have hxz := e6.2 j x z hx hz
   rw [if_neg (fun h1 => hj (id_at hG.hB.num.2.2.1 hb hx (hi.trans (hxz.1.trans h1.1).symm)))]
   exact hxz
theorem exec1_of {o : Or} {G G' : PG} {er : Int} (hk : o.kd = 1) (h : ExecP o G er G') : ∃ n P', AddBP (bodyOr o) G.P n er P' ∧ G' = ⟨G.tk, G.gx, G.gy, P'⟩ := by
 rcases h with ⟨_, h⟩ | ⟨h, _⟩ | ⟨h, _⟩ | ⟨h, _⟩ | ⟨h, _⟩ | ⟨h, _⟩
 ·exact h
 all_goals omega
theorem exec2_of {o : Or} {G G' : PG} {er : Int} (hk : o.kd = 2) (h : ExecP o G er G') : ∃ gone P', RemBP o.id G.P gone P' ∧ G' = ⟨G.tk, G.gx, G.gy, P'⟩ := by
 rcases h with ⟨h, _⟩ | ⟨_, _, h⟩ | ⟨h, _⟩ | ⟨h, _⟩ | ⟨h, _⟩ | ⟨h, _⟩
 ·omega
 ·exact h
 all_goals omega
theorem exec3_of {o : Or} {G G' : PG} {er : Int} (hk : o.kd = 3) (h : ExecP o G er G') : ∃ n P', AddJP (jointOr o) G.P n er P' ∧ G' = ⟨G.tk, G.gx, G.gy, P'⟩ := by
 rcases h with ⟨h, _⟩ | ⟨h, _⟩ | ⟨_, h⟩ | ⟨h, _⟩ | ⟨h, _⟩ | ⟨h, _⟩
 ·omega
 ·omega
 ·exact h
 all_goals omega
theorem exec4_of {o : Or} {G G' : PG} {er : Int} (hk : o.kd = 4) (h : ExecP o G er G') : ∃ gone P', RemJP o.id G.P gone P' ∧ G' = ⟨G.tk, G.gx, G.gy, P'⟩ := by
 rcases h with ⟨h, _⟩ | ⟨h, _⟩ | ⟨h, _⟩ | ⟨_, _, h⟩ | ⟨h, _⟩ | ⟨h, _⟩
 ·omega
 ·omega
 ·omega
 ·exact h
 all_goals omega
theorem exec5_of {o : Or} {G G' : PG} {er : Int} (hk : o.kd = 5) (h : ExecP o G er G') : ∃ P', PushP o.id o.vx o.vy o.sp G.P P' ∧ G' = ⟨G.tk, G.gx, G.gy, P'⟩ := by
 rcases h with ⟨h, _⟩ | ⟨h, _⟩ | ⟨h, _⟩ | ⟨h, _⟩ | ⟨_, _, h⟩ | ⟨h, _⟩
 ·omega
 ·omega
 ·omega
 ·omega
 ·exact h
 ·omega
theorem exec6_of {o : Or} {G G' : PG} {er : Int} (hk : o.kd = 6) (h : ExecP o G er G') : G' = ⟨G.tk, o.vx, o.vy, G.P⟩ := by
 rcases h with ⟨h, _⟩ | ⟨h, _⟩ | ⟨h, _⟩ | ⟨h, _⟩ | ⟨h, _⟩ | ⟨_, _, h⟩
 ·omega
 ·omega
 ·omega
 ·omega
 ·omega
 ·exact h
def curB (id vx vy sp : Int) (B : List Bd) (k : Nat) : List Bd := (B.take k).map (pushOne id vx vy sp) ++ B.drop k
theorem exec_C {o : Or} {G G' : PG} {er : Int} (h : ExecP o G er G') : G'.P.C.length ≤ G.P.C.length := by
 rcases h with ⟨_, n, P', k, rfl⟩ | ⟨_, _, g, P', k, rfl⟩ | ⟨_, n, P', k, rfl⟩ | ⟨_, _, g, P', k, rfl⟩ | ⟨_, _, P', k, rfl⟩ | ⟨_, _, rfl⟩
 ·rcases k with ⟨_, _, _, rfl⟩ | ⟨_, _, _, _, rfl⟩ | ⟨_, _, _, _, _, ao, c, rfl⟩ <;> exact Nat.le_refl _
 ·rcases k with ⟨_, _, rfl⟩ | ⟨_, _, rfl⟩
  ·exact Nat.le_refl _
  ·exact List.length_filter_le _ _
 ·rcases k with ⟨_, _, _, rfl⟩ | ⟨_, _, _, _, rfl⟩ | ⟨_, _, _, _, _, rfl⟩ | ⟨_, _, _, _, _, _, rfl⟩ <;> exact Nat.le_refl _
 ·rcases k with ⟨_, _, rfl⟩ | ⟨_, _, rfl⟩ <;> exact Nat.le_refl _
 ·rcases k with ⟨_, rfl⟩ | ⟨i, b, _, _, _, rfl⟩ <;> exact Nat.le_refl _
 ·exact Nat.le_refl _
end Go.Proofs.YtjecadafjnbijaaGreat.Fx
/- Contacts that are added one by one. -/
namespace Go.Proofs.YtjecadafjnbijaaGreat.Fx
open Go.ChangeShapes Go.WideShapes Go.ChangeAt Go.RowKit
set_option linter.unusedVariables false
def GoodC (ys : List Ct) : Prop := (∀ y ∈ ys, y.a < y.b ∧ 0 ≤ y.n) ∧ ys.Pairwise LtC
def PlainC (B : List Bd) (ys : List Ct) : Prop := ∀ y ∈ ys, CtI y ∧ 0 ≤ y.key ∧ y.a ∈ ids B ∧ y.b ∈ ids B
end Go.Proofs.YtjecadafjnbijaaGreat.Fx
/- What a slice of vectors that came in holds. -/
namespace Go.Proofs.YtjecadafjnbijaaGreat.Fx
open Go.ChangeShapes Go.WideShapes Go.ChangeAt Go.RowKit Go.Deep
set_option linter.unusedVariables false
section
variable {H : Type} {enc : TypeId × Value → H} {w : World} {base : Nat} {spare : Nat → Bool} {held : Bool}
theorem open_pts {fuel : Nat} {v : Value} {y : DataW H × List MemPlace} (h : DataW.trod enc Tryz.prog w base spare held fuel 31 [v] = some y) :
  ∃ ao len cap f, v = .slice ao len cap ∧ Sl w ao len f ∧ Cin f len := by
 rcases open_slice_pairs Tryz.underlying31 Tryz.underlying28 (by kernel_rfl) rfl rfl (by kernel_rfl) (by kernel_rfl) h with ⟨hcs, _⟩ | ⟨a, len, cap, m, n, V0, V1, D0, D1, P0, P1, hcs, _, _, _, hm, _, hf⟩
 ·simp at hcs
  exact ⟨none, 0, 0, fun _ => (0, 0), hcs, fun h => absurd h (by omega), fun i hi => absurd hi (by omega)⟩
 ·simp at hcs
  have hlm : len ≤ m := by rw [hm]; split <;> omega
  obtain ⟨f, hc⟩ := choose_lt (α := Int × Int) (n := len) (p := fun i x => (w.cell? (a.add (i * 2)) = some (.int .i64 x.1) ∧ w.cell? (a.add (i * 2 + 1)) = some (.int .i64 x.2)) ∧ I64 x.1 ∧ I64 x.2) (fun i hi => by
   obtain ⟨c0, c1, t0, t1⟩ := hf i (by omega)
   obtain ⟨x, ex, _, wx⟩ := DataW.trod_int Tryz.underlying26 t0
   obtain ⟨z, ez, _, wz⟩ := DataW.trod_int Tryz.underlying26 t1
   simp at ex ez
   rw [ex] at c0
   rw [ez] at c1
   exact ⟨(x, z), ⟨c0, c1⟩, I64_wf wx, I64_wf wz⟩)
  refine ⟨some a, len, cap, f, hcs, fun h0 => ?_, fun i hi => (hc i hi).2⟩
  obtain ⟨b, off, spot⟩ := a
  have hspot : spot = none := by simpa [Addr.add] using World.cell?_spot (hc 0 h0).1.1
  subst hspot
  refine ⟨b, off, rfl, fun i hi => ?_⟩
  have := (hc i hi).1
  rw [Addr.add_lit, Addr.add_lit] at this
  exact ⟨this.1, by rw [Nat.add_assoc]; exact this.2⟩
end
end Go.Proofs.YtjecadafjnbijaaGreat.Fx