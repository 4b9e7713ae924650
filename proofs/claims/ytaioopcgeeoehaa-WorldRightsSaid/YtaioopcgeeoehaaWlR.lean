/- WorldRights. -/
import Derived.Test.YtaioopcgeeoehaaWlP
import Derived.Test.YtaioopcgeeoehaaWlC
namespace Go.Proofs.Ytaioopcgeeoehaa.Fx
open Go.ChangeShapes Go.WideShapes Go.ChangeAt Go.RowKit
set_option linter.unusedVariables false

theorem bneq (r : Bool) (w : World) : (binOp .neq 4 (.bool r) (.bool r)).run Try.prog w = .ok (.bool false) w := by cases r <;> go_simp
theorem beq_neq (r : Bool) : (r != r) = false := by cases r <;> rfl
theorem SameB.i {b b' : Bd} (h : SameB b b') (k : BdI b) : BdI b' := by
  obtain ⟨h0, h1, h2, h3, h4, h5, h6, h7, h8, h9, h10, h11⟩ := h
  exact ⟨h0 ▸ k.id, h1 ▸ k.x, h2 ▸ k.y, h3 ▸ k.vx, h4 ▸ k.vy, h5 ▸ k.an, h6 ▸ k.sp, h7 ▸ k.de, h8 ▸ k.k, h9 ▸ k.r, h10 ▸ h11 ▸ k.f⟩
theorem same_at {B B' : List Bd} {n : Nat} (hn : B.length = n) (hn' : B'.length = n) (h : ∀ (i : Nat) b b', B[i]? = some b → B'[i]? = some b' → SameB b b') {i : Nat} {b' : Bd} (hb : B'[i]? = some b') : ∃ b, B[i]? = some b ∧ SameB b b' := by
  have hi := (List.getElem?_eq_some_iff.1 hb).1
  have hx : B[i]? = some (B[i]'(by omega)) := List.getElem?_eq_getElem (by omega)
  exact ⟨_, hx, h i _ _ hx hb⟩
theorem same_ids {B B' : List Bd} {n : Nat} (hn : B.length = n) (hn' : B'.length = n) (h : ∀ (i : Nat) b b', B[i]? = some b → B'[i]? = some b' → SameB b b') : ids B' = ids B := by
  refine List.ext_getElem? fun i => ?_
  simp only [ids, List.getElem?_map]
  rcases Nat.lt_or_ge i n with hi | hi
  · have hx : B[i]? = some (B[i]'(by omega)) := List.getElem?_eq_getElem (by omega)
    have hx' : B'[i]? = some (B'[i]'(by omega)) := List.getElem?_eq_getElem (by omega)
    rw [hx, hx']
    simp [(h i _ _ hx hx').1]
  · rw [List.getElem?_eq_none (by omega), List.getElem?_eq_none (by omega)]
theorem own_some {b n c : Nat} {ao : Option Addr} (e : some b = (Value.slice ao n c).ownBlock) : ∃ off s, ao = some ⟨b, off, s⟩ := by
  cases ao with
  | none => cases e
  | some a => obtain ⟨b', off, s⟩ := a; cases e; exact ⟨off, s, rfl⟩
theorem n8_of {P : PW} (h : POk P) : ∀ b ∈ P.B, b.n ≤ 8 := fun b hb => right_n (h.hB.all b hb).shape
set_option maxRecDepth 100000 in
set_option maxHeartbeats 16000000 in
theorem wrights_long (l0 : Option Addr) (nl cl : Nat) (id x y vx vy an sp de k r : Int) (ao : Option Addr) (n c : Nat) (h0 h1 : Int) (w : World) (hn : 12 < n) :
    Calls Try.prog 4 #[.slice l0 nl cl, bodyV id x y vx vy an sp de k r (.slice ao n c), .agg #[.int .i64 h0, .int .i64 h1]] w fun e v => e = .returned (.bool true) ∧ Made w.heap.size w v := by
  obtain ⟨W, eW⟩ : ∃ W, W = (w.alloc (.cells #[.int .i64 id, .int .i64 x, .int .i64 y, .int .i64 vx, .int .i64 vy, .int .i64 an, .int .i64 sp, .int .i64 de, .int .i64 k, .int .i64 r, .slice ao n c] 43)).alloc (.cells #[.int .i64 h0, .int .i64 h1] 54) := ⟨_, rfl⟩
  have KW : Hid (Made w.heap.size w W) := by unfold Hid; rw [eW]; exact ((Made.rfl_ _ _).cells (Nat.le_refl _) _ _).cells (by simp) _ _
  have HB : Hid (Has W w.heap.size 43 #[.int .i64 id, .int .i64 x, .int .i64 y, .int .i64 vx, .int .i64 vy, .int .i64 an, .int .i64 sp, .int .i64 de, .int .i64 k, .int .i64 r, .slice ao n c]) := by unfold Hid; rw [eW]; exact (has_new _ _ _).more _
  obtain ⟨g0, eg0⟩ : ∃ g, w.heap.size = g := ⟨_, rfl⟩
  rw [eg0] at HB
  go_enter Try.func4, Try.ntmps4
  go_upto_region 1 with fail
  rw [← eW]
  clear eW
  try rw [eg0]
  go_wp2_with fail
  refine (wfit_c _).mono ?_
  rintro e w1 ⟨rfl, k1⟩
  have K1 := hid (KW.out.then_ (k1.low KW.out.1.size))
  have HB1 := hid (HB.out.stays k1 HB.out.here)
  clear k1
  have b0 := HB1.out.at_ 0
  have b1 := HB1.out.at_ 1
  have b2 := HB1.out.at_ 2
  have b3 := HB1.out.at_ 3
  have b4 := HB1.out.at_ 4
  have b5 := HB1.out.at_ 5
  have b6 := HB1.out.at_ 6
  have b7 := HB1.out.at_ 7
  have b8 := HB1.out.at_ 8
  have b9 := HB1.out.at_ 9
  have b10 := HB1.out.at_ 10
  simp at b0 b1 b2 b3 b4 b5 b6 b7 b8 b9 b10
  have lb : g0 < w1.heap.size := HB1.out.here
  go_wp2_with fail
  go_ret
  exact ⟨rfl, by first | exact K1.out | exact eg0 ▸ K1.out⟩
set_option maxRecDepth 100000 in
set_option maxHeartbeats 32000000 in
theorem wrights_walk (l : List De) (l0 : Option Addr) (nl cl : Nat) (id x y vx vy an sp de k r : Int) (ao : Option Addr) (n c : Nat) (f : Cs) (h0 h1 : Int) (w : World) (hn : n ≤ 12) (hnl : l.length = nl) (hD : DesAt w l0 l) (hnc : nl ≤ cl) (hcm : cl ≤ maxLen) (ho : (l0 = none ∧ nl = 0 ∧ cl = 0) ∨ ∃ a, l0 = some a)
    (hs : Sl w ao n f) (hi : BdI ⟨id, x, y, vx, vy, an, sp, de, k, r, ao, n, c, f⟩) :
    Calls Try.prog 4 #[.slice l0 nl cl, bodyV id x y vx vy an sp de k r (.slice ao n c), .agg #[.int .i64 h0, .int .i64 h1]] w fun e v => e = .returned (.bool true) ∧ Made w.heap.size w v := by
  obtain ⟨q, hq⟩ := a_bool (BodyP ⟨id, x, y, vx, vy, an, sp, de, k, r, ao, n, c, f⟩)
  obtain ⟨q2, hq2⟩ := a_bool (JointP ⟨0, id, an, x, y, vx, vy, sp⟩)
  have hsk : ∀ v, Made w.heap.size w v → Sl v ao n f := fun v k hn => by obtain ⟨b, off, e, hp⟩ := hs hn; exact ⟨b, off, e, hp.kept k⟩
  have HRB := hid (fun v (k' : Made w.heap.size w v) => rbody_c id x y vx vy an sp de k r ao n c f q v (hsk v k') hi hq)
  have HMY := hid (fun v (k' : Made w.heap.size w v) => may_c id x y vx vy an sp de k r ao n c f q v (hsk v k') hi hq)
  have HRJ := hid (fun v => rjoint_c ⟨0, id, an, x, y, vx, vy, sp⟩ q2 v ⟨i64_0, hi.id, hi.an, hi.x, hi.y, hi.vx, hi.vy, hi.sp⟩ hq2)
  have HJN := hid (fun v => joins_c ⟨0, id, an, x, y, vx, vy, sp⟩ q2 v hq2)
  have HMd := hid (fun v (k : Made w.heap.size w v) => made_c 12 (by omega) hnl (hD.kept k) hnc hcm ho)
  have n1 := bneq q
  have n2 := bneq q2
  obtain ⟨K, eK⟩ : ∃ z, h0 % 8 = z := ⟨_, rfl⟩
  have aK := (and7 h0).trans eK
  have hKr : 0 ≤ K ∧ K < 8 := by omega
  clear hs hi hq hq2 hsk hnl hD hnc hcm ho eK
  obtain ⟨W, eW⟩ : ∃ W, W = (w.alloc (.cells #[.int .i64 id, .int .i64 x, .int .i64 y, .int .i64 vx, .int .i64 vy, .int .i64 an, .int .i64 sp, .int .i64 de, .int .i64 k, .int .i64 r, .slice ao n c] 43)).alloc (.cells #[.int .i64 h0, .int .i64 h1] 54) := ⟨_, rfl⟩
  have KW : Hid (Made w.heap.size w W) := by unfold Hid; rw [eW]; exact ((Made.rfl_ _ _).cells (Nat.le_refl _) _ _).cells (by simp) _ _
  have HB : Hid (Has W w.heap.size 43 #[.int .i64 id, .int .i64 x, .int .i64 y, .int .i64 vx, .int .i64 vy, .int .i64 an, .int .i64 sp, .int .i64 de, .int .i64 k, .int .i64 r, .slice ao n c]) := by unfold Hid; rw [eW]; exact (has_new _ _ _).more _
  have HA : Hid (Has W (w.heap.size + 1) 54 #[.int .i64 h0, .int .i64 h1]) := by unfold Hid; rw [eW]; exact has_nxt' _ _ _ _
  obtain ⟨g0, eg0⟩ : ∃ g, w.heap.size = g := ⟨_, rfl⟩
  obtain ⟨g1, eg1⟩ : ∃ g, g0 + 1 = g := ⟨_, rfl⟩
  rw [eg0] at HB
  rw [eg0, eg1] at HA
  go_enter Try.func4, Try.ntmps4
  go_upto_region 1 with fail
  rw [← eW]
  clear eW
  try rw [eg0]
  try rw [eg1]
  go_wp2_with fail
  refine (wfit_c _).mono ?_
  rintro e w1 ⟨rfl, k1⟩
  have K1 := hid (KW.out.then_ (k1.low KW.out.1.size))
  have HB1 := hid (HB.out.stays k1 HB.out.here)
  have HA1 := hid (HA.out.stays k1 HA.out.here)
  clear k1 HB HA KW
  have b0 := HB1.out.at_ 0
  have b1 := HB1.out.at_ 1
  have b2 := HB1.out.at_ 2
  have b3 := HB1.out.at_ 3
  have b4 := HB1.out.at_ 4
  have b5 := HB1.out.at_ 5
  have b6 := HB1.out.at_ 6
  have b7 := HB1.out.at_ 7
  have b8 := HB1.out.at_ 8
  have b9 := HB1.out.at_ 9
  have b10 := HB1.out.at_ 10
  simp at b0 b1 b2 b3 b4 b5 b6 b7 b8 b9 b10
  have lb : g0 < w1.heap.size := HB1.out.here
  go_upto_region 6 with fail
  obtain ⟨W2, eW2⟩ : ∃ V, V = w1.alloc (.cells #[.int .i64 0, .int .i64 id, .int .i64 an, .int .i64 x, .int .i64 y, .int .i64 vx, .int .i64 vy, .int .i64 sp] 51) := ⟨_, rfl⟩
  have kk2 : Made w1.heap.size w1 W2 := by rw [eW2]; exact (Made.rfl_ _ _).cells (Nat.le_refl _) _ _
  have HJ2 : Hid (Has W2 w1.heap.size 51 #[.int .i64 0, .int .i64 id, .int .i64 an, .int .i64 x, .int .i64 y, .int .i64 vx, .int .i64 vy, .int .i64 sp]) := by unfold Hid; rw [eW2]; exact has_new _ _ _
  have K2 := hid (K1.out.then_ (kk2.low K1.out.1.size))
  have HB2 := hid (HB1.out.stays kk2 lb)
  have HA2 := hid (HA1.out.stays kk2 HA1.out.here)
  obtain ⟨gj, egj⟩ : ∃ g, w1.heap.size = g := ⟨_, rfl⟩
  rw [egj] at HJ2
  rw [← eW2]
  clear eW2 kk2 lb b0 b1 b2 b3 b4 b5 b6 b7 b8 b9 b10 HB1 HA1 K1
  try rw [egj]
  go_wp2_with fail
  refine (HMd.out _ K2.out).mono ?_
  rintro e w2 ⟨P, val, rfl, hval, hok, hsm, k2⟩
  have K2b := hid (K2.out.then_ (k2.low K2.out.1.size))
  have OKm := hid hok
  have SMm : Hid (P.C = []) := hsm.1
  have HB2b := hid (HB2.out.stays k2 HB2.out.here)
  have HA2b := hid (HA2.out.stays k2 HA2.out.here)
  have HJ2b := hid (HJ2.out.stays k2 HJ2.out.here)
  clear k2 hok hsm HB2 HA2 HJ2
  obtain ⟨obm, ojm, ocm, cbm, cjm, ccm, eval, hLm⟩ := hval
  have HLm := hid hLm
  obtain ⟨mB, emB⟩ : ∃ m, P.B.length = m := ⟨_, rfl⟩
  obtain ⟨mJ, emJ⟩ : ∃ m, P.J.length = m := ⟨_, rfl⟩
  obtain ⟨mC, emC⟩ : ∃ m, P.C.length = m := ⟨_, rfl⟩
  obtain ⟨mb, emb⟩ : ∃ m, P.nb = m := ⟨_, rfl⟩
  obtain ⟨mj, emj⟩ : ∃ m, P.nj = m := ⟨_, rfl⟩
  rw [emB, emJ, emC, emb, emj] at eval
  subst eval
  have HEm := hid (And.intro emB (And.intro emJ (And.intro emC (And.intro emb emj))))
  clear hLm emB emJ emC emb emj
  obtain ⟨W3, eW3⟩ : ∃ V, V = w2.alloc (.cells #[.int .i64 0, .int .i64 mb, .int .i64 mj, .int .i64 0, .int .i64 0, .slice obm mB cbm, .slice ojm mJ cjm, .slice ocm mC ccm] 31) := ⟨_, rfl⟩
  have K3b : Hid (Made w.heap.size w W3) := by unfold Hid; rw [eW3]; exact K2b.out.cells K2b.out.1.size _ _
  have hgw : w.heap.size ≤ w2.heap.size := K2b.out.1.size
  have HVn : Hid (WV (fun b => b = w2.heap.size) W3 w2.heap.size P) := by
    unfold Hid
    obtain ⟨a1, a2, a3, a4, a5⟩ := HEm.out
    rw [eW3]
    refine wv_new (w := w2) ?_ HLm.out ((Made.rfl_ _ _).cells (Nat.le_refl _) _ _) (Nat.le_refl _)
    rw [a1, a2, a3, a4, a5]
    exact has_new _ _ _
  obtain ⟨gw, egw⟩ : ∃ g, w2.heap.size = g := ⟨_, rfl⟩
  rw [egw] at HVn hgw
  have kk3 : Made w2.heap.size w2 W3 := by rw [eW3]; exact (Made.rfl_ _ _).cells (Nat.le_refl _) _ _
  have HB3 := hid (HB2b.out.stays kk3 HB2b.out.here)
  have HA3 := hid (HA2b.out.stays kk3 HA2b.out.here)
  have HJ3 := hid (HJ2b.out.stays kk3 HJ2b.out.here)
  clear kk3 HB2b HA2b HJ2b
  go_upto_region 7 with fail
  rw [← eW3]
  clear eW3
  try rw [egw]
  obtain ⟨ob0, oj0, oc0, cb0, cj0, cc0, hH0, hL0⟩ := HVn.out
  have HL0 := hid hL0
  have HH0 := hid hH0
  obtain ⟨nB0, eB0⟩ : ∃ m, (P).B.length = m := ⟨_, rfl⟩
  obtain ⟨nJ0, eJ0⟩ : ∃ m, (P).J.length = m := ⟨_, rfl⟩
  obtain ⟨nC0, eC0⟩ : ∃ m, (P).C.length = m := ⟨_, rfl⟩
  obtain ⟨nb0, eb0⟩ : ∃ m, (P).nb = m := ⟨_, rfl⟩
  obtain ⟨nj0, ej0⟩ : ∃ m, (P).nj = m := ⟨_, rfl⟩
  rw [eB0, eJ0, eC0, eb0, ej0] at HH0
  have HE0 := hid (And.intro eB0 (And.intro eJ0 (And.intro eC0 (And.intro eb0 ej0))))
  clear hH0 hL0 eB0 eJ0 eC0 eb0 ej0
  have b0 := HH0.out.at_ 0
  have b1 := HH0.out.at_ 1
  have b2 := HH0.out.at_ 2
  have b3 := HH0.out.at_ 3
  have b4 := HH0.out.at_ 4
  have b5 := HH0.out.at_ 5
  have b6 := HH0.out.at_ 6
  have b7 := HH0.out.at_ 7
  simp at b0 b1 b2 b3 b4 b5 b6 b7
  have lt0 : gw < W3.heap.size := HH0.out.here
  have HYs := hid (fun v (k : Made W3.heap.size W3 v) => right_yes (HL0.out.kept k) OKm.out HE0.out (by rw [SMm.out]; simp))
  have a0 := HB3.out.at_ 0
  have a1 := HB3.out.at_ 1
  have a2 := HB3.out.at_ 2
  have a3 := HB3.out.at_ 3
  have a4 := HB3.out.at_ 4
  have a5 := HB3.out.at_ 5
  have a6 := HB3.out.at_ 6
  have a7 := HB3.out.at_ 7
  have a8 := HB3.out.at_ 8
  have a9 := HB3.out.at_ 9
  have a10 := HB3.out.at_ 10
  simp at a0 a1 a2 a3 a4 a5 a6 a7 a8 a9 a10
  have lb : g0 < W3.heap.size := HB3.out.here
  have j0 := HJ3.out.at_ 0
  have j1 := HJ3.out.at_ 1
  have j2 := HJ3.out.at_ 2
  have j3 := HJ3.out.at_ 3
  have j4 := HJ3.out.at_ 4
  have j5 := HJ3.out.at_ 5
  have j6 := HJ3.out.at_ 6
  have j7 := HJ3.out.at_ 7
  simp at j0 j1 j2 j3 j4 j5 j6 j7
  have lj : gj < W3.heap.size := HJ3.out.here
  refine reg_made (by kernel_rfl) (by kernel_rfl) ?_
  intro Ty hT fw hf
  have ya0 := Class.reads hf a0
  have ya1 := Class.reads hf a1
  have ya2 := Class.reads hf a2
  have ya3 := Class.reads hf a3
  have ya4 := Class.reads hf a4
  have ya5 := Class.reads hf a5
  have ya6 := Class.reads hf a6
  have ya7 := Class.reads hf a7
  have ya8 := Class.reads hf a8
  have ya9 := Class.reads hf a9
  have ya10 := Class.reads hf a10
  have yj0 := Class.reads hf j0
  have yj1 := Class.reads hf j1
  have yj2 := Class.reads hf j2
  have yj3 := Class.reads hf j3
  have yj4 := Class.reads hf j4
  have yj5 := Class.reads hf j5
  have yj6 := Class.reads hf j6
  have yj7 := Class.reads hf j7
  have yb0 := Class.reads hf b0
  have yb1 := Class.reads hf b1
  have yb2 := Class.reads hf b2
  have yb3 := Class.reads hf b3
  have yb4 := Class.reads hf b4
  have yb5 := Class.reads hf b5
  have yb6 := Class.reads hf b6
  have yb7 := Class.reads hf b7
  repeat (go_big_quiet_step ((first
    | (go_at_call 18; exact hf.made (HRB.out _ (K3b.out.then_ ((hf.1 _).low K3b.out.1.size))))
    | (go_at_call 12; exact hf.made (HMY.out _ (K3b.out.then_ ((hf.1 _).low K3b.out.1.size))))
    | (go_at_call 19; exact hf.made (HRJ.out _))
    | (go_at_call 11; exact hf.made (HJN.out _))
    | (go_at_call 14; exact hf.made (HYs.out _ (hf.1 _))))))
  refine wpQuiet_nil ?_
  intro w3 h3
  have k3 := hf.here h3
  have K3 := hid (K3b.out.then_ (k3.low K3b.out.1.size))
  have HA4 := hid (HA3.out.stays k3 HA3.out.here)
  have HV3 := hid (WVar.kept HVn.out k3)
  clear k3 h3 hf ya0 ya1 ya2 ya3 ya4 ya5 ya6 ya7 ya8 ya9 ya10 yj0 yj1 yj2 yj3 yj4 yj5 yj6 yj7 yb0 yb1 yb2 yb3 yb4 yb5 yb6 yb7 a0 a1 a2 a3 a4 a5 a6 a7 a8 a9 a10 j0 j1 j2 j3 j4 j5 j6 j7 lb lj b0 b1 b2 b3 b4 b5 b6 b7 lt0 HE0 HL0 HH0 HYs HB3 HJ3 HA3 HVn K3b K2b K2 HRB HMY HRJ HJN HMd HLm n1 n2
  obtain ⟨ob3, oj3, oc3, cb3, cj3, cc3, hH3, hL3⟩ := HV3.out
  have HL3 := hid hL3
  have HH3 := hid hH3
  obtain ⟨nB3, eB3⟩ : ∃ m, (P).B.length = m := ⟨_, rfl⟩
  obtain ⟨nJ3, eJ3⟩ : ∃ m, (P).J.length = m := ⟨_, rfl⟩
  obtain ⟨nC3, eC3⟩ : ∃ m, (P).C.length = m := ⟨_, rfl⟩
  obtain ⟨nb3, eb3⟩ : ∃ m, (P).nb = m := ⟨_, rfl⟩
  obtain ⟨nj3, ej3⟩ : ∃ m, (P).nj = m := ⟨_, rfl⟩
  rw [eB3, eJ3, eC3, eb3, ej3] at HH3
  have HE3 := hid (And.intro eB3 (And.intro eJ3 (And.intro eC3 (And.intro eb3 ej3))))
  clear hH3 hL3 eB3 eJ3 eC3 eb3 ej3
  have b0 := HH3.out.at_ 0
  have b1 := HH3.out.at_ 1
  have b2 := HH3.out.at_ 2
  have b3 := HH3.out.at_ 3
  have b4 := HH3.out.at_ 4
  have b5 := HH3.out.at_ 5
  have b6 := HH3.out.at_ 6
  have b7 := HH3.out.at_ 7
  simp at b0 b1 b2 b3 b4 b5 b6 b7
  have lt3 : gw < w3.heap.size := HH3.out.here
  have HCp := hid (wcopy_c 0 nb3 nj3 0 0 ob3 oj3 oc3 nB3 cb3 nJ3 cj3 nC3 cc3 HL3.out HE3.out.1 HE3.out.2.1 HE3.out.2.2.1 (by have := OKm.out.hB.len; have := HE3.out.1; omega) (by have := OKm.out.hJ.len; have := HE3.out.2.1; omega) (by have := HE3.out.2.2.1; rw [SMm.out] at this; simp at this; omega) (n8_of OKm.out))
  go_wp2_with fail
  refine HCp.out.mono ?_
  rintro e w4 ⟨B', ob', oj', oc', cb', cj', cc', rfl, k4, hBl, hSm, hNB, hNJ, hNC, hOJ, hMi⟩
  have K34 := hid k4
  have HS := hid (And.intro hBl hSm)
  have HNB := hid hNB; have HNJ := hid hNJ; have HNC := hid hNC; have HOJ := hid hOJ; have HMi := hid hMi
  have HA5 := hid (HA4.out.stays k4 HA4.out.here)
  clear k4 hBl hSm hNB hNJ hNC hOJ hMi b0 b1 b2 b3 b4 b5 b6 b7 lt3 HCp HA4
  obtain ⟨W5, eW5⟩ : ∃ V, V = w4.alloc (.cells #[.int .i64 0, .int .i64 nb3, .int .i64 nj3, .int .i64 0, .int .i64 0, .slice ob' nB3 cb', .slice oj' nJ3 cj', .slice oc' nC3 cc'] 31) := ⟨_, rfl⟩
  have kk5 : Made w4.heap.size w4 W5 := by rw [eW5]; exact (Made.rfl_ _ _).cells (Nat.le_refl _) _ _
  have HC5 : Hid (Has W5 w4.heap.size 31 #[.int .i64 0, .int .i64 nb3, .int .i64 nj3, .int .i64 0, .int .i64 0, .slice ob' nB3 cb', .slice oj' nJ3 cj', .slice oc' nC3 cc']) := by unfold Hid; rw [eW5]; exact has_new _ _ _
  have K35 := hid (K34.out.then_ (kk5.low K34.out.1.size))
  have HA6 := hid (HA5.out.stays kk5 HA5.out.here)
  have hsz4 : w3.heap.size ≤ w4.heap.size := K34.out.1.size
  have HRW : Hid (0 < nB3 → ∃ g, ob' = some ⟨g, 0, none⟩ ∧ w3.heap.size ≤ g ∧ g < w4.heap.size ∧ RowL encB 11 W5 g 43 nB3 B') := fun h => by
    obtain ⟨g, e, hr⟩ := HNB.out.row h
    exact ⟨g, e, HNB.out.fresh g 0 _ e, hr.here, hr.stays kk5 hr.here⟩
  -- the copy's lists in any world in which only a younger block has turned
  have HWs : Hid (∀ V g, But (fun b => b = g) W5 V → w4.heap.size ≤ g → WdAt V ob' B' oj' P.J oc' P.C) := fun V g kb hg => by
    have off : ∀ {α : Type} {enc : α → List Value} {k : Nat} {a : Option Addr} {l : List α}, LsT enc k w4 a l → LsT enc k V a l := fun h => by
      refine (h.below kk5.1).but' kb (fun h0 b off s e hb => ?_)
      obtain ⟨b2, o2, e2, hl2, _⟩ := h h0
      rw [e] at e2
      cases e2
      have hb : b = g := hb
      omega
    refine ⟨off HNB.out.ls, off HNJ.out.ls, off HNC.out.ls, fun b hb => ?_, HL3.out.at_.iJ, HL3.out.at_.iC⟩
    obtain ⟨i, hi⟩ := List.mem_iff_getElem?.1 hb
    obtain ⟨b0, hb0, hsame⟩ := same_at HE3.out.1 HS.out.1 HS.out.2 hi
    have hm := MadeMine (HMi.out b hb) kk5
    refine ⟨hm.1.but kb (fun b' off s e hx => ?_), hsame.i (HL3.out.at_.sB b0 (List.mem_of_getElem? hb0)).2⟩
    rcases (HMi.out b hb).2 with ⟨h, _⟩ | ⟨g', h, _, _, h5, _⟩
    · rw [h] at e; cases e
    · rw [h] at e
      cases e
      have hx : b' = g := hx
      omega
  have HWr : Hid (∀ gB V, ob' = some ⟨gB, 0, none⟩ → RowL encB 11 W5 gB 43 nB3 B' → But (fun b => b = gB) W5 V → True ∧ LsT encJ 8 V oj' P.J ∧ LsT encC 5 V oc' P.C ∧ BdsIn V B' ∧ (∀ j ∈ P.J, JtI j) ∧ ∀ c ∈ P.C, CtI c) := fun gB V eo hrow kb => by
    refine ⟨trivial, (HNJ.out.ls.below kk5.1).but' kb (fun h0 b off s e hb => ?_), fun h => absurd h (by rw [SMm.out]; simp), fun b hb => ?_, HL3.out.at_.iJ, HL3.out.at_.iC⟩
    · obtain ⟨g', e', hr'⟩ := HNJ.out.row (by rw [← HNJ.out.len]; exact h0)
      have e2 : b = g' := by rw [e'] at e; cases e; rfl
      have hb : b = gB := hb
      have h1 := hr'.stays kk5 hr'.here
      obtain ⟨_, A, hA, _⟩ := h1
      obtain ⟨_, A2, hA2, _⟩ := hrow
      rw [← e2, hb] at hA
      have := hA.symm.trans hA2
      simp at this
    · obtain ⟨i, hi⟩ := List.mem_iff_getElem?.1 hb
      obtain ⟨b0, hb0, hsame⟩ := same_at HE3.out.1 HS.out.1 HS.out.2 hi
      have hm := MadeMine (HMi.out b hb) kk5
      refine ⟨hm.1.but kb (fun b' off s e hx => ?_), hsame.i (HL3.out.at_.sB b0 (List.mem_of_getElem? hb0)).2⟩
      rcases (HMi.out b hb).2 with ⟨h, _⟩ | ⟨g', h, _, h4, _, _⟩
      · rw [h] at e; cases e
      · rw [h] at e
        cases e
        have hx : b' = gB := hx
        exact h4 (.inl (by rw [eo, hx]))
  have HOJ5 : Hid (W5.ownsRow w3.heap.size 51 8 (.slice oj' nJ3 cj') nJ3 (flatE encJ P.J)) := own_but HOJ.out (Made.but kk5 (X := Nil0)) (fun _ _ h => h) (Nat.le_refl _)
  have HWj : Hid (∀ V, But (fun b => b = w4.heap.size ∨ ∃ off s, oj' = some ⟨b, off, s⟩) W5 V → LsT encB 11 V ob' B' ∧ LsT encC 5 V oc' P.C ∧ BdsIn V B' ∧ (∀ j ∈ P.J, JtI j) ∧ ∀ c ∈ P.C, CtI c) := fun V kb => by
    refine ⟨(HNB.out.ls.below kk5.1).but' kb (fun h0 b off s e hb => ?_), fun h => absurd h (by rw [SMm.out]; simp), fun b hb => ?_, HL3.out.at_.iJ, HL3.out.at_.iC⟩
    · obtain ⟨g', e', hr'⟩ := HNB.out.row (by rw [← HNB.out.len]; exact h0)
      have e2 : b = g' := by rw [e'] at e; cases e; rfl
      have hlt := hr'.here
      rcases hb with hb | ⟨off2, s2, hb⟩
      · omega
      · obtain ⟨_, A, hA, _⟩ := hr'
        exact own_apart HOJ.out hA (by decide) (by rw [hb, ← e2]; rfl)
    · obtain ⟨i, hi⟩ := List.mem_iff_getElem?.1 hb
      obtain ⟨b0, hb0, hsame⟩ := same_at HE3.out.1 HS.out.1 HS.out.2 hi
      have hm := MadeMine (HMi.out b hb) kk5
      refine ⟨hm.1.but kb (fun b' off s e hx => ?_), hsame.i (HL3.out.at_.sB b0 (List.mem_of_getElem? hb0)).2⟩
      rcases (HMi.out b hb).2 with ⟨h, _⟩ | ⟨g', h, _, h4, h5, _⟩
      · rw [h] at e; cases e
      · rw [h] at e
        cases e
        rcases hx with hx | ⟨off2, s2, hx⟩
        · omega
        · refine h4 (.inr (.inl ?_))
          rcases HOJ.out.2 with ⟨hv, _⟩ | ⟨g2, _, _, hv, _⟩
          · cases hv; cases hx
          · cases hv; cases hx; rfl
  have HOF : Hid (∀ b, (∃ off s, oj' = some ⟨b, off, s⟩) → w3.heap.size ≤ b) := fun b ⟨off, s, e⟩ => HNJ.out.fresh b off s e
  obtain ⟨gc, egc⟩ : ∃ g, w4.heap.size = g := ⟨_, rfl⟩
  rw [egc] at HC5 HWs hsz4 HRW HWj
  have hgcs : gc ≤ gc := Nat.le_refl _
  clear kk5
  go_upto_region 10 with fail
  rw [← eW5]
  clear eW5
  try rw [egc]
  have d0 := HC5.out.at_ 0
  have d1 := HC5.out.at_ 1
  have d2 := HC5.out.at_ 2
  have d3 := HC5.out.at_ 3
  have d4 := HC5.out.at_ 4
  have d5 := HC5.out.at_ 5
  have d6 := HC5.out.at_ 6
  have d7 := HC5.out.at_ 7
  simp at d0 d1 d2 d3 d4 d5 d6 d7
  have ld : gc < W5.heap.size := HC5.out.here
  have fd : ∀ i, W5.frozen? ⟨gc, i, none⟩ = false := HC5.out.free
  have k0 := HA6.out.at_ 0
  have k1 := HA6.out.at_ 1
  simp at k0 k1
  have lk : g1 < W5.heap.size := HA6.out.here
  have hK' : K = 0 ∨ K = 1 ∨ K = 2 ∨ K = 3 ∨ K = 4 ∨ K = 5 ∨ K = 6 ∨ K = 7 := by omega
  clear hKr
  rcases hK' with rfl | rfl | rfl | rfl | rfl | rfl | rfl | rfl
  · go_upto_region 35 with fail
    obtain ⟨W6, eW6⟩ : ∃ V, V = W5.setCell ⟨gc, 0, none⟩ (.int .i64 (-1)) := ⟨_, rfl⟩
    have k6 : But (fun b => b = gc) W5 W6 := by rw [eW6]; exact (But.rfl_ (fun b => b = gc) _).put (p := ⟨gc, 0, none⟩) (.inl rfl) _
    have HCk : Hid (Has W6 gc 31 #[.int .i64 (-1), .int .i64 nb3, .int .i64 nj3, .int .i64 0, .int .i64 0, .slice ob' nB3 cb', .slice oj' nJ3 cj', .slice oc' nC3 cc']) := by unfold Hid; rw [eW6]; exact HC5.out.put 0 _
    have KK : Hid (Made w3.heap.size w3 W6) := But.made_ K35.out k6 K35.out.1.size (fun b hb => by have hb : b = gc := hb; omega)
    have KT : Hid (Made w.heap.size w W6) := K3.out.then_ (KK.out.low K3.out.1.size)
    have HWd : Hid (WdAt W6 ob' B' oj' P.J oc' P.C) := HWs.out W6 gc k6 hgcs
    rw [← eW6]
    clear eW6 k6 d0 d1 d2 d3 d4 d5 d6 d7 ld fd
    have HVk := hid (WVar.kept HV3.out KK.out)
    have HNo := hid (wright_c (-1) nb3 nj3 0 0 ob' oj' oc' nB3 cb' nJ3 cj' nC3 cc' false HS.out.1 (by have := OKm.out.hB.len; have := HE3.out.1; omega) HE3.out.2.1 (by have := OKm.out.hJ.len; have := HE3.out.2.1; omega) HE3.out.2.2.1 (by have := HE3.out.2.2.1; rw [SMm.out] at this; simp at this; omega) (HWd.out) i64_0 i64_0 ⟨fun e => (by cases e), fun h => absurd h (fun h => by have := h.tk.1; omega)⟩)
    have c0 := HCk.out.at_ 0
    have c1 := HCk.out.at_ 1
    have c2 := HCk.out.at_ 2
    have c3 := HCk.out.at_ 3
    have c4 := HCk.out.at_ 4
    have c5 := HCk.out.at_ 5
    have c6 := HCk.out.at_ 6
    have c7 := HCk.out.at_ 7
    simp at c0 c1 c2 c3 c4 c5 c6 c7
    have lc : gc < W6.heap.size := HCk.out.here
    go_wp2_with fail
    refine HNo.out.mono ?_
    rintro e w9 ⟨rfl, k9⟩
    have K9 := hid (KT.out.then_ (k9.low KT.out.1.size))
    have HV9 := hid (WVar.kept HVk.out k9)
    clear k9 lc c0 c1 c2 c3 c4 c5 c6 c7 HVk
    obtain ⟨ob9, oj9, oc9, cb9, cj9, cc9, hH9, hL9⟩ := HV9.out
    have HL9 := hid hL9
    have HH9 := hid hH9
    obtain ⟨nB9, eB9⟩ : ∃ m, (P).B.length = m := ⟨_, rfl⟩
    obtain ⟨nJ9, eJ9⟩ : ∃ m, (P).J.length = m := ⟨_, rfl⟩
    obtain ⟨nC9, eC9⟩ : ∃ m, (P).C.length = m := ⟨_, rfl⟩
    obtain ⟨nb9, eb9⟩ : ∃ m, (P).nb = m := ⟨_, rfl⟩
    obtain ⟨nj9, ej9⟩ : ∃ m, (P).nj = m := ⟨_, rfl⟩
    rw [eB9, eJ9, eC9, eb9, ej9] at HH9
    have HE9 := hid (And.intro eB9 (And.intro eJ9 (And.intro eC9 (And.intro eb9 ej9))))
    clear hH9 hL9 eB9 eJ9 eC9 eb9 ej9
    have b0 := HH9.out.at_ 0
    have b1 := HH9.out.at_ 1
    have b2 := HH9.out.at_ 2
    have b3 := HH9.out.at_ 3
    have b4 := HH9.out.at_ 4
    have b5 := HH9.out.at_ 5
    have b6 := HH9.out.at_ 6
    have b7 := HH9.out.at_ 7
    simp at b0 b1 b2 b3 b4 b5 b6 b7
    have lt9 : gw < w9.heap.size := HH9.out.here
    have HYs := hid (right_yes HL9.out OKm.out HE9.out (by rw [SMm.out]; simp))
    go_wp2_with fail
    refine HYs.out.mono ?_
    rintro e w10 ⟨rfl, k10⟩
    have K10 := hid (K9.out.then_ (k10.low K9.out.1.size))
    clear k10 b0 b1 b2 b3 b4 b5 b6 b7 lt9
    go_wp2_with fail
    go_ret
    exact ⟨rfl, by first | exact K10.out | exact eg0 ▸ K10.out⟩
  · go_upto_region 35 with fail
    obtain ⟨W6, eW6⟩ : ∃ V, V = W5.setCell ⟨gc, 1, none⟩ (.int .i64 0) := ⟨_, rfl⟩
    have k6 : But (fun b => b = gc) W5 W6 := by rw [eW6]; exact (But.rfl_ (fun b => b = gc) _).put (p := ⟨gc, 1, none⟩) (.inl rfl) _
    have HCk : Hid (Has W6 gc 31 #[.int .i64 0, .int .i64 0, .int .i64 nj3, .int .i64 0, .int .i64 0, .slice ob' nB3 cb', .slice oj' nJ3 cj', .slice oc' nC3 cc']) := by unfold Hid; rw [eW6]; exact HC5.out.put 1 _
    have KK : Hid (Made w3.heap.size w3 W6) := But.made_ K35.out k6 K35.out.1.size (fun b hb => by have hb : b = gc := hb; omega)
    have KT : Hid (Made w.heap.size w W6) := K3.out.then_ (KK.out.low K3.out.1.size)
    have HWd : Hid (WdAt W6 ob' B' oj' P.J oc' P.C) := HWs.out W6 gc k6 hgcs
    rw [← eW6]
    clear eW6 k6 d0 d1 d2 d3 d4 d5 d6 d7 ld fd
    have HVk := hid (WVar.kept HV3.out KK.out)
    have HNo := hid (wright_c 0 0 nj3 0 0 ob' oj' oc' nB3 cb' nJ3 cj' nC3 cc' false HS.out.1 (by have := OKm.out.hB.len; have := HE3.out.1; omega) HE3.out.2.1 (by have := OKm.out.hJ.len; have := HE3.out.2.1; omega) HE3.out.2.2.1 (by have := HE3.out.2.2.1; rw [SMm.out] at this; simp at this; omega) (HWd.out) i64_0 i64_0 ⟨fun e => (by cases e), fun h => absurd h (fun h => by have := h.hB.num.1; omega)⟩)
    have c0 := HCk.out.at_ 0
    have c1 := HCk.out.at_ 1
    have c2 := HCk.out.at_ 2
    have c3 := HCk.out.at_ 3
    have c4 := HCk.out.at_ 4
    have c5 := HCk.out.at_ 5
    have c6 := HCk.out.at_ 6
    have c7 := HCk.out.at_ 7
    simp at c0 c1 c2 c3 c4 c5 c6 c7
    have lc : gc < W6.heap.size := HCk.out.here
    go_wp2_with fail
    refine HNo.out.mono ?_
    rintro e w9 ⟨rfl, k9⟩
    have K9 := hid (KT.out.then_ (k9.low KT.out.1.size))
    have HV9 := hid (WVar.kept HVk.out k9)
    clear k9 lc c0 c1 c2 c3 c4 c5 c6 c7 HVk
    obtain ⟨ob9, oj9, oc9, cb9, cj9, cc9, hH9, hL9⟩ := HV9.out
    have HL9 := hid hL9
    have HH9 := hid hH9
    obtain ⟨nB9, eB9⟩ : ∃ m, (P).B.length = m := ⟨_, rfl⟩
    obtain ⟨nJ9, eJ9⟩ : ∃ m, (P).J.length = m := ⟨_, rfl⟩
    obtain ⟨nC9, eC9⟩ : ∃ m, (P).C.length = m := ⟨_, rfl⟩
    obtain ⟨nb9, eb9⟩ : ∃ m, (P).nb = m := ⟨_, rfl⟩
    obtain ⟨nj9, ej9⟩ : ∃ m, (P).nj = m := ⟨_, rfl⟩
    rw [eB9, eJ9, eC9, eb9, ej9] at HH9
    have HE9 := hid (And.intro eB9 (And.intro eJ9 (And.intro eC9 (And.intro eb9 ej9))))
    clear hH9 hL9 eB9 eJ9 eC9 eb9 ej9
    have b0 := HH9.out.at_ 0
    have b1 := HH9.out.at_ 1
    have b2 := HH9.out.at_ 2
    have b3 := HH9.out.at_ 3
    have b4 := HH9.out.at_ 4
    have b5 := HH9.out.at_ 5
    have b6 := HH9.out.at_ 6
    have b7 := HH9.out.at_ 7
    simp at b0 b1 b2 b3 b4 b5 b6 b7
    have lt9 : gw < w9.heap.size := HH9.out.here
    have HYs := hid (right_yes HL9.out OKm.out HE9.out (by rw [SMm.out]; simp))
    go_wp2_with fail
    refine HYs.out.mono ?_
    rintro e w10 ⟨rfl, k10⟩
    have K10 := hid (K9.out.then_ (k10.low K9.out.1.size))
    clear k10 b0 b1 b2 b3 b4 b5 b6 b7 lt9
    go_wp2_with fail
    go_ret
    exact ⟨rfl, by first | exact K10.out | exact eg0 ▸ K10.out⟩
  · go_upto_region 35 with fail
    obtain ⟨W6, eW6⟩ : ∃ V, V = W5.setCell ⟨gc, 4, none⟩ (.int .i64 17592186044417) := ⟨_, rfl⟩
    have k6 : But (fun b => b = gc) W5 W6 := by rw [eW6]; exact (But.rfl_ (fun b => b = gc) _).put (p := ⟨gc, 4, none⟩) (.inl rfl) _
    have HCk : Hid (Has W6 gc 31 #[.int .i64 0, .int .i64 nb3, .int .i64 nj3, .int .i64 0, .int .i64 17592186044417, .slice ob' nB3 cb', .slice oj' nJ3 cj', .slice oc' nC3 cc']) := by unfold Hid; rw [eW6]; exact HC5.out.put 4 _
    have KK : Hid (Made w3.heap.size w3 W6) := But.made_ K35.out k6 K35.out.1.size (fun b hb => by have hb : b = gc := hb; omega)
    have KT : Hid (Made w.heap.size w W6) := K3.out.then_ (KK.out.low K3.out.1.size)
    have HWd : Hid (WdAt W6 ob' B' oj' P.J oc' P.C) := HWs.out W6 gc k6 hgcs
    rw [← eW6]
    clear eW6 k6 d0 d1 d2 d3 d4 d5 d6 d7 ld fd
    have HVk := hid (WVar.kept HV3.out KK.out)
    have HNo := hid (wright_c 0 nb3 nj3 0 17592186044417 ob' oj' oc' nB3 cb' nJ3 cj' nC3 cc' false HS.out.1 (by have := OKm.out.hB.len; have := HE3.out.1; omega) HE3.out.2.1 (by have := OKm.out.hJ.len; have := HE3.out.2.1; omega) HE3.out.2.2.1 (by have := HE3.out.2.2.1; rw [SMm.out] at this; simp at this; omega) (HWd.out) i64_0 (by unfold I64; omega) ⟨fun e => (by cases e), fun h => absurd h (fun h => by have := h.gy.2; omega)⟩)
    have c0 := HCk.out.at_ 0
    have c1 := HCk.out.at_ 1
    have c2 := HCk.out.at_ 2
    have c3 := HCk.out.at_ 3
    have c4 := HCk.out.at_ 4
    have c5 := HCk.out.at_ 5
    have c6 := HCk.out.at_ 6
    have c7 := HCk.out.at_ 7
    simp at c0 c1 c2 c3 c4 c5 c6 c7
    have lc : gc < W6.heap.size := HCk.out.here
    go_wp2_with fail
    refine HNo.out.mono ?_
    rintro e w9 ⟨rfl, k9⟩
    have K9 := hid (KT.out.then_ (k9.low KT.out.1.size))
    have HV9 := hid (WVar.kept HVk.out k9)
    clear k9 lc c0 c1 c2 c3 c4 c5 c6 c7 HVk
    obtain ⟨ob9, oj9, oc9, cb9, cj9, cc9, hH9, hL9⟩ := HV9.out
    have HL9 := hid hL9
    have HH9 := hid hH9
    obtain ⟨nB9, eB9⟩ : ∃ m, (P).B.length = m := ⟨_, rfl⟩
    obtain ⟨nJ9, eJ9⟩ : ∃ m, (P).J.length = m := ⟨_, rfl⟩
    obtain ⟨nC9, eC9⟩ : ∃ m, (P).C.length = m := ⟨_, rfl⟩
    obtain ⟨nb9, eb9⟩ : ∃ m, (P).nb = m := ⟨_, rfl⟩
    obtain ⟨nj9, ej9⟩ : ∃ m, (P).nj = m := ⟨_, rfl⟩
    rw [eB9, eJ9, eC9, eb9, ej9] at HH9
    have HE9 := hid (And.intro eB9 (And.intro eJ9 (And.intro eC9 (And.intro eb9 ej9))))
    clear hH9 hL9 eB9 eJ9 eC9 eb9 ej9
    have b0 := HH9.out.at_ 0
    have b1 := HH9.out.at_ 1
    have b2 := HH9.out.at_ 2
    have b3 := HH9.out.at_ 3
    have b4 := HH9.out.at_ 4
    have b5 := HH9.out.at_ 5
    have b6 := HH9.out.at_ 6
    have b7 := HH9.out.at_ 7
    simp at b0 b1 b2 b3 b4 b5 b6 b7
    have lt9 : gw < w9.heap.size := HH9.out.here
    have HYs := hid (right_yes HL9.out OKm.out HE9.out (by rw [SMm.out]; simp))
    go_wp2_with fail
    refine HYs.out.mono ?_
    rintro e w10 ⟨rfl, k10⟩
    have K10 := hid (K9.out.then_ (k10.low K9.out.1.size))
    clear k10 b0 b1 b2 b3 b4 b5 b6 b7 lt9
    go_wp2_with fail
    go_ret
    exact ⟨rfl, by first | exact K10.out | exact eg0 ▸ K10.out⟩
  · obtain ⟨i0, hi, hz0, hz1, hz2⟩ := info_parts infoJ
    have iHi := hid hi; have iH0 := hid hz0; have iH1 := hid hz1; have iH2 := hid hz2
    clear hi hz0 hz1 hz2
    have inj : 1 ≤ nj3 ∧ nj3 ≤ 4611686018427387904 := by have h := OKm.out.hJ.num; rw [HE3.out.2.2.2.2] at h; exact ⟨h.1, h.2.1⟩
    have inb3 : I64 nb3 := by have h := (nb_I OKm.out).1; rw [HE3.out.2.2.2.1] at h; exact h
    have hnJ : nJ3 ≤ 1024 := by have := OKm.out.hJ.len; have := HE3.out.2.1; omega
    have HNP : Hid (NumP (ids B') nb3) := by
      unfold Hid
      rw [same_ids HE3.out.1 HS.out.1 HS.out.2, ← HE3.out.2.2.2.1]
      exact OKm.out.hB.num
    have hsz5 : w3.heap.size ≤ W5.heap.size := K35.out.1.size
    go_wp2_with (at_builtin; refine wpList_append_made _ rfl _ _ 28 rfl w3.heap.size 51 i0 (.agg #[.int .i64 0, .int .i64 0, .int .i64 0, .int .i64 0, .int .i64 0, .int .i64 0, .int .i64 0, .int .i64 0]) 8 64 Try.underlying28 iHi.out iH0.out iH1.out iH2.out rfl (by decide) (.slice oj' nJ3 cj') nJ3 (flatE encJ P.J) rfl (HOJ5.out.alloc _) ⟨W5.heap.size, 0, none⟩ 1 1 (encJ ⟨nj3 - 1, nb3, 1, 0, 0, 0, 0, 1⟩) rfl rfl (has_news (has_new _ _ _)) (encJ_one _) (by unfold maxLen; omega) (by omega) (by simp; omega) (by omega) ?_)
    intro v' wk hown hgr hfr
    have HCw : Hid (Has wk gc 31 #[.int .i64 0, .int .i64 nb3, .int .i64 nj3, .int .i64 0, .int .i64 0, .slice ob' nB3 cb', .slice oj' nJ3 cj', .slice oc' nC3 cc']) := (HC5.out.more _).app hgr (own_apart HOJ5.out HC5.out (by decide))
    have kB : But (fun b => b = gc ∨ ∃ off s, oj' = some ⟨b, off, s⟩) W5 wk := ((But.rfl_ _ W5).alloc _ _).then_ ⟨hgr.os, hgr.tape, hgr.output, hgr.size, fun b hb hx => hgr.block b hb (fun e => hx (.inr (own_some e))), hfr⟩
    have hL : (P.J ++ [(⟨nj3 - 1, nb3, 1, 0, 0, 0, 0, 1⟩ : Jt)]).length = nJ3 + 1 := by rw [List.length_append, HE3.out.2.1]; rfl
    have hag := own_apart hown HCw.out (by decide)
    obtain ⟨ao3, c3, ev⟩ : ∃ ao3 c3, v' = .slice ao3 (nJ3 + 1) c3 := by
      rcases hown.2 with ⟨_, h0⟩ | ⟨g, cap, cur, e, _⟩
      · omega
      · exact ⟨_, _, e⟩
    subst ev
    have HOW := hid (And.intro hown hag)
    have KB := hid kB
    have HL4 := hid hL
    clear hown hag kB hL hgr hfr d0 d1 d2 d3 d4 d5 d6 d7 ld fd
    have d0 := HCw.out.at_ 0
    have d1 := HCw.out.at_ 1
    have d2 := HCw.out.at_ 2
    have d3 := HCw.out.at_ 3
    have d4 := HCw.out.at_ 4
    have d5 := HCw.out.at_ 5
    have d6 := HCw.out.at_ 6
    have d7 := HCw.out.at_ 7
    simp at d0 d1 d2 d3 d4 d5 d6 d7
    have ld : gc < wk.heap.size := HCw.out.here
    have fd : ∀ i, wk.frozen? ⟨gc, i, none⟩ = false := HCw.out.free
    go_upto_region 35 with fail
    obtain ⟨W6, eW6⟩ : ∃ V, V = wk.setCell ⟨gc, 6, none⟩ (.slice ao3 (nJ3 + 1) c3) := ⟨_, rfl⟩
    have k6 : But (fun b => b = gc ∨ ∃ off s, oj' = some ⟨b, off, s⟩) W5 W6 := by rw [eW6]; exact KB.out.put (p := ⟨gc, 6, none⟩) (.inl (.inl rfl)) _
    have hL := HL4.out
    have HCk : Hid (Has W6 gc 31 #[.int .i64 0, .int .i64 nb3, .int .i64 nj3, .int .i64 0, .int .i64 0, .slice ob' nB3 cb', .slice ao3 (nJ3 + 1) c3, .slice oc' nC3 cc']) := by unfold Hid; rw [eW6]; exact HCw.out.put 6 _
    have hown6 : W6.ownsRow w3.heap.size 51 8 (.slice ao3 (nJ3 + 1) c3) (P.J ++ [(⟨nj3 - 1, nb3, 1, 0, 0, 0, 0, 1⟩ : Jt)]).length (flatE encJ (P.J ++ [(⟨nj3 - 1, nb3, 1, 0, 0, 0, 0, 1⟩ : Jt)])) := by
      rw [eW6, hL, ← flatE_snoc]
      exact own_other' HOW.out.1 (p := ⟨gc, 6, none⟩) (fun e => HOW.out.2 e.symm) _
    have hls : LsT encJ 8 W6 ao3 (P.J ++ [(⟨nj3 - 1, nb3, 1, 0, 0, 0, 0, 1⟩ : Jt)]) := by
      obtain ⟨ao, c, ev, _, h, _⟩ := LsT.of_own encJ_len hown6
      have e1 : ao3 = ao := by injection ev
      rw [e1]; exact h
    have KK : Hid (Made w3.heap.size w3 W6) := But.made_ K35.out k6 hsz5 (fun b hb => hb.elim (fun e => by omega) (HOF.out b))
    have KT : Hid (Made w.heap.size w W6) := K3.out.then_ (KK.out.low K3.out.1.size)
    have HWd : Hid (WdAt W6 ob' B' ao3 (P.J ++ [(⟨nj3 - 1, nb3, 1, 0, 0, 0, 0, 1⟩ : Jt)]) oc' P.C) := by
      obtain ⟨h1, h2, h3, h4, h5⟩ := HWj.out W6 k6
      refine ⟨h1, hls, h2, h3, fun j hj => ?_, h5⟩
      rcases List.mem_append.1 hj with hj | hj
      · exact h4 j hj
      · rw [List.mem_singleton.1 hj]
        refine ⟨?_, inb3, ?_, ?_, ?_, ?_, ?_, ?_⟩ <;> (simp only [I64]; omega)
    rw [← eW6]
    clear eW6 k6 hls hown6 HCw d0 d1 d2 d3 d4 d5 d6 d7 ld fd
    have HVk := hid (WVar.kept HV3.out KK.out)
    have HNo := hid (wright_c 0 nb3 nj3 0 0 ob' ao3 oc' nB3 cb' (nJ3 + 1) c3 nC3 cc' false HS.out.1 (by have := OKm.out.hB.len; have := HE3.out.1; omega) hL (by omega) HE3.out.2.2.1 (by have := HE3.out.2.2.1; rw [SMm.out] at this; simp at this; omega) (HWd.out) i64_0 i64_0 ⟨fun e => (by cases e), fun h => absurd h (fun h => by have h2 := (h.hJ.all ⟨nj3 - 1, nb3, 1, 0, 0, 0, 0, 1⟩ (List.mem_append.2 (.inr (List.mem_singleton.2 rfl)))).2.1; have h3 := (HNP.out.2.2.2 nb3 h2).2; omega)⟩)
    have c0 := HCk.out.at_ 0
    have c1 := HCk.out.at_ 1
    have c2 := HCk.out.at_ 2
    have c3 := HCk.out.at_ 3
    have c4 := HCk.out.at_ 4
    have c5 := HCk.out.at_ 5
    have c6 := HCk.out.at_ 6
    have c7 := HCk.out.at_ 7
    simp at c0 c1 c2 c3 c4 c5 c6 c7
    have lc : gc < W6.heap.size := HCk.out.here
    go_wp2_with fail
    refine HNo.out.mono ?_
    rintro e w9 ⟨rfl, k9⟩
    have K9 := hid (KT.out.then_ (k9.low KT.out.1.size))
    have HV9 := hid (WVar.kept HVk.out k9)
    clear k9 lc c0 c1 c2 c3 c4 c5 c6 c7 HVk
    obtain ⟨ob9, oj9, oc9, cb9, cj9, cc9, hH9, hL9⟩ := HV9.out
    have HL9 := hid hL9
    have HH9 := hid hH9
    obtain ⟨nB9, eB9⟩ : ∃ m, (P).B.length = m := ⟨_, rfl⟩
    obtain ⟨nJ9, eJ9⟩ : ∃ m, (P).J.length = m := ⟨_, rfl⟩
    obtain ⟨nC9, eC9⟩ : ∃ m, (P).C.length = m := ⟨_, rfl⟩
    obtain ⟨nb9, eb9⟩ : ∃ m, (P).nb = m := ⟨_, rfl⟩
    obtain ⟨nj9, ej9⟩ : ∃ m, (P).nj = m := ⟨_, rfl⟩
    rw [eB9, eJ9, eC9, eb9, ej9] at HH9
    have HE9 := hid (And.intro eB9 (And.intro eJ9 (And.intro eC9 (And.intro eb9 ej9))))
    clear hH9 hL9 eB9 eJ9 eC9 eb9 ej9
    have b0 := HH9.out.at_ 0
    have b1 := HH9.out.at_ 1
    have b2 := HH9.out.at_ 2
    have b3 := HH9.out.at_ 3
    have b4 := HH9.out.at_ 4
    have b5 := HH9.out.at_ 5
    have b6 := HH9.out.at_ 6
    have b7 := HH9.out.at_ 7
    simp at b0 b1 b2 b3 b4 b5 b6 b7
    have lt9 : gw < w9.heap.size := HH9.out.here
    have HYs := hid (right_yes HL9.out OKm.out HE9.out (by rw [SMm.out]; simp))
    go_wp2_with fail
    refine HYs.out.mono ?_
    rintro e w10 ⟨rfl, k10⟩
    have K10 := hid (K9.out.then_ (k10.low K9.out.1.size))
    clear k10 b0 b1 b2 b3 b4 b5 b6 b7 lt9
    go_wp2_with fail
    go_ret
    exact ⟨rfl, by first | exact K10.out | exact eg0 ▸ K10.out⟩
  · obtain ⟨gc2, egc2⟩ : ∃ g, W5.heap.size = g := ⟨_, rfl⟩
    have hne2 : ¬ gc2 = gc := by omega
    have hne2' : ¬ gc = gc2 := by omega
    have f7 : (W5.alloc (.cells #[.int .i64 1, .int .i64 1, .int .i64 0, .int .i64 0, .int .i64 0] 65)).frozen? ⟨gc, 7, none⟩ = false := (HC5.out.more _).free 7
    have c7 : (W5.alloc (.cells #[.int .i64 1, .int .i64 1, .int .i64 0, .int .i64 0, .int .i64 0] 65)).cell? ⟨gc, 7, none⟩ = some (.slice oc' nC3 cc') := (HC5.out.more _).at_ 7
    go_upto_region 35 with fail
    obtain ⟨W6, eW6⟩ : ∃ V, V = (W5.alloc (.cells #[.int .i64 1, .int .i64 1, .int .i64 0, .int .i64 0, .int .i64 0] 65)).setCell ⟨gc, 7, none⟩ (.slice (some ⟨gc2, 0, none⟩) 1 1) := ⟨_, rfl⟩
    have k6 : But (fun b => b = gc) W5 W6 := by rw [eW6]; exact ((But.rfl_ (fun b => b = gc) _).alloc _ _).put (p := ⟨gc, 7, none⟩) (.inl rfl) _
    have HCk : Hid (Has W6 gc 31 #[.int .i64 0, .int .i64 nb3, .int .i64 nj3, .int .i64 0, .int .i64 0, .slice ob' nB3 cb', .slice oj' nJ3 cj', .slice (some ⟨gc2, 0, none⟩) 1 1]) := by unfold Hid; rw [eW6]; exact (HC5.out.more _).put 7 _
    have HCt : Hid (Has W6 gc2 65 #[.int .i64 1, .int .i64 1, .int .i64 0, .int .i64 0, .int .i64 0]) := by unfold Hid; rw [eW6, ← egc2]; exact (has_new _ _ _).other _ (by rw [egc2]; exact hne2) _
    have KK : Hid (Made w3.heap.size w3 W6) := But.made_ K35.out k6 K35.out.1.size (fun b hb => by have hb : b = gc := hb; omega)
    have KT : Hid (Made w.heap.size w W6) := K3.out.then_ (KK.out.low K3.out.1.size)
    have hLC : LsT encC 5 W6 (some ⟨gc2, 0, none⟩) [⟨1, 1, 0, 0, 0⟩] := fun _ => ⟨gc2, 0, rfl, HCt.out.here, fun i x hx j u hu => by
      match i, hx with
      | 0, hx =>
        cases hx
        rw [show 0 + 0 * 5 + j = j by omega, HCt.out.at_]
        simpa [encC] using hu⟩
    have HWd : Hid (WdAt W6 ob' B' oj' P.J (some ⟨gc2, 0, none⟩) [⟨1, 1, 0, 0, 0⟩]) := by
      have h := HWs.out W6 gc k6 hgcs
      exact ⟨h.lB, h.lJ, hLC, h.sB, h.iJ, fun x hx => by rw [List.mem_singleton.1 hx]; unfold CtI I64; simp⟩
    rw [← eW6]
    clear eW6 k6 hLC f7 c7 d0 d1 d2 d3 d4 d5 d6 d7 ld fd
    have HVk := hid (WVar.kept HV3.out KK.out)
    have HNo := hid (wright_c 0 nb3 nj3 0 0 ob' oj' (some ⟨gc2, 0, none⟩) nB3 cb' nJ3 cj' 1 1 false HS.out.1 (by have := OKm.out.hB.len; have := HE3.out.1; omega) HE3.out.2.1 (by have := OKm.out.hJ.len; have := HE3.out.2.1; omega) rfl (by omega) (HWd.out) i64_0 i64_0 ⟨fun e => (by cases e), fun h => absurd h (fun h => by have := (h.hC.all ⟨1, 1, 0, 0, 0⟩ (List.mem_singleton.2 rfl)).1; simp at this)⟩)
    have c0 := HCk.out.at_ 0
    have c1 := HCk.out.at_ 1
    have c2 := HCk.out.at_ 2
    have c3 := HCk.out.at_ 3
    have c4 := HCk.out.at_ 4
    have c5 := HCk.out.at_ 5
    have c6 := HCk.out.at_ 6
    have c7 := HCk.out.at_ 7
    simp at c0 c1 c2 c3 c4 c5 c6 c7
    have lc : gc < W6.heap.size := HCk.out.here
    go_wp2_with fail
    refine HNo.out.mono ?_
    rintro e w9 ⟨rfl, k9⟩
    have K9 := hid (KT.out.then_ (k9.low KT.out.1.size))
    have HV9 := hid (WVar.kept HVk.out k9)
    clear k9 lc c0 c1 c2 c3 c4 c5 c6 c7 HVk
    obtain ⟨ob9, oj9, oc9, cb9, cj9, cc9, hH9, hL9⟩ := HV9.out
    have HL9 := hid hL9
    have HH9 := hid hH9
    obtain ⟨nB9, eB9⟩ : ∃ m, (P).B.length = m := ⟨_, rfl⟩
    obtain ⟨nJ9, eJ9⟩ : ∃ m, (P).J.length = m := ⟨_, rfl⟩
    obtain ⟨nC9, eC9⟩ : ∃ m, (P).C.length = m := ⟨_, rfl⟩
    obtain ⟨nb9, eb9⟩ : ∃ m, (P).nb = m := ⟨_, rfl⟩
    obtain ⟨nj9, ej9⟩ : ∃ m, (P).nj = m := ⟨_, rfl⟩
    rw [eB9, eJ9, eC9, eb9, ej9] at HH9
    have HE9 := hid (And.intro eB9 (And.intro eJ9 (And.intro eC9 (And.intro eb9 ej9))))
    clear hH9 hL9 eB9 eJ9 eC9 eb9 ej9
    have b0 := HH9.out.at_ 0
    have b1 := HH9.out.at_ 1
    have b2 := HH9.out.at_ 2
    have b3 := HH9.out.at_ 3
    have b4 := HH9.out.at_ 4
    have b5 := HH9.out.at_ 5
    have b6 := HH9.out.at_ 6
    have b7 := HH9.out.at_ 7
    simp at b0 b1 b2 b3 b4 b5 b6 b7
    have lt9 : gw < w9.heap.size := HH9.out.here
    have HYs := hid (right_yes HL9.out OKm.out HE9.out (by rw [SMm.out]; simp))
    go_wp2_with fail
    refine HYs.out.mono ?_
    rintro e w10 ⟨rfl, k10⟩
    have K10 := hid (K9.out.then_ (k10.low K9.out.1.size))
    clear k10 b0 b1 b2 b3 b4 b5 b6 b7 lt9
    go_wp2_with fail
    go_ret
    exact ⟨rfl, by first | exact K10.out | exact eg0 ▸ K10.out⟩
  · go_upto_region 35 with fail
    obtain ⟨W6, eW6⟩ : ∃ V, V = W5.setCell ⟨gc, 2, none⟩ (.int .i64 (-3)) := ⟨_, rfl⟩
    have k6 : But (fun b => b = gc) W5 W6 := by rw [eW6]; exact (But.rfl_ (fun b => b = gc) _).put (p := ⟨gc, 2, none⟩) (.inl rfl) _
    have HCk : Hid (Has W6 gc 31 #[.int .i64 0, .int .i64 nb3, .int .i64 (-3), .int .i64 0, .int .i64 0, .slice ob' nB3 cb', .slice oj' nJ3 cj', .slice oc' nC3 cc']) := by unfold Hid; rw [eW6]; exact HC5.out.put 2 _
    have KK : Hid (Made w3.heap.size w3 W6) := But.made_ K35.out k6 K35.out.1.size (fun b hb => by have hb : b = gc := hb; omega)
    have KT : Hid (Made w.heap.size w W6) := K3.out.then_ (KK.out.low K3.out.1.size)
    have HWd : Hid (WdAt W6 ob' B' oj' P.J oc' P.C) := HWs.out W6 gc k6 hgcs
    rw [← eW6]
    clear eW6 k6 d0 d1 d2 d3 d4 d5 d6 d7 ld fd
    have HVk := hid (WVar.kept HV3.out KK.out)
    have HNo := hid (wright_c 0 nb3 (-3) 0 0 ob' oj' oc' nB3 cb' nJ3 cj' nC3 cc' false HS.out.1 (by have := OKm.out.hB.len; have := HE3.out.1; omega) HE3.out.2.1 (by have := OKm.out.hJ.len; have := HE3.out.2.1; omega) HE3.out.2.2.1 (by have := HE3.out.2.2.1; rw [SMm.out] at this; simp at this; omega) (HWd.out) i64_0 i64_0 ⟨fun e => (by cases e), fun h => absurd h (fun h => by have := h.hJ.num.1; omega)⟩)
    have c0 := HCk.out.at_ 0
    have c1 := HCk.out.at_ 1
    have c2 := HCk.out.at_ 2
    have c3 := HCk.out.at_ 3
    have c4 := HCk.out.at_ 4
    have c5 := HCk.out.at_ 5
    have c6 := HCk.out.at_ 6
    have c7 := HCk.out.at_ 7
    simp at c0 c1 c2 c3 c4 c5 c6 c7
    have lc : gc < W6.heap.size := HCk.out.here
    go_wp2_with fail
    refine HNo.out.mono ?_
    rintro e w9 ⟨rfl, k9⟩
    have K9 := hid (KT.out.then_ (k9.low KT.out.1.size))
    have HV9 := hid (WVar.kept HVk.out k9)
    clear k9 lc c0 c1 c2 c3 c4 c5 c6 c7 HVk
    obtain ⟨ob9, oj9, oc9, cb9, cj9, cc9, hH9, hL9⟩ := HV9.out
    have HL9 := hid hL9
    have HH9 := hid hH9
    obtain ⟨nB9, eB9⟩ : ∃ m, (P).B.length = m := ⟨_, rfl⟩
    obtain ⟨nJ9, eJ9⟩ : ∃ m, (P).J.length = m := ⟨_, rfl⟩
    obtain ⟨nC9, eC9⟩ : ∃ m, (P).C.length = m := ⟨_, rfl⟩
    obtain ⟨nb9, eb9⟩ : ∃ m, (P).nb = m := ⟨_, rfl⟩
    obtain ⟨nj9, ej9⟩ : ∃ m, (P).nj = m := ⟨_, rfl⟩
    rw [eB9, eJ9, eC9, eb9, ej9] at HH9
    have HE9 := hid (And.intro eB9 (And.intro eJ9 (And.intro eC9 (And.intro eb9 ej9))))
    clear hH9 hL9 eB9 eJ9 eC9 eb9 ej9
    have b0 := HH9.out.at_ 0
    have b1 := HH9.out.at_ 1
    have b2 := HH9.out.at_ 2
    have b3 := HH9.out.at_ 3
    have b4 := HH9.out.at_ 4
    have b5 := HH9.out.at_ 5
    have b6 := HH9.out.at_ 6
    have b7 := HH9.out.at_ 7
    simp at b0 b1 b2 b3 b4 b5 b6 b7
    have lt9 : gw < w9.heap.size := HH9.out.here
    have HYs := hid (right_yes HL9.out OKm.out HE9.out (by rw [SMm.out]; simp))
    go_wp2_with fail
    refine HYs.out.mono ?_
    rintro e w10 ⟨rfl, k10⟩
    have K10 := hid (K9.out.then_ (k10.low K9.out.1.size))
    clear k10 b0 b1 b2 b3 b4 b5 b6 b7 lt9
    go_wp2_with fail
    go_ret
    exact ⟨rfl, by first | exact K10.out | exact eg0 ▸ K10.out⟩
  · rcases Nat.eq_zero_or_pos nB3 with hz | hz
    · have hq0 : ((nB3 : Int) == 0) = true := by rw [hz]; rfl
      have KT : Hid (Made w.heap.size w W5) := K3.out.then_ (K35.out.low K3.out.1.size)
      clear hz
      go_wp2_with fail
      go_ret
      exact ⟨rfl, by first | exact KT.out | exact eg0 ▸ KT.out⟩
    · have hq0 : ((nB3 : Int) == 0) = false := by simp; omega
      obtain ⟨gB, eoB, hgB, hgB2, hrow⟩ := HRW.out hz
      obtain ⟨mm, emm⟩ : ∃ z, h1 % 4096 = z := ⟨_, rfl⟩
      have aM : bits BinOp.and IntKind.i64 h1 4095 = mm := (and_low h1 12 (by omega)).trans emm
      have hm0 : 0 ≤ mm := by omega
      obtain ⟨j, ej⟩ : ∃ j : Nat, mm.tmod nB3 = (j : Int) := ⟨(mm % nB3).toNat, by rw [Int.tmod_eq_emod_of_nonneg hm0]; have := Int.emod_nonneg mm (show (nB3 : Int) ≠ 0 by omega); omega⟩
      have hj : j < nB3 := by rw [Int.tmod_eq_emod_of_nonneg hm0] at ej; have := Int.emod_lt_of_pos mm (show (0 : Int) < nB3 by omega); omega
      obtain ⟨S, eS⟩ : ∃ z, h1 / 4096 = z := ⟨_, rfl⟩
      obtain ⟨Q, eQ⟩ : ∃ z, S % 4 = z := ⟨_, rfl⟩
      have aQ := (and3 S).trans eQ
      have hQ : Q = 0 ∨ Q = 1 ∨ Q = 2 ∨ Q = 3 := by omega
      have inb3 : I64 nb3 := by have h := (nb_I OKm.out).1; rw [HE3.out.2.2.2.1] at h; exact h
      obtain ⟨yy, ey⟩ : ∃ a, B'[j]? = some a := ⟨_, List.getElem?_eq_getElem (by rw [HS.out.1]; exact hj)⟩
      have HNP : Hid (NumP (ids B') nb3) := by
        unfold Hid
        rw [same_ids HE3.out.1 HS.out.1 HS.out.2, ← HE3.out.2.2.2.1]
        exact OKm.out.hB.num
      obtain ⟨x0, x1, x2, x3, x4, x5, x6, x7, x8, x9, x10, x11, x12, x13⟩ := yy
      have EYJ := hid ey
      have HWr2 := hid (fun V => HWr.out gB V eoB hrow)
      have HRWx := hid hrow
      subst eoB
      clear hz emm eQ ey hrow
      go_upto_region 14 with fail
      refine reg_made (by kernel_rfl) (by kernel_rfl) ?_
      intro Ty hT fw hf
      have y5 := Class.reads hf d5
      have yk := Class.reads hf k1
      repeat (go_big_quiet_step (fail))
      refine wpQuiet_nil ?_
      intro W5' h5
      have k5 := hf.here h5
      have K36 := hid (K35.out.then_ (k5.low K35.out.1.size))
      have HC6 := hid (HC5.out.stays k5 HC5.out.here)
      have HRW6 := hid (HRWx.out.stays k5 HRWx.out.here)
      have HA7 := hid (HA6.out.stays k5 HA6.out.here)
      have HWs2 := hid (fun V (kb : But (fun b => b = gB) W5' V) => HWr2.out V ((Made.but k5).then_ kb))
      clear k5 h5 hf y5 yk d0 d1 d2 d3 d4 d5 d6 d7 ld fd k0 k1 lk HRWx
      have hcells := (HRW6.out.lsB j _ EYJ.out).b11
      obtain ⟨e0, e1, e2, e3, e4, e5, e6, e7, e8, e9, e10⟩ := hcells
      simp only [Nat.zero_add] at e0 e1 e2 e3 e4 e5 e6 e7 e8 e9 e10
      have lB : gB < W5'.heap.size := HRW6.out.here
      have fB : ∀ i, W5'.frozen? ⟨gB, i, none⟩ = false := HRW6.out.free
      have d0 := HC6.out.at_ 0
      have d1 := HC6.out.at_ 1
      have d2 := HC6.out.at_ 2
      have d3 := HC6.out.at_ 3
      have d4 := HC6.out.at_ 4
      have d5 := HC6.out.at_ 5
      have d6 := HC6.out.at_ 6
      have d7 := HC6.out.at_ 7
      simp at d0 d1 d2 d3 d4 d5 d6 d7
      have ld : gc < W5'.heap.size := HC6.out.here
      have k0 := HA7.out.at_ 0
      have k1 := HA7.out.at_ 1
      simp at k0 k1
      have lk : g1 < W5'.heap.size := HA7.out.here
      rcases hQ with rfl | rfl | rfl | rfl
      · go_upto_region 35 with fail
        obtain ⟨W6, eW6⟩ : ∃ V, V = W5'.setCell ⟨gB, j * 11, none⟩ (.int .i64 nb3) := ⟨_, rfl⟩
        have k6 : But (fun b => b = gB) W5' W6 := by rw [eW6]; exact (But.rfl_ (fun b => b = gB) _).put (p := ⟨gB, j * 11, none⟩) (.inl rfl) _
        have HCk : Hid (Has W6 gc 31 #[.int .i64 0, .int .i64 nb3, .int .i64 nj3, .int .i64 0, .int .i64 0, .slice (some ⟨gB, 0, none⟩) nB3 cb', .slice oj' nJ3 cj', .slice oc' nC3 cc']) := hid (HC6.out.but k6 (by show ¬ gc = gB; omega))
        have KK : Hid (Made w3.heap.size w3 W6) := But.made_ K36.out k6 K36.out.1.size (fun b hb => by have hb : b = gB := hb; omega)
        have KT : Hid (Made w.heap.size w W6) := K3.out.then_ (KK.out.low K3.out.1.size)
        have hrow6 : RowL encB 11 W6 gB 43 nB3 (B'.set j (⟨nb3, x1, x2, x3, x4, x5, x6, x7, x8, x9, x10, x11, x12, x13⟩ : Bd)) := by
          rw [eW6]
          refine HRW6.out.part encB_len EYJ.out 0 [.int .i64 nb3] (by simp) (fun b v hv => ?_)
          have hb : b < 11 := by rw [← encB_len (⟨nb3, x1, x2, x3, x4, x5, x6, x7, x8, x9, x10, x11, x12, x13⟩ : Bd)]; exact (List.getElem?_eq_some_iff.1 hv).1
          match b, hb with
          | 0, _ => exact hv
          | 1, _ => exact hv
          | 2, _ => exact hv
          | 3, _ => exact hv
          | 4, _ => exact hv
          | 5, _ => exact hv
          | 6, _ => exact hv
          | 7, _ => exact hv
          | 8, _ => exact hv
          | 9, _ => exact hv
          | 10, _ => exact hv
        have HWd : Hid (WdAt W6 (some ⟨gB, 0, none⟩) (B'.set j (⟨nb3, x1, x2, x3, x4, x5, x6, x7, x8, x9, x10, x11, x12, x13⟩ : Bd)) oj' P.J oc' P.C) := by
          have h := HWs2.out W6 k6
          refine ⟨hrow6.lsT, h.2.1, h.2.2.1, fun b hb => ?_, h.2.2.2.2.1, h.2.2.2.2.2⟩
          rcases List.mem_or_eq_of_mem_set hb with hb | hb
          · exact h.2.2.2.1 b hb
          · rw [hb]
            obtain ⟨s1, s2⟩ := h.2.2.2.1 _ (List.mem_of_getElem? EYJ.out)
            exact ⟨s1, ⟨(by show I64 nb3; exact inb3), s2.x, s2.y, s2.vx, s2.vy, s2.an, s2.sp, s2.de, s2.k, s2.r, s2.f⟩⟩
        have hmem : (⟨nb3, x1, x2, x3, x4, x5, x6, x7, x8, x9, x10, x11, x12, x13⟩ : Bd) ∈ B'.set j (⟨nb3, x1, x2, x3, x4, x5, x6, x7, x8, x9, x10, x11, x12, x13⟩ : Bd) := List.mem_iff_getElem?.2 ⟨j, List.getElem?_set_self (by rw [HS.out.1]; exact hj)⟩
        have HMm := hid hmem
        rw [← eW6]
        clear eW6 k6 hrow6 hmem d0 d1 d2 d3 d4 d5 d6 d7 ld k0 k1 lk fB e0 e1 e2 e3 e4 e5 e6 e7 e8 e9 e10 lB
        have HVk := hid (WVar.kept HV3.out KK.out)
        have HNo := hid (wright_c 0 nb3 nj3 0 0 (some ⟨gB, 0, none⟩) oj' oc' nB3 cb' nJ3 cj' nC3 cc' false (by rw [List.length_set]; exact HS.out.1) (by have := OKm.out.hB.len; have := HE3.out.1; omega) HE3.out.2.1 (by have := OKm.out.hJ.len; have := HE3.out.2.1; omega) HE3.out.2.2.1 (by have := HE3.out.2.2.1; rw [SMm.out] at this; simp at this; omega) (HWd.out) i64_0 i64_0 ⟨fun e => (by cases e), fun h => absurd h (fun h => by have h2 := (h.hB.num.2.2.2 nb3 (List.mem_map.2 ⟨_, HMm.out, rfl⟩)).2; omega)⟩)
        have c0 := HCk.out.at_ 0
        have c1 := HCk.out.at_ 1
        have c2 := HCk.out.at_ 2
        have c3 := HCk.out.at_ 3
        have c4 := HCk.out.at_ 4
        have c5 := HCk.out.at_ 5
        have c6 := HCk.out.at_ 6
        have c7 := HCk.out.at_ 7
        simp at c0 c1 c2 c3 c4 c5 c6 c7
        have lc : gc < W6.heap.size := HCk.out.here
        go_wp2_with fail
        refine HNo.out.mono ?_
        rintro e w9 ⟨rfl, k9⟩
        have K9 := hid (KT.out.then_ (k9.low KT.out.1.size))
        have HV9 := hid (WVar.kept HVk.out k9)
        clear k9 lc c0 c1 c2 c3 c4 c5 c6 c7 HVk
        obtain ⟨ob9, oj9, oc9, cb9, cj9, cc9, hH9, hL9⟩ := HV9.out
        have HL9 := hid hL9
        have HH9 := hid hH9
        obtain ⟨nB9, eB9⟩ : ∃ m, (P).B.length = m := ⟨_, rfl⟩
        obtain ⟨nJ9, eJ9⟩ : ∃ m, (P).J.length = m := ⟨_, rfl⟩
        obtain ⟨nC9, eC9⟩ : ∃ m, (P).C.length = m := ⟨_, rfl⟩
        obtain ⟨nb9, eb9⟩ : ∃ m, (P).nb = m := ⟨_, rfl⟩
        obtain ⟨nj9, ej9⟩ : ∃ m, (P).nj = m := ⟨_, rfl⟩
        rw [eB9, eJ9, eC9, eb9, ej9] at HH9
        have HE9 := hid (And.intro eB9 (And.intro eJ9 (And.intro eC9 (And.intro eb9 ej9))))
        clear hH9 hL9 eB9 eJ9 eC9 eb9 ej9
        have b0 := HH9.out.at_ 0
        have b1 := HH9.out.at_ 1
        have b2 := HH9.out.at_ 2
        have b3 := HH9.out.at_ 3
        have b4 := HH9.out.at_ 4
        have b5 := HH9.out.at_ 5
        have b6 := HH9.out.at_ 6
        have b7 := HH9.out.at_ 7
        simp at b0 b1 b2 b3 b4 b5 b6 b7
        have lt9 : gw < w9.heap.size := HH9.out.here
        have HYs := hid (right_yes HL9.out OKm.out HE9.out (by rw [SMm.out]; simp))
        go_wp2_with fail
        refine HYs.out.mono ?_
        rintro e w10 ⟨rfl, k10⟩
        have K10 := hid (K9.out.then_ (k10.low K9.out.1.size))
        clear k10 b0 b1 b2 b3 b4 b5 b6 b7 lt9
        go_wp2_with fail
        go_ret
        exact ⟨rfl, by first | exact K10.out | exact eg0 ▸ K10.out⟩
      · go_upto_region 35 with fail
        obtain ⟨W6, eW6⟩ : ∃ V, V = W5'.setCell ⟨gB, j * 11 + 5, none⟩ (.int .i64 4294967296) := ⟨_, rfl⟩
        have k6 : But (fun b => b = gB) W5' W6 := by rw [eW6]; exact (But.rfl_ (fun b => b = gB) _).put (p := ⟨gB, j * 11 + 5, none⟩) (.inl rfl) _
        have HCk : Hid (Has W6 gc 31 #[.int .i64 0, .int .i64 nb3, .int .i64 nj3, .int .i64 0, .int .i64 0, .slice (some ⟨gB, 0, none⟩) nB3 cb', .slice oj' nJ3 cj', .slice oc' nC3 cc']) := hid (HC6.out.but k6 (by show ¬ gc = gB; omega))
        have KK : Hid (Made w3.heap.size w3 W6) := But.made_ K36.out k6 K36.out.1.size (fun b hb => by have hb : b = gB := hb; omega)
        have KT : Hid (Made w.heap.size w W6) := K3.out.then_ (KK.out.low K3.out.1.size)
        have hrow6 : RowL encB 11 W6 gB 43 nB3 (B'.set j (⟨x0, x1, x2, x3, x4, 4294967296, x6, x7, x8, x9, x10, x11, x12, x13⟩ : Bd)) := by
          rw [eW6]
          refine HRW6.out.part encB_len EYJ.out 5 [.int .i64 4294967296] (by simp) (fun b v hv => ?_)
          have hb : b < 11 := by rw [← encB_len (⟨x0, x1, x2, x3, x4, 4294967296, x6, x7, x8, x9, x10, x11, x12, x13⟩ : Bd)]; exact (List.getElem?_eq_some_iff.1 hv).1
          match b, hb with
          | 0, _ => exact hv
          | 1, _ => exact hv
          | 2, _ => exact hv
          | 3, _ => exact hv
          | 4, _ => exact hv
          | 5, _ => exact hv
          | 6, _ => exact hv
          | 7, _ => exact hv
          | 8, _ => exact hv
          | 9, _ => exact hv
          | 10, _ => exact hv
        have HWd : Hid (WdAt W6 (some ⟨gB, 0, none⟩) (B'.set j (⟨x0, x1, x2, x3, x4, 4294967296, x6, x7, x8, x9, x10, x11, x12, x13⟩ : Bd)) oj' P.J oc' P.C) := by
          have h := HWs2.out W6 k6
          refine ⟨hrow6.lsT, h.2.1, h.2.2.1, fun b hb => ?_, h.2.2.2.2.1, h.2.2.2.2.2⟩
          rcases List.mem_or_eq_of_mem_set hb with hb | hb
          · exact h.2.2.2.1 b hb
          · rw [hb]
            obtain ⟨s1, s2⟩ := h.2.2.2.1 _ (List.mem_of_getElem? EYJ.out)
            exact ⟨s1, ⟨s2.id, s2.x, s2.y, s2.vx, s2.vy, (by show I64 4294967296; unfold I64; omega), s2.sp, s2.de, s2.k, s2.r, s2.f⟩⟩
        have hmem : (⟨x0, x1, x2, x3, x4, 4294967296, x6, x7, x8, x9, x10, x11, x12, x13⟩ : Bd) ∈ B'.set j (⟨x0, x1, x2, x3, x4, 4294967296, x6, x7, x8, x9, x10, x11, x12, x13⟩ : Bd) := List.mem_iff_getElem?.2 ⟨j, List.getElem?_set_self (by rw [HS.out.1]; exact hj)⟩
        have HMm := hid hmem
        rw [← eW6]
        clear eW6 k6 hrow6 hmem d0 d1 d2 d3 d4 d5 d6 d7 ld k0 k1 lk fB e0 e1 e2 e3 e4 e5 e6 e7 e8 e9 e10 lB
        have HVk := hid (WVar.kept HV3.out KK.out)
        have HNo := hid (wright_c 0 nb3 nj3 0 0 (some ⟨gB, 0, none⟩) oj' oc' nB3 cb' nJ3 cj' nC3 cc' false (by rw [List.length_set]; exact HS.out.1) (by have := OKm.out.hB.len; have := HE3.out.1; omega) HE3.out.2.1 (by have := OKm.out.hJ.len; have := HE3.out.2.1; omega) HE3.out.2.2.1 (by have := HE3.out.2.2.1; rw [SMm.out] at this; simp at this; omega) (HWd.out) i64_0 i64_0 ⟨fun e => (by cases e), fun h => absurd h (fun h => by have h2 : (4294967296 : Int) ≤ 4294967295 := (h.hB.all _ HMm.out).an.2; omega)⟩)
        have c0 := HCk.out.at_ 0
        have c1 := HCk.out.at_ 1
        have c2 := HCk.out.at_ 2
        have c3 := HCk.out.at_ 3
        have c4 := HCk.out.at_ 4
        have c5 := HCk.out.at_ 5
        have c6 := HCk.out.at_ 6
        have c7 := HCk.out.at_ 7
        simp at c0 c1 c2 c3 c4 c5 c6 c7
        have lc : gc < W6.heap.size := HCk.out.here
        go_wp2_with fail
        refine HNo.out.mono ?_
        rintro e w9 ⟨rfl, k9⟩
        have K9 := hid (KT.out.then_ (k9.low KT.out.1.size))
        have HV9 := hid (WVar.kept HVk.out k9)
        clear k9 lc c0 c1 c2 c3 c4 c5 c6 c7 HVk
        obtain ⟨ob9, oj9, oc9, cb9, cj9, cc9, hH9, hL9⟩ := HV9.out
        have HL9 := hid hL9
        have HH9 := hid hH9
        obtain ⟨nB9, eB9⟩ : ∃ m, (P).B.length = m := ⟨_, rfl⟩
        obtain ⟨nJ9, eJ9⟩ : ∃ m, (P).J.length = m := ⟨_, rfl⟩
        obtain ⟨nC9, eC9⟩ : ∃ m, (P).C.length = m := ⟨_, rfl⟩
        obtain ⟨nb9, eb9⟩ : ∃ m, (P).nb = m := ⟨_, rfl⟩
        obtain ⟨nj9, ej9⟩ : ∃ m, (P).nj = m := ⟨_, rfl⟩
        rw [eB9, eJ9, eC9, eb9, ej9] at HH9
        have HE9 := hid (And.intro eB9 (And.intro eJ9 (And.intro eC9 (And.intro eb9 ej9))))
        clear hH9 hL9 eB9 eJ9 eC9 eb9 ej9
        have b0 := HH9.out.at_ 0
        have b1 := HH9.out.at_ 1
        have b2 := HH9.out.at_ 2
        have b3 := HH9.out.at_ 3
        have b4 := HH9.out.at_ 4
        have b5 := HH9.out.at_ 5
        have b6 := HH9.out.at_ 6
        have b7 := HH9.out.at_ 7
        simp at b0 b1 b2 b3 b4 b5 b6 b7
        have lt9 : gw < w9.heap.size := HH9.out.here
        have HYs := hid (right_yes HL9.out OKm.out HE9.out (by rw [SMm.out]; simp))
        go_wp2_with fail
        refine HYs.out.mono ?_
        rintro e w10 ⟨rfl, k10⟩
        have K10 := hid (K9.out.then_ (k10.low K9.out.1.size))
        clear k10 b0 b1 b2 b3 b4 b5 b6 b7 lt9
        go_wp2_with fail
        go_ret
        exact ⟨rfl, by first | exact K10.out | exact eg0 ▸ K10.out⟩
      · go_upto_region 35 with fail
        obtain ⟨W6, eW6⟩ : ∃ V, V = W5'.setCell ⟨gB, j * 11 + 7, none⟩ (.int .i64 (-1)) := ⟨_, rfl⟩
        have k6 : But (fun b => b = gB) W5' W6 := by rw [eW6]; exact (But.rfl_ (fun b => b = gB) _).put (p := ⟨gB, j * 11 + 7, none⟩) (.inl rfl) _
        have HCk : Hid (Has W6 gc 31 #[.int .i64 0, .int .i64 nb3, .int .i64 nj3, .int .i64 0, .int .i64 0, .slice (some ⟨gB, 0, none⟩) nB3 cb', .slice oj' nJ3 cj', .slice oc' nC3 cc']) := hid (HC6.out.but k6 (by show ¬ gc = gB; omega))
        have KK : Hid (Made w3.heap.size w3 W6) := But.made_ K36.out k6 K36.out.1.size (fun b hb => by have hb : b = gB := hb; omega)
        have KT : Hid (Made w.heap.size w W6) := K3.out.then_ (KK.out.low K3.out.1.size)
        have hrow6 : RowL encB 11 W6 gB 43 nB3 (B'.set j (⟨x0, x1, x2, x3, x4, x5, x6, (-1), x8, x9, x10, x11, x12, x13⟩ : Bd)) := by
          rw [eW6]
          refine HRW6.out.part encB_len EYJ.out 7 [.int .i64 (-1)] (by simp) (fun b v hv => ?_)
          have hb : b < 11 := by rw [← encB_len (⟨x0, x1, x2, x3, x4, x5, x6, (-1), x8, x9, x10, x11, x12, x13⟩ : Bd)]; exact (List.getElem?_eq_some_iff.1 hv).1
          match b, hb with
          | 0, _ => exact hv
          | 1, _ => exact hv
          | 2, _ => exact hv
          | 3, _ => exact hv
          | 4, _ => exact hv
          | 5, _ => exact hv
          | 6, _ => exact hv
          | 7, _ => exact hv
          | 8, _ => exact hv
          | 9, _ => exact hv
          | 10, _ => exact hv
        have HWd : Hid (WdAt W6 (some ⟨gB, 0, none⟩) (B'.set j (⟨x0, x1, x2, x3, x4, x5, x6, (-1), x8, x9, x10, x11, x12, x13⟩ : Bd)) oj' P.J oc' P.C) := by
          have h := HWs2.out W6 k6
          refine ⟨hrow6.lsT, h.2.1, h.2.2.1, fun b hb => ?_, h.2.2.2.2.1, h.2.2.2.2.2⟩
          rcases List.mem_or_eq_of_mem_set hb with hb | hb
          · exact h.2.2.2.1 b hb
          · rw [hb]
            obtain ⟨s1, s2⟩ := h.2.2.2.1 _ (List.mem_of_getElem? EYJ.out)
            exact ⟨s1, ⟨s2.id, s2.x, s2.y, s2.vx, s2.vy, s2.an, s2.sp, (by show I64 (-1); unfold I64; omega), s2.k, s2.r, s2.f⟩⟩
        have hmem : (⟨x0, x1, x2, x3, x4, x5, x6, (-1), x8, x9, x10, x11, x12, x13⟩ : Bd) ∈ B'.set j (⟨x0, x1, x2, x3, x4, x5, x6, (-1), x8, x9, x10, x11, x12, x13⟩ : Bd) := List.mem_iff_getElem?.2 ⟨j, List.getElem?_set_self (by rw [HS.out.1]; exact hj)⟩
        have HMm := hid hmem
        rw [← eW6]
        clear eW6 k6 hrow6 hmem d0 d1 d2 d3 d4 d5 d6 d7 ld k0 k1 lk fB e0 e1 e2 e3 e4 e5 e6 e7 e8 e9 e10 lB
        have HVk := hid (WVar.kept HV3.out KK.out)
        have HNo := hid (wright_c 0 nb3 nj3 0 0 (some ⟨gB, 0, none⟩) oj' oc' nB3 cb' nJ3 cj' nC3 cc' false (by rw [List.length_set]; exact HS.out.1) (by have := OKm.out.hB.len; have := HE3.out.1; omega) HE3.out.2.1 (by have := OKm.out.hJ.len; have := HE3.out.2.1; omega) HE3.out.2.2.1 (by have := HE3.out.2.2.1; rw [SMm.out] at this; simp at this; omega) (HWd.out) i64_0 i64_0 ⟨fun e => (by cases e), fun h => absurd h (fun h => by have h2 : (0 : Int) ≤ -1 := (h.hB.all _ HMm.out).de.1; omega)⟩)
        have c0 := HCk.out.at_ 0
        have c1 := HCk.out.at_ 1
        have c2 := HCk.out.at_ 2
        have c3 := HCk.out.at_ 3
        have c4 := HCk.out.at_ 4
        have c5 := HCk.out.at_ 5
        have c6 := HCk.out.at_ 6
        have c7 := HCk.out.at_ 7
        simp at c0 c1 c2 c3 c4 c5 c6 c7
        have lc : gc < W6.heap.size := HCk.out.here
        go_wp2_with fail
        refine HNo.out.mono ?_
        rintro e w9 ⟨rfl, k9⟩
        have K9 := hid (KT.out.then_ (k9.low KT.out.1.size))
        have HV9 := hid (WVar.kept HVk.out k9)
        clear k9 lc c0 c1 c2 c3 c4 c5 c6 c7 HVk
        obtain ⟨ob9, oj9, oc9, cb9, cj9, cc9, hH9, hL9⟩ := HV9.out
        have HL9 := hid hL9
        have HH9 := hid hH9
        obtain ⟨nB9, eB9⟩ : ∃ m, (P).B.length = m := ⟨_, rfl⟩
        obtain ⟨nJ9, eJ9⟩ : ∃ m, (P).J.length = m := ⟨_, rfl⟩
        obtain ⟨nC9, eC9⟩ : ∃ m, (P).C.length = m := ⟨_, rfl⟩
        obtain ⟨nb9, eb9⟩ : ∃ m, (P).nb = m := ⟨_, rfl⟩
        obtain ⟨nj9, ej9⟩ : ∃ m, (P).nj = m := ⟨_, rfl⟩
        rw [eB9, eJ9, eC9, eb9, ej9] at HH9
        have HE9 := hid (And.intro eB9 (And.intro eJ9 (And.intro eC9 (And.intro eb9 ej9))))
        clear hH9 hL9 eB9 eJ9 eC9 eb9 ej9
        have b0 := HH9.out.at_ 0
        have b1 := HH9.out.at_ 1
        have b2 := HH9.out.at_ 2
        have b3 := HH9.out.at_ 3
        have b4 := HH9.out.at_ 4
        have b5 := HH9.out.at_ 5
        have b6 := HH9.out.at_ 6
        have b7 := HH9.out.at_ 7
        simp at b0 b1 b2 b3 b4 b5 b6 b7
        have lt9 : gw < w9.heap.size := HH9.out.here
        have HYs := hid (right_yes HL9.out OKm.out HE9.out (by rw [SMm.out]; simp))
        go_wp2_with fail
        refine HYs.out.mono ?_
        rintro e w10 ⟨rfl, k10⟩
        have K10 := hid (K9.out.then_ (k10.low K9.out.1.size))
        clear k10 b0 b1 b2 b3 b4 b5 b6 b7 lt9
        go_wp2_with fail
        go_ret
        exact ⟨rfl, by first | exact K10.out | exact eg0 ▸ K10.out⟩
      · go_upto_region 35 with fail
        obtain ⟨W6, eW6⟩ : ∃ V, V = W5'.setCell ⟨gB, j * 11 + 8, none⟩ (.int .i64 3) := ⟨_, rfl⟩
        have k6 : But (fun b => b = gB) W5' W6 := by rw [eW6]; exact (But.rfl_ (fun b => b = gB) _).put (p := ⟨gB, j * 11 + 8, none⟩) (.inl rfl) _
        have HCk : Hid (Has W6 gc 31 #[.int .i64 0, .int .i64 nb3, .int .i64 nj3, .int .i64 0, .int .i64 0, .slice (some ⟨gB, 0, none⟩) nB3 cb', .slice oj' nJ3 cj', .slice oc' nC3 cc']) := hid (HC6.out.but k6 (by show ¬ gc = gB; omega))
        have KK : Hid (Made w3.heap.size w3 W6) := But.made_ K36.out k6 K36.out.1.size (fun b hb => by have hb : b = gB := hb; omega)
        have KT : Hid (Made w.heap.size w W6) := K3.out.then_ (KK.out.low K3.out.1.size)
        have hrow6 : RowL encB 11 W6 gB 43 nB3 (B'.set j (⟨x0, x1, x2, x3, x4, x5, x6, x7, 3, x9, x10, x11, x12, x13⟩ : Bd)) := by
          rw [eW6]
          refine HRW6.out.part encB_len EYJ.out 8 [.int .i64 3] (by simp) (fun b v hv => ?_)
          have hb : b < 11 := by rw [← encB_len (⟨x0, x1, x2, x3, x4, x5, x6, x7, 3, x9, x10, x11, x12, x13⟩ : Bd)]; exact (List.getElem?_eq_some_iff.1 hv).1
          match b, hb with
          | 0, _ => exact hv
          | 1, _ => exact hv
          | 2, _ => exact hv
          | 3, _ => exact hv
          | 4, _ => exact hv
          | 5, _ => exact hv
          | 6, _ => exact hv
          | 7, _ => exact hv
          | 8, _ => exact hv
          | 9, _ => exact hv
          | 10, _ => exact hv
        have HWd : Hid (WdAt W6 (some ⟨gB, 0, none⟩) (B'.set j (⟨x0, x1, x2, x3, x4, x5, x6, x7, 3, x9, x10, x11, x12, x13⟩ : Bd)) oj' P.J oc' P.C) := by
          have h := HWs2.out W6 k6
          refine ⟨hrow6.lsT, h.2.1, h.2.2.1, fun b hb => ?_, h.2.2.2.2.1, h.2.2.2.2.2⟩
          rcases List.mem_or_eq_of_mem_set hb with hb | hb
          · exact h.2.2.2.1 b hb
          · rw [hb]
            obtain ⟨s1, s2⟩ := h.2.2.2.1 _ (List.mem_of_getElem? EYJ.out)
            exact ⟨s1, ⟨s2.id, s2.x, s2.y, s2.vx, s2.vy, s2.an, s2.sp, s2.de, (by show I64 3; unfold I64; omega), s2.r, s2.f⟩⟩
        have hmem : (⟨x0, x1, x2, x3, x4, x5, x6, x7, 3, x9, x10, x11, x12, x13⟩ : Bd) ∈ B'.set j (⟨x0, x1, x2, x3, x4, x5, x6, x7, 3, x9, x10, x11, x12, x13⟩ : Bd) := List.mem_iff_getElem?.2 ⟨j, List.getElem?_set_self (by rw [HS.out.1]; exact hj)⟩
        have HMm := hid hmem
        rw [← eW6]
        clear eW6 k6 hrow6 hmem d0 d1 d2 d3 d4 d5 d6 d7 ld k0 k1 lk fB e0 e1 e2 e3 e4 e5 e6 e7 e8 e9 e10 lB
        have HVk := hid (WVar.kept HV3.out KK.out)
        have HNo := hid (wright_c 0 nb3 nj3 0 0 (some ⟨gB, 0, none⟩) oj' oc' nB3 cb' nJ3 cj' nC3 cc' false (by rw [List.length_set]; exact HS.out.1) (by have := OKm.out.hB.len; have := HE3.out.1; omega) HE3.out.2.1 (by have := OKm.out.hJ.len; have := HE3.out.2.1; omega) HE3.out.2.2.1 (by have := HE3.out.2.2.1; rw [SMm.out] at this; simp at this; omega) (HWd.out) i64_0 i64_0 ⟨fun e => (by cases e), fun h => absurd h (fun h => (h.hB.all _ HMm.out).shape.elim (fun h2 => by have h3 : (3 : Int) = 1 := h2.1; omega) (fun h2 => by have h3 : (3 : Int) = 2 := h2.1; omega))⟩)
        have c0 := HCk.out.at_ 0
        have c1 := HCk.out.at_ 1
        have c2 := HCk.out.at_ 2
        have c3 := HCk.out.at_ 3
        have c4 := HCk.out.at_ 4
        have c5 := HCk.out.at_ 5
        have c6 := HCk.out.at_ 6
        have c7 := HCk.out.at_ 7
        simp at c0 c1 c2 c3 c4 c5 c6 c7
        have lc : gc < W6.heap.size := HCk.out.here
        go_wp2_with fail
        refine HNo.out.mono ?_
        rintro e w9 ⟨rfl, k9⟩
        have K9 := hid (KT.out.then_ (k9.low KT.out.1.size))
        have HV9 := hid (WVar.kept HVk.out k9)
        clear k9 lc c0 c1 c2 c3 c4 c5 c6 c7 HVk
        obtain ⟨ob9, oj9, oc9, cb9, cj9, cc9, hH9, hL9⟩ := HV9.out
        have HL9 := hid hL9
        have HH9 := hid hH9
        obtain ⟨nB9, eB9⟩ : ∃ m, (P).B.length = m := ⟨_, rfl⟩
        obtain ⟨nJ9, eJ9⟩ : ∃ m, (P).J.length = m := ⟨_, rfl⟩
        obtain ⟨nC9, eC9⟩ : ∃ m, (P).C.length = m := ⟨_, rfl⟩
        obtain ⟨nb9, eb9⟩ : ∃ m, (P).nb = m := ⟨_, rfl⟩
        obtain ⟨nj9, ej9⟩ : ∃ m, (P).nj = m := ⟨_, rfl⟩
        rw [eB9, eJ9, eC9, eb9, ej9] at HH9
        have HE9 := hid (And.intro eB9 (And.intro eJ9 (And.intro eC9 (And.intro eb9 ej9))))
        clear hH9 hL9 eB9 eJ9 eC9 eb9 ej9
        have b0 := HH9.out.at_ 0
        have b1 := HH9.out.at_ 1
        have b2 := HH9.out.at_ 2
        have b3 := HH9.out.at_ 3
        have b4 := HH9.out.at_ 4
        have b5 := HH9.out.at_ 5
        have b6 := HH9.out.at_ 6
        have b7 := HH9.out.at_ 7
        simp at b0 b1 b2 b3 b4 b5 b6 b7
        have lt9 : gw < w9.heap.size := HH9.out.here
        have HYs := hid (right_yes HL9.out OKm.out HE9.out (by rw [SMm.out]; simp))
        go_wp2_with fail
        refine HYs.out.mono ?_
        rintro e w10 ⟨rfl, k10⟩
        have K10 := hid (K9.out.then_ (k10.low K9.out.1.size))
        clear k10 b0 b1 b2 b3 b4 b5 b6 b7 lt9
        go_wp2_with fail
        go_ret
        exact ⟨rfl, by first | exact K10.out | exact eg0 ▸ K10.out⟩
  · rcases Nat.eq_zero_or_pos nB3 with hz | hz
    · have hq0 : ((nB3 : Int) == 0) = true := by rw [hz]; rfl
      have KT : Hid (Made w.heap.size w W5) := K3.out.then_ (K35.out.low K3.out.1.size)
      clear hz
      go_wp2_with fail
      go_ret
      exact ⟨rfl, by first | exact KT.out | exact eg0 ▸ KT.out⟩
    · have hq0 : ((nB3 : Int) == 0) = false := by simp; omega
      obtain ⟨gB, eoB, hgB, hgB2, hrow⟩ := HRW.out hz
      obtain ⟨mm, emm⟩ : ∃ z, h1 % 4096 = z := ⟨_, rfl⟩
      have aM : bits BinOp.and IntKind.i64 h1 4095 = mm := (and_low h1 12 (by omega)).trans emm
      have hm0 : 0 ≤ mm := by omega
      obtain ⟨j, ej⟩ : ∃ j : Nat, mm.tmod nB3 = (j : Int) := ⟨(mm % nB3).toNat, by rw [Int.tmod_eq_emod_of_nonneg hm0]; have := Int.emod_nonneg mm (show (nB3 : Int) ≠ 0 by omega); omega⟩
      have hj : j < nB3 := by rw [Int.tmod_eq_emod_of_nonneg hm0] at ej; have := Int.emod_lt_of_pos mm (show (0 : Int) < nB3 by omega); omega
      obtain ⟨S, eS⟩ : ∃ z, h1 / 4096 = z := ⟨_, rfl⟩
      obtain ⟨Q, eQ⟩ : ∃ z, S % 4 = z := ⟨_, rfl⟩
      have aQ := (and3 S).trans eQ
      have hQ : Q = 0 ∨ Q = 1 ∨ Q = 2 ∨ Q = 3 := by omega
      have inb3 : I64 nb3 := by have h := (nb_I OKm.out).1; rw [HE3.out.2.2.2.1] at h; exact h
      obtain ⟨yy, ey⟩ : ∃ a, B'[j]? = some a := ⟨_, List.getElem?_eq_getElem (by rw [HS.out.1]; exact hj)⟩
      have HNP : Hid (NumP (ids B') nb3) := by
        unfold Hid
        rw [same_ids HE3.out.1 HS.out.1 HS.out.2, ← HE3.out.2.2.2.1]
        exact OKm.out.hB.num
      obtain ⟨x0, x1, x2, x3, x4, x5, x6, x7, x8, x9, x10, x11, x12, x13⟩ := yy
      have EYJ := hid ey
      have HWr2 := hid (fun V => HWr.out gB V eoB hrow)
      have HRWx := hid hrow
      subst eoB
      clear hz emm eQ ey hrow
      go_upto_region 14 with fail
      refine reg_made (by kernel_rfl) (by kernel_rfl) ?_
      intro Ty hT fw hf
      have y5 := Class.reads hf d5
      have yk := Class.reads hf k1
      repeat (go_big_quiet_step (fail))
      refine wpQuiet_nil ?_
      intro W5' h5
      have k5 := hf.here h5
      have K36 := hid (K35.out.then_ (k5.low K35.out.1.size))
      have HC6 := hid (HC5.out.stays k5 HC5.out.here)
      have HRW6 := hid (HRWx.out.stays k5 HRWx.out.here)
      have HA7 := hid (HA6.out.stays k5 HA6.out.here)
      have HWs2 := hid (fun V (kb : But (fun b => b = gB) W5' V) => HWr2.out V ((Made.but k5).then_ kb))
      clear k5 h5 hf y5 yk d0 d1 d2 d3 d4 d5 d6 d7 ld fd k0 k1 lk HRWx
      have hcells := (HRW6.out.lsB j _ EYJ.out).b11
      obtain ⟨e0, e1, e2, e3, e4, e5, e6, e7, e8, e9, e10⟩ := hcells
      simp only [Nat.zero_add] at e0 e1 e2 e3 e4 e5 e6 e7 e8 e9 e10
      have lB : gB < W5'.heap.size := HRW6.out.here
      have fB : ∀ i, W5'.frozen? ⟨gB, i, none⟩ = false := HRW6.out.free
      have d0 := HC6.out.at_ 0
      have d1 := HC6.out.at_ 1
      have d2 := HC6.out.at_ 2
      have d3 := HC6.out.at_ 3
      have d4 := HC6.out.at_ 4
      have d5 := HC6.out.at_ 5
      have d6 := HC6.out.at_ 6
      have d7 := HC6.out.at_ 7
      simp at d0 d1 d2 d3 d4 d5 d6 d7
      have ld : gc < W5'.heap.size := HC6.out.here
      have k0 := HA7.out.at_ 0
      have k1 := HA7.out.at_ 1
      simp at k0 k1
      have lk : g1 < W5'.heap.size := HA7.out.here
      rcases hQ with rfl | rfl | rfl | rfl
      · go_upto_region 35 with fail
        obtain ⟨W6, eW6⟩ : ∃ V, V = W5'.setCell ⟨gB, j * 11, none⟩ (.int .i64 nb3) := ⟨_, rfl⟩
        have k6 : But (fun b => b = gB) W5' W6 := by rw [eW6]; exact (But.rfl_ (fun b => b = gB) _).put (p := ⟨gB, j * 11, none⟩) (.inl rfl) _
        have HCk : Hid (Has W6 gc 31 #[.int .i64 0, .int .i64 nb3, .int .i64 nj3, .int .i64 0, .int .i64 0, .slice (some ⟨gB, 0, none⟩) nB3 cb', .slice oj' nJ3 cj', .slice oc' nC3 cc']) := hid (HC6.out.but k6 (by show ¬ gc = gB; omega))
        have KK : Hid (Made w3.heap.size w3 W6) := But.made_ K36.out k6 K36.out.1.size (fun b hb => by have hb : b = gB := hb; omega)
        have KT : Hid (Made w.heap.size w W6) := K3.out.then_ (KK.out.low K3.out.1.size)
        have hrow6 : RowL encB 11 W6 gB 43 nB3 (B'.set j (⟨nb3, x1, x2, x3, x4, x5, x6, x7, x8, x9, x10, x11, x12, x13⟩ : Bd)) := by
          rw [eW6]
          refine HRW6.out.part encB_len EYJ.out 0 [.int .i64 nb3] (by simp) (fun b v hv => ?_)
          have hb : b < 11 := by rw [← encB_len (⟨nb3, x1, x2, x3, x4, x5, x6, x7, x8, x9, x10, x11, x12, x13⟩ : Bd)]; exact (List.getElem?_eq_some_iff.1 hv).1
          match b, hb with
          | 0, _ => exact hv
          | 1, _ => exact hv
          | 2, _ => exact hv
          | 3, _ => exact hv
          | 4, _ => exact hv
          | 5, _ => exact hv
          | 6, _ => exact hv
          | 7, _ => exact hv
          | 8, _ => exact hv
          | 9, _ => exact hv
          | 10, _ => exact hv
        have HWd : Hid (WdAt W6 (some ⟨gB, 0, none⟩) (B'.set j (⟨nb3, x1, x2, x3, x4, x5, x6, x7, x8, x9, x10, x11, x12, x13⟩ : Bd)) oj' P.J oc' P.C) := by
          have h := HWs2.out W6 k6
          refine ⟨hrow6.lsT, h.2.1, h.2.2.1, fun b hb => ?_, h.2.2.2.2.1, h.2.2.2.2.2⟩
          rcases List.mem_or_eq_of_mem_set hb with hb | hb
          · exact h.2.2.2.1 b hb
          · rw [hb]
            obtain ⟨s1, s2⟩ := h.2.2.2.1 _ (List.mem_of_getElem? EYJ.out)
            exact ⟨s1, ⟨(by show I64 nb3; exact inb3), s2.x, s2.y, s2.vx, s2.vy, s2.an, s2.sp, s2.de, s2.k, s2.r, s2.f⟩⟩
        have hmem : (⟨nb3, x1, x2, x3, x4, x5, x6, x7, x8, x9, x10, x11, x12, x13⟩ : Bd) ∈ B'.set j (⟨nb3, x1, x2, x3, x4, x5, x6, x7, x8, x9, x10, x11, x12, x13⟩ : Bd) := List.mem_iff_getElem?.2 ⟨j, List.getElem?_set_self (by rw [HS.out.1]; exact hj)⟩
        have HMm := hid hmem
        rw [← eW6]
        clear eW6 k6 hrow6 hmem d0 d1 d2 d3 d4 d5 d6 d7 ld k0 k1 lk fB e0 e1 e2 e3 e4 e5 e6 e7 e8 e9 e10 lB
        have HVk := hid (WVar.kept HV3.out KK.out)
        have HNo := hid (wright_c 0 nb3 nj3 0 0 (some ⟨gB, 0, none⟩) oj' oc' nB3 cb' nJ3 cj' nC3 cc' false (by rw [List.length_set]; exact HS.out.1) (by have := OKm.out.hB.len; have := HE3.out.1; omega) HE3.out.2.1 (by have := OKm.out.hJ.len; have := HE3.out.2.1; omega) HE3.out.2.2.1 (by have := HE3.out.2.2.1; rw [SMm.out] at this; simp at this; omega) (HWd.out) i64_0 i64_0 ⟨fun e => (by cases e), fun h => absurd h (fun h => by have h2 := (h.hB.num.2.2.2 nb3 (List.mem_map.2 ⟨_, HMm.out, rfl⟩)).2; omega)⟩)
        have c0 := HCk.out.at_ 0
        have c1 := HCk.out.at_ 1
        have c2 := HCk.out.at_ 2
        have c3 := HCk.out.at_ 3
        have c4 := HCk.out.at_ 4
        have c5 := HCk.out.at_ 5
        have c6 := HCk.out.at_ 6
        have c7 := HCk.out.at_ 7
        simp at c0 c1 c2 c3 c4 c5 c6 c7
        have lc : gc < W6.heap.size := HCk.out.here
        go_wp2_with fail
        refine HNo.out.mono ?_
        rintro e w9 ⟨rfl, k9⟩
        have K9 := hid (KT.out.then_ (k9.low KT.out.1.size))
        have HV9 := hid (WVar.kept HVk.out k9)
        clear k9 lc c0 c1 c2 c3 c4 c5 c6 c7 HVk
        obtain ⟨ob9, oj9, oc9, cb9, cj9, cc9, hH9, hL9⟩ := HV9.out
        have HL9 := hid hL9
        have HH9 := hid hH9
        obtain ⟨nB9, eB9⟩ : ∃ m, (P).B.length = m := ⟨_, rfl⟩
        obtain ⟨nJ9, eJ9⟩ : ∃ m, (P).J.length = m := ⟨_, rfl⟩
        obtain ⟨nC9, eC9⟩ : ∃ m, (P).C.length = m := ⟨_, rfl⟩
        obtain ⟨nb9, eb9⟩ : ∃ m, (P).nb = m := ⟨_, rfl⟩
        obtain ⟨nj9, ej9⟩ : ∃ m, (P).nj = m := ⟨_, rfl⟩
        rw [eB9, eJ9, eC9, eb9, ej9] at HH9
        have HE9 := hid (And.intro eB9 (And.intro eJ9 (And.intro eC9 (And.intro eb9 ej9))))
        clear hH9 hL9 eB9 eJ9 eC9 eb9 ej9
        have b0 := HH9.out.at_ 0
        have b1 := HH9.out.at_ 1
        have b2 := HH9.out.at_ 2
        have b3 := HH9.out.at_ 3
        have b4 := HH9.out.at_ 4
        have b5 := HH9.out.at_ 5
        have b6 := HH9.out.at_ 6
        have b7 := HH9.out.at_ 7
        simp at b0 b1 b2 b3 b4 b5 b6 b7
        have lt9 : gw < w9.heap.size := HH9.out.here
        have HYs := hid (right_yes HL9.out OKm.out HE9.out (by rw [SMm.out]; simp))
        go_wp2_with fail
        refine HYs.out.mono ?_
        rintro e w10 ⟨rfl, k10⟩
        have K10 := hid (K9.out.then_ (k10.low K9.out.1.size))
        clear k10 b0 b1 b2 b3 b4 b5 b6 b7 lt9
        go_wp2_with fail
        go_ret
        exact ⟨rfl, by first | exact K10.out | exact eg0 ▸ K10.out⟩
      · go_upto_region 35 with fail
        obtain ⟨W6, eW6⟩ : ∃ V, V = W5'.setCell ⟨gB, j * 11 + 5, none⟩ (.int .i64 4294967296) := ⟨_, rfl⟩
        have k6 : But (fun b => b = gB) W5' W6 := by rw [eW6]; exact (But.rfl_ (fun b => b = gB) _).put (p := ⟨gB, j * 11 + 5, none⟩) (.inl rfl) _
        have HCk : Hid (Has W6 gc 31 #[.int .i64 0, .int .i64 nb3, .int .i64 nj3, .int .i64 0, .int .i64 0, .slice (some ⟨gB, 0, none⟩) nB3 cb', .slice oj' nJ3 cj', .slice oc' nC3 cc']) := hid (HC6.out.but k6 (by show ¬ gc = gB; omega))
        have KK : Hid (Made w3.heap.size w3 W6) := But.made_ K36.out k6 K36.out.1.size (fun b hb => by have hb : b = gB := hb; omega)
        have KT : Hid (Made w.heap.size w W6) := K3.out.then_ (KK.out.low K3.out.1.size)
        have hrow6 : RowL encB 11 W6 gB 43 nB3 (B'.set j (⟨x0, x1, x2, x3, x4, 4294967296, x6, x7, x8, x9, x10, x11, x12, x13⟩ : Bd)) := by
          rw [eW6]
          refine HRW6.out.part encB_len EYJ.out 5 [.int .i64 4294967296] (by simp) (fun b v hv => ?_)
          have hb : b < 11 := by rw [← encB_len (⟨x0, x1, x2, x3, x4, 4294967296, x6, x7, x8, x9, x10, x11, x12, x13⟩ : Bd)]; exact (List.getElem?_eq_some_iff.1 hv).1
          match b, hb with
          | 0, _ => exact hv
          | 1, _ => exact hv
          | 2, _ => exact hv
          | 3, _ => exact hv
          | 4, _ => exact hv
          | 5, _ => exact hv
          | 6, _ => exact hv
          | 7, _ => exact hv
          | 8, _ => exact hv
          | 9, _ => exact hv
          | 10, _ => exact hv
        have HWd : Hid (WdAt W6 (some ⟨gB, 0, none⟩) (B'.set j (⟨x0, x1, x2, x3, x4, 4294967296, x6, x7, x8, x9, x10, x11, x12, x13⟩ : Bd)) oj' P.J oc' P.C) := by
          have h := HWs2.out W6 k6
          refine ⟨hrow6.lsT, h.2.1, h.2.2.1, fun b hb => ?_, h.2.2.2.2.1, h.2.2.2.2.2⟩
          rcases List.mem_or_eq_of_mem_set hb with hb | hb
          · exact h.2.2.2.1 b hb
          · rw [hb]
            obtain ⟨s1, s2⟩ := h.2.2.2.1 _ (List.mem_of_getElem? EYJ.out)
            exact ⟨s1, ⟨s2.id, s2.x, s2.y, s2.vx, s2.vy, (by show I64 4294967296; unfold I64; omega), s2.sp, s2.de, s2.k, s2.r, s2.f⟩⟩
        have hmem : (⟨x0, x1, x2, x3, x4, 4294967296, x6, x7, x8, x9, x10, x11, x12, x13⟩ : Bd) ∈ B'.set j (⟨x0, x1, x2, x3, x4, 4294967296, x6, x7, x8, x9, x10, x11, x12, x13⟩ : Bd) := List.mem_iff_getElem?.2 ⟨j, List.getElem?_set_self (by rw [HS.out.1]; exact hj)⟩
        have HMm := hid hmem
        rw [← eW6]
        clear eW6 k6 hrow6 hmem d0 d1 d2 d3 d4 d5 d6 d7 ld k0 k1 lk fB e0 e1 e2 e3 e4 e5 e6 e7 e8 e9 e10 lB
        have HVk := hid (WVar.kept HV3.out KK.out)
        have HNo := hid (wright_c 0 nb3 nj3 0 0 (some ⟨gB, 0, none⟩) oj' oc' nB3 cb' nJ3 cj' nC3 cc' false (by rw [List.length_set]; exact HS.out.1) (by have := OKm.out.hB.len; have := HE3.out.1; omega) HE3.out.2.1 (by have := OKm.out.hJ.len; have := HE3.out.2.1; omega) HE3.out.2.2.1 (by have := HE3.out.2.2.1; rw [SMm.out] at this; simp at this; omega) (HWd.out) i64_0 i64_0 ⟨fun e => (by cases e), fun h => absurd h (fun h => by have h2 : (4294967296 : Int) ≤ 4294967295 := (h.hB.all _ HMm.out).an.2; omega)⟩)
        have c0 := HCk.out.at_ 0
        have c1 := HCk.out.at_ 1
        have c2 := HCk.out.at_ 2
        have c3 := HCk.out.at_ 3
        have c4 := HCk.out.at_ 4
        have c5 := HCk.out.at_ 5
        have c6 := HCk.out.at_ 6
        have c7 := HCk.out.at_ 7
        simp at c0 c1 c2 c3 c4 c5 c6 c7
        have lc : gc < W6.heap.size := HCk.out.here
        go_wp2_with fail
        refine HNo.out.mono ?_
        rintro e w9 ⟨rfl, k9⟩
        have K9 := hid (KT.out.then_ (k9.low KT.out.1.size))
        have HV9 := hid (WVar.kept HVk.out k9)
        clear k9 lc c0 c1 c2 c3 c4 c5 c6 c7 HVk
        obtain ⟨ob9, oj9, oc9, cb9, cj9, cc9, hH9, hL9⟩ := HV9.out
        have HL9 := hid hL9
        have HH9 := hid hH9
        obtain ⟨nB9, eB9⟩ : ∃ m, (P).B.length = m := ⟨_, rfl⟩
        obtain ⟨nJ9, eJ9⟩ : ∃ m, (P).J.length = m := ⟨_, rfl⟩
        obtain ⟨nC9, eC9⟩ : ∃ m, (P).C.length = m := ⟨_, rfl⟩
        obtain ⟨nb9, eb9⟩ : ∃ m, (P).nb = m := ⟨_, rfl⟩
        obtain ⟨nj9, ej9⟩ : ∃ m, (P).nj = m := ⟨_, rfl⟩
        rw [eB9, eJ9, eC9, eb9, ej9] at HH9
        have HE9 := hid (And.intro eB9 (And.intro eJ9 (And.intro eC9 (And.intro eb9 ej9))))
        clear hH9 hL9 eB9 eJ9 eC9 eb9 ej9
        have b0 := HH9.out.at_ 0
        have b1 := HH9.out.at_ 1
        have b2 := HH9.out.at_ 2
        have b3 := HH9.out.at_ 3
        have b4 := HH9.out.at_ 4
        have b5 := HH9.out.at_ 5
        have b6 := HH9.out.at_ 6
        have b7 := HH9.out.at_ 7
        simp at b0 b1 b2 b3 b4 b5 b6 b7
        have lt9 : gw < w9.heap.size := HH9.out.here
        have HYs := hid (right_yes HL9.out OKm.out HE9.out (by rw [SMm.out]; simp))
        go_wp2_with fail
        refine HYs.out.mono ?_
        rintro e w10 ⟨rfl, k10⟩
        have K10 := hid (K9.out.then_ (k10.low K9.out.1.size))
        clear k10 b0 b1 b2 b3 b4 b5 b6 b7 lt9
        go_wp2_with fail
        go_ret
        exact ⟨rfl, by first | exact K10.out | exact eg0 ▸ K10.out⟩
      · go_upto_region 35 with fail
        obtain ⟨W6, eW6⟩ : ∃ V, V = W5'.setCell ⟨gB, j * 11 + 7, none⟩ (.int .i64 (-1)) := ⟨_, rfl⟩
        have k6 : But (fun b => b = gB) W5' W6 := by rw [eW6]; exact (But.rfl_ (fun b => b = gB) _).put (p := ⟨gB, j * 11 + 7, none⟩) (.inl rfl) _
        have HCk : Hid (Has W6 gc 31 #[.int .i64 0, .int .i64 nb3, .int .i64 nj3, .int .i64 0, .int .i64 0, .slice (some ⟨gB, 0, none⟩) nB3 cb', .slice oj' nJ3 cj', .slice oc' nC3 cc']) := hid (HC6.out.but k6 (by show ¬ gc = gB; omega))
        have KK : Hid (Made w3.heap.size w3 W6) := But.made_ K36.out k6 K36.out.1.size (fun b hb => by have hb : b = gB := hb; omega)
        have KT : Hid (Made w.heap.size w W6) := K3.out.then_ (KK.out.low K3.out.1.size)
        have hrow6 : RowL encB 11 W6 gB 43 nB3 (B'.set j (⟨x0, x1, x2, x3, x4, x5, x6, (-1), x8, x9, x10, x11, x12, x13⟩ : Bd)) := by
          rw [eW6]
          refine HRW6.out.part encB_len EYJ.out 7 [.int .i64 (-1)] (by simp) (fun b v hv => ?_)
          have hb : b < 11 := by rw [← encB_len (⟨x0, x1, x2, x3, x4, x5, x6, (-1), x8, x9, x10, x11, x12, x13⟩ : Bd)]; exact (List.getElem?_eq_some_iff.1 hv).1
          match b, hb with
          | 0, _ => exact hv
          | 1, _ => exact hv
          | 2, _ => exact hv
          | 3, _ => exact hv
          | 4, _ => exact hv
          | 5, _ => exact hv
          | 6, _ => exact hv
          | 7, _ => exact hv
          | 8, _ => exact hv
          | 9, _ => exact hv
          | 10, _ => exact hv
        have HWd : Hid (WdAt W6 (some ⟨gB, 0, none⟩) (B'.set j (⟨x0, x1, x2, x3, x4, x5, x6, (-1), x8, x9, x10, x11, x12, x13⟩ : Bd)) oj' P.J oc' P.C) := by
          have h := HWs2.out W6 k6
          refine ⟨hrow6.lsT, h.2.1, h.2.2.1, fun b hb => ?_, h.2.2.2.2.1, h.2.2.2.2.2⟩
          rcases List.mem_or_eq_of_mem_set hb with hb | hb
          · exact h.2.2.2.1 b hb
          · rw [hb]
            obtain ⟨s1, s2⟩ := h.2.2.2.1 _ (List.mem_of_getElem? EYJ.out)
            exact ⟨s1, ⟨s2.id, s2.x, s2.y, s2.vx, s2.vy, s2.an, s2.sp, (by show I64 (-1); unfold I64; omega), s2.k, s2.r, s2.f⟩⟩
        have hmem : (⟨x0, x1, x2, x3, x4, x5, x6, (-1), x8, x9, x10, x11, x12, x13⟩ : Bd) ∈ B'.set j (⟨x0, x1, x2, x3, x4, x5, x6, (-1), x8, x9, x10, x11, x12, x13⟩ : Bd) := List.mem_iff_getElem?.2 ⟨j, List.getElem?_set_self (by rw [HS.out.1]; exact hj)⟩
        have HMm := hid hmem
        rw [← eW6]
        clear eW6 k6 hrow6 hmem d0 d1 d2 d3 d4 d5 d6 d7 ld k0 k1 lk fB e0 e1 e2 e3 e4 e5 e6 e7 e8 e9 e10 lB
        have HVk := hid (WVar.kept HV3.out KK.out)
        have HNo := hid (wright_c 0 nb3 nj3 0 0 (some ⟨gB, 0, none⟩) oj' oc' nB3 cb' nJ3 cj' nC3 cc' false (by rw [List.length_set]; exact HS.out.1) (by have := OKm.out.hB.len; have := HE3.out.1; omega) HE3.out.2.1 (by have := OKm.out.hJ.len; have := HE3.out.2.1; omega) HE3.out.2.2.1 (by have := HE3.out.2.2.1; rw [SMm.out] at this; simp at this; omega) (HWd.out) i64_0 i64_0 ⟨fun e => (by cases e), fun h => absurd h (fun h => by have h2 : (0 : Int) ≤ -1 := (h.hB.all _ HMm.out).de.1; omega)⟩)
        have c0 := HCk.out.at_ 0
        have c1 := HCk.out.at_ 1
        have c2 := HCk.out.at_ 2
        have c3 := HCk.out.at_ 3
        have c4 := HCk.out.at_ 4
        have c5 := HCk.out.at_ 5
        have c6 := HCk.out.at_ 6
        have c7 := HCk.out.at_ 7
        simp at c0 c1 c2 c3 c4 c5 c6 c7
        have lc : gc < W6.heap.size := HCk.out.here
        go_wp2_with fail
        refine HNo.out.mono ?_
        rintro e w9 ⟨rfl, k9⟩
        have K9 := hid (KT.out.then_ (k9.low KT.out.1.size))
        have HV9 := hid (WVar.kept HVk.out k9)
        clear k9 lc c0 c1 c2 c3 c4 c5 c6 c7 HVk
        obtain ⟨ob9, oj9, oc9, cb9, cj9, cc9, hH9, hL9⟩ := HV9.out
        have HL9 := hid hL9
        have HH9 := hid hH9
        obtain ⟨nB9, eB9⟩ : ∃ m, (P).B.length = m := ⟨_, rfl⟩
        obtain ⟨nJ9, eJ9⟩ : ∃ m, (P).J.length = m := ⟨_, rfl⟩
        obtain ⟨nC9, eC9⟩ : ∃ m, (P).C.length = m := ⟨_, rfl⟩
        obtain ⟨nb9, eb9⟩ : ∃ m, (P).nb = m := ⟨_, rfl⟩
        obtain ⟨nj9, ej9⟩ : ∃ m, (P).nj = m := ⟨_, rfl⟩
        rw [eB9, eJ9, eC9, eb9, ej9] at HH9
        have HE9 := hid (And.intro eB9 (And.intro eJ9 (And.intro eC9 (And.intro eb9 ej9))))
        clear hH9 hL9 eB9 eJ9 eC9 eb9 ej9
        have b0 := HH9.out.at_ 0
        have b1 := HH9.out.at_ 1
        have b2 := HH9.out.at_ 2
        have b3 := HH9.out.at_ 3
        have b4 := HH9.out.at_ 4
        have b5 := HH9.out.at_ 5
        have b6 := HH9.out.at_ 6
        have b7 := HH9.out.at_ 7
        simp at b0 b1 b2 b3 b4 b5 b6 b7
        have lt9 : gw < w9.heap.size := HH9.out.here
        have HYs := hid (right_yes HL9.out OKm.out HE9.out (by rw [SMm.out]; simp))
        go_wp2_with fail
        refine HYs.out.mono ?_
        rintro e w10 ⟨rfl, k10⟩
        have K10 := hid (K9.out.then_ (k10.low K9.out.1.size))
        clear k10 b0 b1 b2 b3 b4 b5 b6 b7 lt9
        go_wp2_with fail
        go_ret
        exact ⟨rfl, by first | exact K10.out | exact eg0 ▸ K10.out⟩
      · go_upto_region 35 with fail
        obtain ⟨W6, eW6⟩ : ∃ V, V = W5'.setCell ⟨gB, j * 11 + 8, none⟩ (.int .i64 3) := ⟨_, rfl⟩
        have k6 : But (fun b => b = gB) W5' W6 := by rw [eW6]; exact (But.rfl_ (fun b => b = gB) _).put (p := ⟨gB, j * 11 + 8, none⟩) (.inl rfl) _
        have HCk : Hid (Has W6 gc 31 #[.int .i64 0, .int .i64 nb3, .int .i64 nj3, .int .i64 0, .int .i64 0, .slice (some ⟨gB, 0, none⟩) nB3 cb', .slice oj' nJ3 cj', .slice oc' nC3 cc']) := hid (HC6.out.but k6 (by show ¬ gc = gB; omega))
        have KK : Hid (Made w3.heap.size w3 W6) := But.made_ K36.out k6 K36.out.1.size (fun b hb => by have hb : b = gB := hb; omega)
        have KT : Hid (Made w.heap.size w W6) := K3.out.then_ (KK.out.low K3.out.1.size)
        have hrow6 : RowL encB 11 W6 gB 43 nB3 (B'.set j (⟨x0, x1, x2, x3, x4, x5, x6, x7, 3, x9, x10, x11, x12, x13⟩ : Bd)) := by
          rw [eW6]
          refine HRW6.out.part encB_len EYJ.out 8 [.int .i64 3] (by simp) (fun b v hv => ?_)
          have hb : b < 11 := by rw [← encB_len (⟨x0, x1, x2, x3, x4, x5, x6, x7, 3, x9, x10, x11, x12, x13⟩ : Bd)]; exact (List.getElem?_eq_some_iff.1 hv).1
          match b, hb with
          | 0, _ => exact hv
          | 1, _ => exact hv
          | 2, _ => exact hv
          | 3, _ => exact hv
          | 4, _ => exact hv
          | 5, _ => exact hv
          | 6, _ => exact hv
          | 7, _ => exact hv
          | 8, _ => exact hv
          | 9, _ => exact hv
          | 10, _ => exact hv
        have HWd : Hid (WdAt W6 (some ⟨gB, 0, none⟩) (B'.set j (⟨x0, x1, x2, x3, x4, x5, x6, x7, 3, x9, x10, x11, x12, x13⟩ : Bd)) oj' P.J oc' P.C) := by
          have h := HWs2.out W6 k6
          refine ⟨hrow6.lsT, h.2.1, h.2.2.1, fun b hb => ?_, h.2.2.2.2.1, h.2.2.2.2.2⟩
          rcases List.mem_or_eq_of_mem_set hb with hb | hb
          · exact h.2.2.2.1 b hb
          · rw [hb]
            obtain ⟨s1, s2⟩ := h.2.2.2.1 _ (List.mem_of_getElem? EYJ.out)
            exact ⟨s1, ⟨s2.id, s2.x, s2.y, s2.vx, s2.vy, s2.an, s2.sp, s2.de, (by show I64 3; unfold I64; omega), s2.r, s2.f⟩⟩
        have hmem : (⟨x0, x1, x2, x3, x4, x5, x6, x7, 3, x9, x10, x11, x12, x13⟩ : Bd) ∈ B'.set j (⟨x0, x1, x2, x3, x4, x5, x6, x7, 3, x9, x10, x11, x12, x13⟩ : Bd) := List.mem_iff_getElem?.2 ⟨j, List.getElem?_set_self (by rw [HS.out.1]; exact hj)⟩
        have HMm := hid hmem
        rw [← eW6]
        clear eW6 k6 hrow6 hmem d0 d1 d2 d3 d4 d5 d6 d7 ld k0 k1 lk fB e0 e1 e2 e3 e4 e5 e6 e7 e8 e9 e10 lB
        have HVk := hid (WVar.kept HV3.out KK.out)
        have HNo := hid (wright_c 0 nb3 nj3 0 0 (some ⟨gB, 0, none⟩) oj' oc' nB3 cb' nJ3 cj' nC3 cc' false (by rw [List.length_set]; exact HS.out.1) (by have := OKm.out.hB.len; have := HE3.out.1; omega) HE3.out.2.1 (by have := OKm.out.hJ.len; have := HE3.out.2.1; omega) HE3.out.2.2.1 (by have := HE3.out.2.2.1; rw [SMm.out] at this; simp at this; omega) (HWd.out) i64_0 i64_0 ⟨fun e => (by cases e), fun h => absurd h (fun h => (h.hB.all _ HMm.out).shape.elim (fun h2 => by have h3 : (3 : Int) = 1 := h2.1; omega) (fun h2 => by have h3 : (3 : Int) = 2 := h2.1; omega))⟩)
        have c0 := HCk.out.at_ 0
        have c1 := HCk.out.at_ 1
        have c2 := HCk.out.at_ 2
        have c3 := HCk.out.at_ 3
        have c4 := HCk.out.at_ 4
        have c5 := HCk.out.at_ 5
        have c6 := HCk.out.at_ 6
        have c7 := HCk.out.at_ 7
        simp at c0 c1 c2 c3 c4 c5 c6 c7
        have lc : gc < W6.heap.size := HCk.out.here
        go_wp2_with fail
        refine HNo.out.mono ?_
        rintro e w9 ⟨rfl, k9⟩
        have K9 := hid (KT.out.then_ (k9.low KT.out.1.size))
        have HV9 := hid (WVar.kept HVk.out k9)
        clear k9 lc c0 c1 c2 c3 c4 c5 c6 c7 HVk
        obtain ⟨ob9, oj9, oc9, cb9, cj9, cc9, hH9, hL9⟩ := HV9.out
        have HL9 := hid hL9
        have HH9 := hid hH9
        obtain ⟨nB9, eB9⟩ : ∃ m, (P).B.length = m := ⟨_, rfl⟩
        obtain ⟨nJ9, eJ9⟩ : ∃ m, (P).J.length = m := ⟨_, rfl⟩
        obtain ⟨nC9, eC9⟩ : ∃ m, (P).C.length = m := ⟨_, rfl⟩
        obtain ⟨nb9, eb9⟩ : ∃ m, (P).nb = m := ⟨_, rfl⟩
        obtain ⟨nj9, ej9⟩ : ∃ m, (P).nj = m := ⟨_, rfl⟩
        rw [eB9, eJ9, eC9, eb9, ej9] at HH9
        have HE9 := hid (And.intro eB9 (And.intro eJ9 (And.intro eC9 (And.intro eb9 ej9))))
        clear hH9 hL9 eB9 eJ9 eC9 eb9 ej9
        have b0 := HH9.out.at_ 0
        have b1 := HH9.out.at_ 1
        have b2 := HH9.out.at_ 2
        have b3 := HH9.out.at_ 3
        have b4 := HH9.out.at_ 4
        have b5 := HH9.out.at_ 5
        have b6 := HH9.out.at_ 6
        have b7 := HH9.out.at_ 7
        simp at b0 b1 b2 b3 b4 b5 b6 b7
        have lt9 : gw < w9.heap.size := HH9.out.here
        have HYs := hid (right_yes HL9.out OKm.out HE9.out (by rw [SMm.out]; simp))
        go_wp2_with fail
        refine HYs.out.mono ?_
        rintro e w10 ⟨rfl, k10⟩
        have K10 := hid (K9.out.then_ (k10.low K9.out.1.size))
        clear k10 b0 b1 b2 b3 b4 b5 b6 b7 lt9
        go_wp2_with fail
        go_ret
        exact ⟨rfl, by first | exact K10.out | exact eg0 ▸ K10.out⟩
theorem wrights_c (l : List De) (l0 : Option Addr) (nl cl : Nat) (id x y vx vy an sp de k r : Int) (ao : Option Addr) (n c : Nat) (f : Cs) (h0 h1 : Int) (w : World) (hnl : l.length = nl) (hD : DesAt w l0 l) (hnc : nl ≤ cl) (hcm : cl ≤ maxLen) (ho : (l0 = none ∧ nl = 0 ∧ cl = 0) ∨ ∃ a, l0 = some a)
    (hs : Sl w ao n f) (hi : BdI ⟨id, x, y, vx, vy, an, sp, de, k, r, ao, n, c, f⟩) :
    Calls Try.prog 4 #[.slice l0 nl cl, bodyV id x y vx vy an sp de k r (.slice ao n c), .agg #[.int .i64 h0, .int .i64 h1]] w fun e v => e = .returned (.bool true) ∧ Made w.heap.size w v := by
  rcases Nat.lt_or_ge 12 n with h | h
  · exact wrights_long l0 nl cl id x y vx vy an sp de k r ao n c h0 h1 w h
  · exact wrights_walk l l0 nl cl id x y vx vy an sp de k r ao n c f h0 h1 w h hnl hD hnc hcm ho hs hi
end Go.Proofs.Ytaioopcgeeoehaa.Fx
