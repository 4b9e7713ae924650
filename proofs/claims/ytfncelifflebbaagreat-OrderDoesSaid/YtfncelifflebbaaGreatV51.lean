/- OtW -/
import Derived.Test.YtfncelifflebbaaGreatV38
import Derived.Test.YtfncelifflebbaaGreatV50

/- OrderDoes. -/




namespace Go.Proofs.YtfncelifflebbaaGreat.Fx
open Go.ChangeShapes Go.WideShapes Go.ChangeAt Go.RowKit
set_option linter.unusedVariables false

set_option maxRecDepth 100000 in
set_option maxHeartbeats 64000000 in
theorem odoes_walk (l : List De) (d : De) (lo : Option Addr) (nl cl : Nat) (w : World) (hds : Sl w d.rao d.rn d.rf) (hdi : DeI d) (hnl : l.length = nl) (hD : DesAt w lo l) (hnc : nl ≤ cl) (hcm : cl ≤ maxLen) (ho : (lo = none ∧ nl = 0 ∧ cl = 0) ∨ ∃ a, lo = some a) :
    Calls Tryz.prog 4 #[.slice lo nl cl, .agg (encD d).toArray] w fun e v => e = .returned (.bool true) ∧ Below w.heap.size w v := by
  obtain ⟨A, hAi, hAn, hAb, hAj, hA⟩ := order_mk2 d hdi
  have HMd := hid (fun v (k : Made w.heap.size w v) => made_0 12 (by omega) hnl (hD.kept k) hnc hcm ho)
  have HAo := hid (fun v (k : Made w.heap.size w v) => hA w.heap.size v (Sl.kept hds k) (fun hn b off s e => by obtain ⟨b', off', e', hp⟩ := hds hn; rw [e] at e'; cases e'; exact World.block_lt_of_cell? _ _ (hp 0 hn).1))
  have HAi := hid hAi; have HAn := hid hAn
  have HAb := hid hAb; have HAj := hid hAj
  have HDS := hid hds
  have HJo := hid (fun v => djoint_c d hdi v)
  have HJi := hid (jointOf_i hdi)
  obtain ⟨da, eda⟩ : ∃ z, (encD d).toArray = z := ⟨_, rfl⟩
  have HDA := hid eda
  have HSD : Hid (da.size = 30) := by unfold Hid; rw [← eda]; rfl
  have HD29 : Hid (da[29]? = some (.slice d.rao d.rn d.rc)) := by unfold Hid; rw [← eda]; rfl
  rw [eda] at HAo
  rw [eda]
  clear eda hA hAi hAn hAb hAj hds hdi hnl hD hnc hcm ho
  obtain ⟨W, eW⟩ : ∃ W, W = w.alloc (.cells da 37) := ⟨_, rfl⟩
  have KW : Hid (Made w.heap.size w W) := by unfold Hid; rw [eW]; exact (Made.rfl_ _ _).cells (Nat.le_refl _) _ _
  have HD : Hid (Has W w.heap.size 37 da) := by unfold Hid; rw [eW]; exact has_new _ _ _
  obtain ⟨gd, egd⟩ : ∃ g, w.heap.size = g := ⟨_, rfl⟩
  rw [egd] at HD
  have hgd : w.heap.size ≤ gd := Nat.le_of_eq egd
  go_enter Tryz.func4, Tryz.ntmps4
  go_upto_region 1 with fail
  rw [← eW]
  clear eW
  try rw [egd]
  clear egd
  go_wp2_with fail
  refine (fit10_c _).mono ?_
  rintro e w1 ⟨rfl, k1⟩
  have K1 := hid (KW.out.then_ (k1.low KW.out.1.size))
  have HD1 := hid (HD.out.stays k1 HD.out.here)
  clear k1 HD KW
  have d29 : w1.cell? ⟨gd, 29, none⟩ = some (.slice d.rao d.rn d.rc) := by rw [HD1.out.at_]; exact HD29.out
  have ld : gd < w1.heap.size := HD1.out.here
  by_cases h12 : 12 < d.rn
  · go_wp2_with fail
    go_ret
    exact ⟨rfl, K1.out.1⟩
  have HA12 : Hid (A.n ≤ 12) := by have := HAn.out; unfold Hid; omega
  go_wp2_with fail
  refine (HMd.out _ K1.out).mono ?_
  rintro e w2 ⟨P, val, rfl, hval, hok, hsm, k2⟩
  have K2 := hid (K1.out.then_ (k2.low K1.out.1.size))
  have HD2 := hid (HD1.out.stays k2 HD1.out.here)
  have OK := hid hok
  have SM : Hid (P.C = []) := hsm.1
  have SN := hid hsm
  clear k2 hok hsm HMd d29 ld HD1 K1 h12 HAn
  obtain ⟨ob, oj, cb, cj, eval, hLm⟩ := hval
  have HLm := hid hLm
  obtain ⟨nB, eB⟩ : ∃ m, P.B.length = m := ⟨_, rfl⟩
  obtain ⟨nJ, eJ⟩ : ∃ m, P.J.length = m := ⟨_, rfl⟩
  obtain ⟨nb, eb⟩ : ∃ m, P.nb = m := ⟨_, rfl⟩
  obtain ⟨nj, ej⟩ : ∃ m, P.nj = m := ⟨_, rfl⟩
  have eC : P.C.length = 0 := by rw [SM.out]; rfl
  rw [eB, eJ, eC, eb, ej] at eval
  subst eval
  have HE := hid (And.intro eB (And.intro eJ (And.intro eb ej)))
  clear hLm eB eJ eb ej eC
  obtain ⟨W3, eW3⟩ : ∃ V, V = w2.alloc (.cells #[.int .i64 0, .int .i64 nb, .int .i64 nj, .int .i64 0, .int .i64 0, .slice ob nB cb, .slice oj nJ cj, .slice none 0 0] 49) := ⟨_, rfl⟩
  have kk3 : Made w2.heap.size w2 W3 := by rw [eW3]; exact (Made.rfl_ _ _).cells (Nat.le_refl _) _ _
  have K3 := hid (K2.out.then_ (kk3.low K2.out.1.size))
  have HW3 : Hid (Has W3 w2.heap.size 49 #[.int .i64 0, .int .i64 nb, .int .i64 nj, .int .i64 0, .int .i64 0, .slice ob nB cb, .slice oj nJ cj, .slice none 0 0]) := by unfold Hid; rw [eW3]; exact has_new _ _ _
  have HL3 : Hid (WLs (fun b => w2.heap.size ≤ b) W3 ob cb P.B oj cj P.J none 0 []) := by
    have h := (HLm.out.free (Y := fun b => w2.heap.size ≤ b) (fun b hb => .inr hb)).kept kk3
    rw [SM.out] at h
    exact h
  have HD3 := hid (HD2.out.stays kk3 HD2.out.here)
  have hgw : w.heap.size ≤ w2.heap.size := K2.out.1.size
  have hgdw : gd < w2.heap.size := HD2.out.here
  obtain ⟨gw, egw⟩ : ∃ g, w2.heap.size = g := ⟨_, rfl⟩
  rw [egw] at HW3 HL3 hgw hgdw
  clear kk3 HD2
  go_upto_region 6 with fail
  rw [← eW3]
  clear eW3 HLm K2
  try rw [egw]
  clear egw
  have ld : gd < W3.heap.size := HD3.out.here
  have HOR := hid (HAo.out W3 K3.out)
  go_wp2_with (refine wpList_load_row rfl 37 (.tmp 3) rfl gd rfl 37 _ (0, 0) _ HD3.out Tryz.underlying37 rfl (by rw [HSD.out]; kernel_rfl) ?_)
  refine HOR.out.mono ?_
  rintro e w4 ⟨xv, rfl, hxv, k4⟩
  obtain ⟨xo, xc, exv, hsx, hox, hwx⟩ := hxv
  obtain ⟨xkd, xid, xa, xb, xx, xy, xvx, xvy, xan, xsp, xde, xln, xk, xr, xo0, xn, xc0, xf⟩ := A
  have exv1 : xv = .agg #[.int .i64 xkd, .int .i64 xid, .int .i64 xa, .int .i64 xb, .int .i64 xx, .int .i64 xy, .int .i64 xvx, .int .i64 xvy, .int .i64 xan, .int .i64 xsp, .int .i64 xde, .int .i64 xln, .int .i64 xk, .int .i64 xr, .slice xo xn xc] := exv
  clear exv
  subst exv1
  have HXI : Hid (OrI (⟨xkd, xid, xa, xb, xx, xy, xvx, xvy, xan, xsp, xde, xln, xk, xr, xo, xn, xc, xf⟩ : Or)) := ⟨HAi.out.kd, HAi.out.id, HAi.out.a, HAi.out.b, HAi.out.x, HAi.out.y, HAi.out.vx, HAi.out.vy, HAi.out.an, HAi.out.sp, HAi.out.de, HAi.out.ln, HAi.out.k, HAi.out.r, HAi.out.f⟩
  have HXn : Hid (xn ≤ 12) := HA12.out
  have HSx : Hid (Sl w4 xo xn xf) := hsx
  have HOx : Hid ((xo = none ∧ xn = 0 ∧ xc = 0) ∨ ∃ a, xo = some a) := hox
  have HWx : Hid (0 < xn → ∀ b off s, xo = some ⟨b, off, s⟩ → b < w.heap.size ∨ (W3.heap.size ≤ b ∧ b < w4.heap.size)) := hwx
  have K4 := hid (K3.out.then_ (k4.low K3.out.1.size))
  have HW4 := hid (HW3.out.stays k4 HW3.out.here)
  have HD4 := hid (HD3.out.stays k4 HD3.out.here)
  have HL4 := hid (HL3.out.kept k4)
  clear hsx hox hwx k4 HOR HAo ld HW3 HD3 HL3 HA12 HAi
  obtain ⟨W5, eW5⟩ : ∃ V, V = w4.alloc (.cells #[.int .i64 xkd, .int .i64 xid, .int .i64 xa, .int .i64 xb, .int .i64 xx, .int .i64 xy, .int .i64 xvx, .int .i64 xvy, .int .i64 xan, .int .i64 xsp, .int .i64 xde, .int .i64 xln, .int .i64 xk, .int .i64 xr, .slice xo xn xc] 29) := ⟨_, rfl⟩
  have kk5 : Made w4.heap.size w4 W5 := by rw [eW5]; exact (Made.rfl_ _ _).cells (Nat.le_refl _) _ _
  have K5 := hid (K4.out.then_ (kk5.low K4.out.1.size))
  have HO5 : Hid (Has W5 w4.heap.size 29 #[.int .i64 xkd, .int .i64 xid, .int .i64 xa, .int .i64 xb, .int .i64 xx, .int .i64 xy, .int .i64 xvx, .int .i64 xvy, .int .i64 xan, .int .i64 xsp, .int .i64 xde, .int .i64 xln, .int .i64 xk, .int .i64 xr, .slice xo xn xc]) := by unfold Hid; rw [eW5]; exact has_new _ _ _
  have HW5 := hid (HW4.out.stays kk5 HW4.out.here)
  have HD5 := hid (HD4.out.stays kk5 HD4.out.here)
  have HL5 := hid (HL4.out.kept kk5)
  have HS5 := hid (Sl.kept HSx.out kk5)
  have hgwo : gw < w4.heap.size := HW4.out.here
  obtain ⟨go, ego⟩ : ∃ g, w4.heap.size = g := ⟨_, rfl⟩
  have HWx : Hid (0 < xn → ∀ b off s, xo = some ⟨b, off, s⟩ → b < go) := fun hn b off s e => by
    have h1 := K3.out.1.size
    have h2 := K4.out.1.size
    rcases HWx.out hn b off s e with h | h <;> omega
  rw [ego] at HO5 hgwo
  go_upto_region 7 with fail
  rw [← eW5]
  clear eW5 kk5 HW4 HD4 HL4 HSx K4 K3
  try rw [ego]
  clear ego
  have x_0 := HO5.out.at_ 0
  have x_1 := HO5.out.at_ 1
  have x_2 := HO5.out.at_ 2
  have x_3 := HO5.out.at_ 3
  have x_4 := HO5.out.at_ 4
  have x_5 := HO5.out.at_ 5
  have x_6 := HO5.out.at_ 6
  have x_7 := HO5.out.at_ 7
  have x_8 := HO5.out.at_ 8
  have x_9 := HO5.out.at_ 9
  have x_10 := HO5.out.at_ 10
  have x_11 := HO5.out.at_ 11
  have x_12 := HO5.out.at_ 12
  have x_13 := HO5.out.at_ 13
  have x_14 := HO5.out.at_ 14
  simp at x_0 x_1 x_2 x_3 x_4 x_5 x_6 x_7 x_8 x_9 x_10 x_11 x_12 x_13 x_14
  have lx : go < W5.heap.size := HO5.out.here
  obtain ⟨r, hr⟩ := a_bool (OrderP (⟨xkd, xid, xa, xb, xx, xy, xvx, xvy, xan, xsp, xde, xln, xk, xr, xo, xn, xc, xf⟩ : Or))
  have HRr := hid hr
  have HRi := hid (oright_c r (⟨xkd, xid, xa, xb, xx, xy, xvx, xvy, xan, xsp, xde, xln, xk, xr, xo, xn, xc, xf⟩ : Or) (w := W5) (by show xn ≤ 1073741824; have := HXn.out; omega) HXI.out HS5.out hr)
  clear hr
  go_wp2_with fail
  refine HRi.out.mono ?_
  rintro e w6 ⟨rfl, k6⟩
  have K6 := hid (K5.out.then_ (k6.low K5.out.1.size))
  have HO6 := hid (HO5.out.stays k6 HO5.out.here)
  have HW6 := hid (HW5.out.stays k6 HW5.out.here)
  have HD6 := hid (HD5.out.stays k6 HD5.out.here)
  have HL6 := hid (HL5.out.kept k6)
  have HS6 := hid (Sl.kept HS5.out k6)
  clear k6 HRi x_0 x_1 x_2 x_3 x_4 x_5 x_6 x_7 x_8 x_9 x_10 x_11 x_12 x_13 x_14 lx HO5 HW5 HD5 HL5 HS5 K5
  cases r with
  | false =>
    go_wp2_with fail
    go_ret
    exact ⟨rfl, K6.out.1⟩
  | true =>
  have HOP : Hid (OrderP (⟨xkd, xid, xa, xb, xx, xy, xvx, xvy, xan, xsp, xde, xln, xk, xr, xo, xn, xc, xf⟩ : Or)) := HRr.out.1 rfl
  clear HRr
  go_wp2_with fail
  have b0 := HW6.out.at_ 0
  have b1 := HW6.out.at_ 1
  have b2 := HW6.out.at_ 2
  have b3 := HW6.out.at_ 3
  have b4 := HW6.out.at_ 4
  have b5 := HW6.out.at_ 5
  have b6 := HW6.out.at_ 6
  have b7 := HW6.out.at_ 7
  simp at b0 b1 b2 b3 b4 b5 b6 b7
  have lw : gw < w6.heap.size := HW6.out.here
  have hgo : go < w6.heap.size := HO6.out.here
  have HCP := hid (fun u (k : Made w6.heap.size w6 u) => copy_mk ob oj cb cj nB nJ nb nj OK.out HE.out (HL6.out.kept k))
  refine MI.reg_mk (alC 6 P) 9 [0, 2, 4, 1, 3, 5, 6, 7, 8] [0, 2, 4] [1, 3, 5, 6, 7, 8] [] (fun _ => []) (val := valC 6) (by kernel_rfl) (by kernel_rfl) (fun p hp => absurd hp (by simp)) ?_
  refine MI.can_class (rest := [1, 3, 5, 6, 7, 8]) [0, 2, 4] [] 134 (alC_lasts _ _) (MI.any_class _) (by kernel_rfl) rfl (by kernel_rfl) (by kernel_rfl) ?_
  apply Exists.intro
  refine ⟨?q1, ?q2⟩
  case q1 =>
    intro Ty hT fw hf _
    have z0 := Class.reads hf b0
    have z1 := Class.reads hf b1
    have z2 := Class.reads hf b2
    have z3 := Class.reads hf b3
    have z4 := Class.reads hf b4
    have z5 := Class.reads hf b5
    have z6 := Class.reads hf b6
    have z7 := Class.reads hf b7
    change wpQuiet _ _ _ _ [_, _, _] _
    repeat (go_big_quiet_step (fail))
    exact wpQuiet_nil rfl
  refine MI.can_mk 1 29 _ rfl rfl rfl rfl ?m0 fun q0 e0 => ?n0
  case m0 =>
    intro G' u _ hu
    rw [show (execOp _ _).run Tryz.prog u = .ok (.enter 14 #[wdV 0 nb nj 0 0 (.slice ob nB cb) (.slice oj nJ cj) (.slice none 0 0)]) u by kernel_rfl]
    show Calls _ _ _ _ _
    refine (HCP.out u hu.1).mono ?_
    rintro e v ⟨g, ex, rfl, h1, h2, h3, h4, h5⟩
    exact ⟨g, ex, rfl, hu.next (alC_lasts _ _) h5 h1 h2 h3 ⟨fun _ => h4, fun h => absurd h (by omega)⟩⟩
  rw [show valC 6 1 q0 e0 = e0.v from rfl]
  simp only [Act.put, List.setIfInBounds_toArray, List.set_cons_succ, List.set_cons_zero]
  refine MI.can_mk 3 31 _ rfl rfl rfl rfl ?m1 fun q1 e1 => ?n1
  case m1 =>
    intro G' u _ hu
    rw [show (execOp _ _).run Tryz.prog u = .ok (.enter 14 #[wdV 0 nb nj 0 0 (.slice ob nB cb) (.slice oj nJ cj) (.slice none 0 0)]) u by kernel_rfl]
    show Calls _ _ _ _ _
    refine (HCP.out u hu.1).mono ?_
    rintro e v ⟨g, ex, rfl, h1, h2, h3, h4, h5⟩
    exact ⟨g, ex, rfl, hu.next (alC_lasts _ _) h5 h1 h2 h3 ⟨fun _ => h4, fun h => absurd h (by omega)⟩⟩
  rw [show valC 6 3 q1 e1 = e1.v from rfl]
  simp only [Act.put, List.setIfInBounds_toArray, List.set_cons_succ, List.set_cons_zero]
  refine MI.can_mk 5 33 _ rfl rfl rfl rfl ?m2 fun q2 e2 => ?n2
  case m2 =>
    intro G' u _ hu
    rw [show (execOp _ _).run Tryz.prog u = .ok (.enter 14 #[wdV 0 nb nj 0 0 (.slice ob nB cb) (.slice oj nJ cj) (.slice none 0 0)]) u by kernel_rfl]
    show Calls _ _ _ _ _
    refine (HCP.out u hu.1).mono ?_
    rintro e v ⟨g, ex, rfl, h1, h2, h3, h4, h5⟩
    exact ⟨g, ex, rfl, hu.next (alC_lasts _ _) h5 h1 h2 h3 ⟨fun _ => h4, fun h => absurd h (by omega)⟩⟩
  rw [show valC 6 5 q2 e2 = e2.v from rfl]
  simp only [Act.put, List.setIfInBounds_toArray, List.set_cons_succ, List.set_cons_zero]
  refine MI.can_mk 6 7 _ rfl rfl rfl rfl ?a0 fun g0 f0 => ?b0
  case a0 =>
    intro G' u _ hu
    rw [show (execOp _ _).run Tryz.prog u = .ok (.value (.pointer (some ⟨u.heap.size, 0, none⟩))) (u.alloc (.cells #[.int .i64 0, .int .i64 0, .int .i64 0, .int .i64 0, .int .i64 0, .slice none 0 0, .slice none 0 0, .slice none 0 0] 49)) by kernel_rfl]
    exact ⟨u.heap.size, ⟨u.heap.size + 1, .bool false, []⟩, rfl, hu.next (alC_lasts _ _) ((Made.rfl_ _ _).cells (Nat.le_refl _) _ _) (Nat.le_refl _) (by simp) (by simp) ⟨fun h => absurd h (by omega), fun _ => ⟨has_new _ _ _, rfl⟩⟩⟩
  rw [show valC 6 6 g0 f0 = .pointer (some ⟨g0, 0, none⟩) from rfl]
  simp only [Act.put, List.setIfInBounds_toArray, List.set_cons_succ, List.set_cons_zero]
  refine MI.can_mk 7 8 _ rfl rfl rfl rfl ?a1 fun g1 f1 => ?b1
  case a1 =>
    intro G' u _ hu
    rw [show (execOp _ _).run Tryz.prog u = .ok (.value (.pointer (some ⟨u.heap.size, 0, none⟩))) (u.alloc (.cells #[.int .i64 0, .int .i64 0, .int .i64 0, .int .i64 0, .int .i64 0, .slice none 0 0, .slice none 0 0, .slice none 0 0] 49)) by kernel_rfl]
    exact ⟨u.heap.size, ⟨u.heap.size + 1, .bool false, []⟩, rfl, hu.next (alC_lasts _ _) ((Made.rfl_ _ _).cells (Nat.le_refl _) _ _) (Nat.le_refl _) (by simp) (by simp) ⟨fun h => absurd h (by omega), fun _ => ⟨has_new _ _ _, rfl⟩⟩⟩
  rw [show valC 6 7 g1 f1 = .pointer (some ⟨g1, 0, none⟩) from rfl]
  simp only [Act.put, List.setIfInBounds_toArray, List.set_cons_succ, List.set_cons_zero]
  refine MI.can_mk 8 9 _ rfl rfl rfl rfl ?a2 fun g2 f2 => ?b2
  case a2 =>
    intro G' u _ hu
    rw [show (execOp _ _).run Tryz.prog u = .ok (.value (.pointer (some ⟨u.heap.size, 0, none⟩))) (u.alloc (.cells #[.int .i64 0, .int .i64 0, .int .i64 0, .int .i64 0, .int .i64 0, .slice none 0 0, .slice none 0 0, .slice none 0 0] 49)) by kernel_rfl]
    exact ⟨u.heap.size, ⟨u.heap.size + 1, .bool false, []⟩, rfl, hu.next (alC_lasts _ _) ((Made.rfl_ _ _).cells (Nat.le_refl _) _ _) (Nat.le_refl _) (by simp) (by simp) ⟨fun h => absurd h (by omega), fun _ => ⟨has_new _ _ _, rfl⟩⟩⟩
  rw [show valC 6 8 g2 f2 = .pointer (some ⟨g2, 0, none⟩) from rfl]
  simp only [Act.put, List.setIfInBounds_toArray, List.set_cons_succ, List.set_cons_zero]
  intro w4 hu
  have k4 := hu.1
  have tq0 : (MI.upd (MI.upd (MI.upd (MI.upd (MI.upd (MI.upd ((fun _ => none)) 1 (q0, e0)) 3 (q1, e1)) 5 (q2, e2)) 6 (g0, f0)) 7 (g1, f1)) 8 (g2, f2)) 1 = some (q0, e0) := by unfold MI.upd; simp
  have tg0 : (MI.upd (MI.upd (MI.upd (MI.upd (MI.upd (MI.upd ((fun _ => none)) 1 (q0, e0)) 3 (q1, e1)) 5 (q2, e2)) 6 (g0, f0)) 7 (g1, f1)) 8 (g2, f2)) 6 = some (g0, f0) := by unfold MI.upd; simp
  have tq1 : (MI.upd (MI.upd (MI.upd (MI.upd (MI.upd (MI.upd ((fun _ => none)) 1 (q0, e0)) 3 (q1, e1)) 5 (q2, e2)) 6 (g0, f0)) 7 (g1, f1)) 8 (g2, f2)) 3 = some (q1, e1) := by unfold MI.upd; simp
  have tg1 : (MI.upd (MI.upd (MI.upd (MI.upd (MI.upd (MI.upd ((fun _ => none)) 1 (q0, e0)) 3 (q1, e1)) 5 (q2, e2)) 6 (g0, f0)) 7 (g1, f1)) 8 (g2, f2)) 7 = some (g1, f1) := by unfold MI.upd; simp
  have tq2 : (MI.upd (MI.upd (MI.upd (MI.upd (MI.upd (MI.upd ((fun _ => none)) 1 (q0, e0)) 3 (q1, e1)) 5 (q2, e2)) 6 (g0, f0)) 7 (g1, f1)) 8 (g2, f2)) 5 = some (q2, e2) := by unfold MI.upd; simp
  have tg2 : (MI.upd (MI.upd (MI.upd (MI.upd (MI.upd (MI.upd ((fun _ => none)) 1 (q0, e0)) 3 (q1, e1)) 5 (q2, e2)) 6 (g0, f0)) 7 (g1, f1)) 8 (g2, f2)) 8 = some (g2, f2) := by unfold MI.upd; simp
  obtain ⟨ql0, qm0, qh0, hq0⟩ := hu.2.1 1 _ tq0
  obtain ⟨gl0, gm0, gh0, hg0⟩ := hu.2.1 6 _ tg0
  have HGZ0 : Has w4 g0 49 #[.int .i64 0, .int .i64 0, .int .i64 0, .int .i64 0, .int .i64 0, .slice none 0 0, .slice none 0 0, .slice none 0 0] := (hg0.2 (by omega)).1
  have hf0 : f0.hi = g0 + 1 := (hg0.2 (by omega)).2
  have hcv0 : CopyV P w4 q0 e0 := hq0.1 (by omega)
  simp only [] at ql0 qm0 qh0 gl0 gm0 gh0
  obtain ⟨ql1, qm1, qh1, hq1⟩ := hu.2.1 3 _ tq1
  obtain ⟨gl1, gm1, gh1, hg1⟩ := hu.2.1 7 _ tg1
  have HGZ1 : Has w4 g1 49 #[.int .i64 0, .int .i64 0, .int .i64 0, .int .i64 0, .int .i64 0, .slice none 0 0, .slice none 0 0, .slice none 0 0] := (hg1.2 (by omega)).1
  have hf1 : f1.hi = g1 + 1 := (hg1.2 (by omega)).2
  have hcv1 : CopyV P w4 q1 e1 := hq1.1 (by omega)
  simp only [] at ql1 qm1 qh1 gl1 gm1 gh1
  obtain ⟨ql2, qm2, qh2, hq2⟩ := hu.2.1 5 _ tq2
  obtain ⟨gl2, gm2, gh2, hg2⟩ := hu.2.1 8 _ tg2
  have HGZ2 : Has w4 g2 49 #[.int .i64 0, .int .i64 0, .int .i64 0, .int .i64 0, .int .i64 0, .slice none 0 0, .slice none 0 0, .slice none 0 0] := (hg2.2 (by omega)).1
  have hf2 : f2.hi = g2 + 1 := (hg2.2 (by omega)).2
  have hcv2 : CopyV P w4 q2 e2 := hq2.1 (by omega)
  simp only [] at ql2 qm2 qh2 gl2 gm2 gh2
  have HAp : Hid ((e0.hi ≤ g0 ∨ g0 < q0) ∧ (e0.hi ≤ g1 ∨ g1 < q0) ∧ (e0.hi ≤ g2 ∨ g2 < q0) ∧ (e1.hi ≤ g0 ∨ g0 < q1) ∧ (e1.hi ≤ g1 ∨ g1 < q1) ∧ (e1.hi ≤ g2 ∨ g2 < q1) ∧ (e2.hi ≤ g0 ∨ g0 < q2) ∧ (e2.hi ≤ g1 ∨ g1 < q2) ∧ (e2.hi ≤ g2 ∨ g2 < q2) ∧ g0 ≠ g1 ∧ g0 ≠ g2 ∧ g1 ≠ g2) := by
    unfold Hid
    refine ⟨?_, ?_, ?_, ?_, ?_, ?_, ?_, ?_, ?_, ?_, ?_, ?_⟩
    · rcases hu.2.2 1 6 _ _ tq0 tg0 (by omega) with h | h
      · exact .inl h
      · refine .inr ?_; simp only [hf0] at h; omega
    · rcases hu.2.2 1 7 _ _ tq0 tg1 (by omega) with h | h
      · exact .inl h
      · refine .inr ?_; simp only [hf1] at h; omega
    · rcases hu.2.2 1 8 _ _ tq0 tg2 (by omega) with h | h
      · exact .inl h
      · refine .inr ?_; simp only [hf2] at h; omega
    · rcases hu.2.2 3 6 _ _ tq1 tg0 (by omega) with h | h
      · exact .inl h
      · refine .inr ?_; simp only [hf0] at h; omega
    · rcases hu.2.2 3 7 _ _ tq1 tg1 (by omega) with h | h
      · exact .inl h
      · refine .inr ?_; simp only [hf1] at h; omega
    · rcases hu.2.2 3 8 _ _ tq1 tg2 (by omega) with h | h
      · exact .inl h
      · refine .inr ?_; simp only [hf2] at h; omega
    · rcases hu.2.2 5 6 _ _ tq2 tg0 (by omega) with h | h
      · exact .inl h
      · refine .inr ?_; simp only [hf0] at h; omega
    · rcases hu.2.2 5 7 _ _ tq2 tg1 (by omega) with h | h
      · exact .inl h
      · refine .inr ?_; simp only [hf1] at h; omega
    · rcases hu.2.2 5 8 _ _ tq2 tg2 (by omega) with h | h
      · exact .inl h
      · refine .inr ?_; simp only [hf2] at h; omega
    · rcases hu.2.2 6 7 _ _ tg0 tg1 (by omega) with h | h
      · simp only [hf0] at h; omega
      · simp only [hf1] at h; omega
    · rcases hu.2.2 6 8 _ _ tg0 tg2 (by omega) with h | h
      · simp only [hf0] at h; omega
      · simp only [hf2] at h; omega
    · rcases hu.2.2 7 8 _ _ tg1 tg2 (by omega) with h | h
      · simp only [hf1] at h; omega
      · simp only [hf2] at h; omega
  have HAq : Hid ((e0.hi ≤ q1 ∨ e1.hi ≤ q0) ∧ (e0.hi ≤ q2 ∨ e2.hi ≤ q0) ∧ (e1.hi ≤ q2 ∨ e2.hi ≤ q1)) := ⟨hu.2.2 1 3 _ _ tq0 tq1 (by omega), hu.2.2 1 5 _ _ tq0 tq2 (by omega), hu.2.2 3 5 _ _ tq1 tq2 (by omega)⟩
  obtain ⟨ob0, oj0, cb0, cj0, ev0, hsm0, hls0, hrow0, hap0, hjn0, hmi0⟩ := hcv0
  obtain ⟨ob1, oj1, cb1, cj1, ev1, hsm1, hls1, hrow1, hap1, hjn1, hmi1⟩ := hcv1
  obtain ⟨ob2, oj2, cb2, cj2, ev2, hsm2, hls2, hrow2, hap2, hjn2, hmi2⟩ := hcv2
  obtain ⟨eB, eJ, eb, ej⟩ := HE.out
  rw [eB] at hrow0 hap0
  rw [eJ] at hap0
  have HAj0 := hid hap0
  have HJn0 := hid hjn0
  clear hap0 hjn0
  rw [eB, eJ, eb, ej] at ev0
  have HSm0 := hid hsm0; have HLs0 := hid hls0; have HRo0 := hid hrow0; have HMi0 := hid hmi0; have HZ0 := hid HGZ0; have HLo0 := hid (And.intro ql0 (And.intro qm0 (And.intro qh0 gl0)))
  rw [ev0]
  clear ev0 hsm0 hls0 hrow0 hmi0 HGZ0 hq0 hg0 hf0 tq0 tg0 ql0 qm0 qh0 gl0 gm0 gh0
  rw [eB] at hrow1 hap1
  rw [eJ] at hap1
  have HAj1 := hid hap1
  have HJn1 := hid hjn1
  clear hap1 hjn1
  rw [eB, eJ, eb, ej] at ev1
  have HSm1 := hid hsm1; have HLs1 := hid hls1; have HRo1 := hid hrow1; have HMi1 := hid hmi1; have HZ1 := hid HGZ1; have HLo1 := hid (And.intro ql1 (And.intro qm1 (And.intro qh1 gl1)))
  rw [ev1]
  clear ev1 hsm1 hls1 hrow1 hmi1 HGZ1 hq1 hg1 hf1 tq1 tg1 ql1 qm1 qh1 gl1 gm1 gh1
  rw [eB] at hrow2 hap2
  rw [eJ] at hap2
  have HAj2 := hid hap2
  have HJn2 := hid hjn2
  clear hap2 hjn2
  rw [eB, eJ, eb, ej] at ev2
  have HSm2 := hid hsm2; have HLs2 := hid hls2; have HRo2 := hid hrow2; have HMi2 := hid hmi2; have HZ2 := hid HGZ2; have HLo2 := hid (And.intro ql2 (And.intro qm2 (And.intro qh2 gl2)))
  rw [ev2]
  clear ev2 hsm2 hls2 hrow2 hmi2 HGZ2 hq2 hg2 hf2 tq2 tg2 ql2 qm2 qh2 gl2 gm2 gh2
  have K4' := hid k4
  clear hu eB eJ eb ej
  simp only [List.drop_succ_cons, List.drop_zero]
  have HW7 := hid (HW6.out.stays K4'.out HW6.out.here)
  have HO7 := hid (HO6.out.stays K4'.out HO6.out.here)
  have HL7 := hid (HL6.out.kept K4'.out)
  have HD7 := hid (HD6.out.stays K4'.out HD6.out.here)
  have HS7 := hid (Sl.kept HS6.out K4'.out)
  have K7 := hid (K6.out.then_ (K4'.out.low K6.out.1.size))
  have hg0 : gw < g0 ∧ go < g0 ∧ gd < g0 := by have := HLo0.out.2.2.2; omega
  have hg1 : gw < g1 ∧ go < g1 ∧ gd < g1 := by have := HLo1.out.2.2.2; omega
  have hg2 : gw < g2 ∧ go < g2 ∧ gd < g2 ∧ gw < q2 ∧ go < q2 ∧ gd < q2 := by have h1 := HLo2.out.2.2.2; have h2 := HLo2.out.1; have h3 := HD6.out.here; omega
  clear b0 b1 b2 b3 b4 b5 b6 b7 lw HW6 HL6 HD6 HO6 HS6 k4 K6
  have HN01 : ¬ g0 = g1 := by have := HAp.out; omega
  have HN02 : ¬ g0 = g2 := by have := HAp.out; omega
  have HN10 : ¬ g1 = g0 := by have := HAp.out; omega
  have HN12 : ¬ g1 = g2 := by have := HAp.out; omega
  have HN20 : ¬ g2 = g0 := by have := HAp.out; omega
  have HN21 : ¬ g2 = g1 := by have := HAp.out; omega
  have lg0 : g0 < w4.heap.size := HZ0.out.here
  have fg0 : ∀ i, w4.frozen? ⟨g0, i, none⟩ = false := HZ0.out.free
  have y0_0 := HZ0.out.at_ 0
  have y0_1 := HZ0.out.at_ 1
  have y0_2 := HZ0.out.at_ 2
  have y0_3 := HZ0.out.at_ 3
  have y0_4 := HZ0.out.at_ 4
  have y0_5 := HZ0.out.at_ 5
  have y0_6 := HZ0.out.at_ 6
  have y0_7 := HZ0.out.at_ 7
  simp at y0_0 y0_1 y0_2 y0_3 y0_4 y0_5 y0_6 y0_7
  have lg1 : g1 < w4.heap.size := HZ1.out.here
  have fg1 : ∀ i, w4.frozen? ⟨g1, i, none⟩ = false := HZ1.out.free
  have y1_0 := HZ1.out.at_ 0
  have y1_1 := HZ1.out.at_ 1
  have y1_2 := HZ1.out.at_ 2
  have y1_3 := HZ1.out.at_ 3
  have y1_4 := HZ1.out.at_ 4
  have y1_5 := HZ1.out.at_ 5
  have y1_6 := HZ1.out.at_ 6
  have y1_7 := HZ1.out.at_ 7
  simp at y1_0 y1_1 y1_2 y1_3 y1_4 y1_5 y1_6 y1_7
  have lg2 : g2 < w4.heap.size := HZ2.out.here
  have fg2 : ∀ i, w4.frozen? ⟨g2, i, none⟩ = false := HZ2.out.free
  have y2_0 := HZ2.out.at_ 0
  have y2_1 := HZ2.out.at_ 1
  have y2_2 := HZ2.out.at_ 2
  have y2_3 := HZ2.out.at_ 3
  have y2_4 := HZ2.out.at_ 4
  have y2_5 := HZ2.out.at_ 5
  have y2_6 := HZ2.out.at_ 6
  have y2_7 := HZ2.out.at_ 7
  simp at y2_0 y2_1 y2_2 y2_3 y2_4 y2_5 y2_6 y2_7
  obtain ⟨W5, eW5⟩ : ∃ V, V = ((((((((((((((((((((((((w4).setCell ⟨g0, 0, none⟩ (.int .i64 0)).setCell ⟨g0, 1, none⟩ (.int .i64 nb)).setCell ⟨g0, 2, none⟩ (.int .i64 nj)).setCell ⟨g0, 3, none⟩ (.int .i64 0)).setCell ⟨g0, 4, none⟩ (.int .i64 0)).setCell ⟨g0, 5, none⟩ (.slice ob0 nB cb0)).setCell ⟨g0, 6, none⟩ (.slice oj0 nJ cj0)).setCell ⟨g0, 7, none⟩ (.slice none 0 0)).setCell ⟨g1, 0, none⟩ (.int .i64 0)).setCell ⟨g1, 1, none⟩ (.int .i64 nb)).setCell ⟨g1, 2, none⟩ (.int .i64 nj)).setCell ⟨g1, 3, none⟩ (.int .i64 0)).setCell ⟨g1, 4, none⟩ (.int .i64 0)).setCell ⟨g1, 5, none⟩ (.slice ob1 nB cb1)).setCell ⟨g1, 6, none⟩ (.slice oj1 nJ cj1)).setCell ⟨g1, 7, none⟩ (.slice none 0 0)).setCell ⟨g2, 0, none⟩ (.int .i64 0)).setCell ⟨g2, 1, none⟩ (.int .i64 nb)).setCell ⟨g2, 2, none⟩ (.int .i64 nj)).setCell ⟨g2, 3, none⟩ (.int .i64 0)).setCell ⟨g2, 4, none⟩ (.int .i64 0)).setCell ⟨g2, 5, none⟩ (.slice ob2 nB cb2)).setCell ⟨g2, 6, none⟩ (.slice oj2 nJ cj2)).setCell ⟨g2, 7, none⟩ (.slice none 0 0) := ⟨_, rfl⟩
  have k5 : But (fun b => b = g0 ∨ b = g1 ∨ b = g2) w4 W5 := by rw [eW5]; exact ((((But.rfl_ (fun b => b = g0 ∨ b = g1 ∨ b = g2) w4).put8 (g := g0) (.inl (.inl rfl)) _ _ _ _ _ _ _ _).put8 (g := g1) (.inl (.inr (.inl rfl))) _ _ _ _ _ _ _ _).put8 (g := g2) (.inl (.inr (.inr rfl))) _ _ _ _ _ _ _ _)
  have HG0 : Hid (Has W5 g0 49 #[.int .i64 0, .int .i64 nb, .int .i64 nj, .int .i64 0, .int .i64 0, .slice ob0 nB cb0, .slice oj0 nJ cj0, .slice none 0 0]) := by unfold Hid; rw [eW5]; exact (((HZ0.out.put8 _ _ _ _ _ _ _ _).but ((But.rfl_ (fun b => b = g1) _).put8 (.inl rfl) _ _ _ _ _ _ _ _) HN01).but ((But.rfl_ (fun b => b = g2) _).put8 (.inl rfl) _ _ _ _ _ _ _ _) HN02)
  have HG1 : Hid (Has W5 g1 49 #[.int .i64 0, .int .i64 nb, .int .i64 nj, .int .i64 0, .int .i64 0, .slice ob1 nB cb1, .slice oj1 nJ cj1, .slice none 0 0]) := by unfold Hid; rw [eW5]; exact (((HZ1.out.but ((But.rfl_ (fun b => b = g0) _).put8 (.inl rfl) _ _ _ _ _ _ _ _) HN10).put8 _ _ _ _ _ _ _ _).but ((But.rfl_ (fun b => b = g2) _).put8 (.inl rfl) _ _ _ _ _ _ _ _) HN12)
  have HG2 : Hid (Has W5 g2 49 #[.int .i64 0, .int .i64 nb, .int .i64 nj, .int .i64 0, .int .i64 0, .slice ob2 nB cb2, .slice oj2 nJ cj2, .slice none 0 0]) := by unfold Hid; rw [eW5]; exact (((HZ2.out.but ((But.rfl_ (fun b => b = g0) _).put8 (.inl rfl) _ _ _ _ _ _ _ _) HN20).but ((But.rfl_ (fun b => b = g1) _).put8 (.inl rfl) _ _ _ _ _ _ _ _) HN21).put8 _ _ _ _ _ _ _ _)
  go_wp2_with fail
  refine NoPanic.normal ?_
  try rw [← eW5]
  clear eW5 y0_0 y0_1 y0_2 y0_3 y0_4 y0_5 y0_6 y0_7 y1_0 y1_1 y1_2 y1_3 y1_4 y1_5 y1_6 y1_7 y2_0 y2_1 y2_2 y2_3 y2_4 y2_5 y2_6 y2_7 lg0 lg1 lg2 fg0 fg1 fg2 HZ0 HZ1 HZ2
  have HW5 := hid (HW7.out.but k5 (by show ¬ (gw = g0 ∨ gw = g1 ∨ gw = g2); omega))
  have HO5 := hid (HO7.out.but k5 (by show ¬ (go = g0 ∨ go = g1 ∨ go = g2); omega))
  have HL5 := hid (HL7.out.but k5 (fun b hb => by have hb : b = g0 ∨ b = g1 ∨ b = g2 := hb; show gw ≤ b; omega))
  have HD5 := hid (HD7.out.but k5 (by show ¬ (gd = g0 ∨ gd = g1 ∨ gd = g2); omega))
  have HS5 : Hid (Sl W5 xo xn xf) := fun hn => by
    obtain ⟨b, off, e, hp⟩ := HS7.out hn
    have hb := HWx.out hn b off none e
    exact ⟨b, off, e, hp.but k5 (by show ¬ (b = g0 ∨ b = g1 ∨ b = g2); omega)⟩
  have K5 : Hid (Made w.heap.size w W5) := But.made_ K7.out k5 K7.out.1.size (fun b hb => by have hb : b = g0 ∨ b = g1 ∨ b = g2 := hb; omega)
  have HA5 := hid (HLs0.out.but k5 (fun b hb => by have hb : b = g0 ∨ b = g1 ∨ b = g2 := hb; have h := HAp.out; show b < q0 ∨ e0.hi ≤ b; omega))
  have HB5 := hid (HLs1.out.but k5 (fun b hb => by have hb : b = g0 ∨ b = g1 ∨ b = g2 := hb; have h := HAp.out; show b < q1 ∨ e1.hi ≤ b; omega))
  have HY5 := hid (HLs2.out.but k5 (fun b hb => by have hb : b = g0 ∨ b = g1 ∨ b = g2 := hb; have h := HAp.out; show b < q2 ∨ e2.hi ≤ b; omega))
  have hin2 : ∀ b, q2 ≤ b → b < e2.hi → ¬ (b = g0 ∨ b = g1 ∨ b = g2) := fun b h1 h2 => by have h := HAp.out; omega
  have hlsB : ∀ g, ob2 = some ⟨g, 0, none⟩ → 0 < nB → q2 ≤ g ∧ g < e2.hi := fun g hg hn => by
    have := HLs2.out.offB (by rw [HSm2.out.1, HE.out.1]; exact hn) g 0 _ hg
    have h : ¬ (g < q2 ∨ e2.hi ≤ g) := this
    omega
  have HR5 : Hid (0 < nB → ∃ g, ob2 = some ⟨g, 0, none⟩ ∧ (q2 ≤ g ∧ g < e2.hi) ∧ RowL encB 11 W5 g 35 nB e2.bs) := fun hn => by
    obtain ⟨g, e, hr⟩ := HRo2.out hn
    obtain ⟨h1, h2⟩ := hlsB g e hn
    exact ⟨g, e, ⟨h1, h2⟩, hr.but k5 (hin2 g h1 h2)⟩
  have hs45 : w4.heap.size ≤ W5.heap.size := k5.size
  have HAQ : Hid ((e1.hi ≤ q2 ∨ e2.hi ≤ q1) ∧ (e0.hi ≤ q2 ∨ e2.hi ≤ q0)) := ⟨HAq.out.2.2, HAq.out.2.1⟩
  clear k5 hin2 hlsB HAq HLs0 HLs1 HLs2 HRo0 HRo1 HRo2 HN01 HN02 HN10 HN12 HN20 HN21 HCP HL7 HW7 HD7 HO7 HS7 K7 K4' HAj0 HAj1 HJn0 HJn1 HMi0 HMi1
  have HK1 : Hid (GOk (⟨0, 0, 0, ⟨nb, nj, e1.bs, P.J, []⟩⟩ : PG)) := by
    have h := copy_ok OK.out SM.out HSm1.out
    rw [HE.out.2.2.1, HE.out.2.2.2] at h
    exact POk.g h (by simp) (by unfold Inn; simp) (by unfold Inn; simp)
  have HK2 : Hid (GOk (⟨0, 0, 0, ⟨nb, nj, e2.bs, P.J, []⟩⟩ : PG)) := by
    have h := copy_ok OK.out SM.out HSm2.out
    rw [HE.out.2.2.1, HE.out.2.2.2] at h
    exact POk.g h (by simp) (by unfold Inn; simp) (by unfold Inn; simp)
  have HEq : Hid (EqG (⟨0, 0, 0, ⟨nb, nj, e1.bs, P.J, []⟩⟩ : PG) (⟨0, 0, 0, ⟨nb, nj, e2.bs, P.J, []⟩⟩ : PG)) := ⟨rfl, rfl, rfl, rfl, rfl, (SameBs.eq HSm1.out).symm.trans (SameBs.eq HSm2.out), rfl, rfl⟩
  have HVx : Hid (GV (fun b => b = g1 ∨ b = g2 ∨ (q2 ≤ b ∧ b < e2.hi)) W5 g1 (⟨0, 0, 0, ⟨nb, nj, e1.bs, P.J, []⟩⟩ : PG)) := by
    refine ⟨ob1, oj1, none, cb1, cj1, 0, ?_, HB5.out.free (fun b hb => ?_)⟩
    · show Has W5 g1 49 #[.int .i64 0, .int .i64 nb, .int .i64 nj, .int .i64 0, .int .i64 0, .slice ob1 e1.bs.length cb1, .slice oj1 P.J.length cj1, .slice none 0 0]
      rw [HSm1.out.1, HE.out.1, HE.out.2.1]
      exact HG1.out
    · have hb : b = g1 ∨ b = g2 ∨ (q2 ≤ b ∧ b < e2.hi) := hb
      have h1 := HAp.out
      have h2 := HAQ.out.1
      have h3 := HLo1.out.2.1
      show (b < q1 ∨ e1.hi ≤ b) ∨ _
      omega
  have HXw : Hid (∀ b, (fun b => b = g1 ∨ b = g2 ∨ (q2 ≤ b ∧ b < e2.hi)) b → b < W5.heap.size) := fun b hb => by
    have hb : b = g1 ∨ b = g2 ∨ (q2 ≤ b ∧ b < e2.hi) := hb
    have h1 := HG1.out.here
    have h2 := HG2.out.here
    have h3 := HLo2.out.2.2.1
    omega
  have HDo := hid (odo_p (⟨xkd, xid, xa, xb, xx, xy, xvx, xvy, xan, xsp, xde, xln, xk, xr, xo, xn, xc, xf⟩ : Or) HVx.out HK1.out (.inl rfl) HXw.out HXI.out HOP.out HS5.out HOx.out (by simp))
  have x_0 := HO5.out.at_ 0
  have x_1 := HO5.out.at_ 1
  have x_2 := HO5.out.at_ 2
  have x_3 := HO5.out.at_ 3
  have x_4 := HO5.out.at_ 4
  have x_5 := HO5.out.at_ 5
  have x_6 := HO5.out.at_ 6
  have x_7 := HO5.out.at_ 7
  have x_8 := HO5.out.at_ 8
  have x_9 := HO5.out.at_ 9
  have x_10 := HO5.out.at_ 10
  have x_11 := HO5.out.at_ 11
  have x_12 := HO5.out.at_ 12
  have x_13 := HO5.out.at_ 13
  have x_14 := HO5.out.at_ 14
  simp at x_0 x_1 x_2 x_3 x_4 x_5 x_6 x_7 x_8 x_9 x_10 x_11 x_12 x_13 x_14
  have lx : go < W5.heap.size := HO5.out.here
  have hg12 : ¬ g0 = g1 ∧ ¬ g2 = g1 := by have h1 := HAp.out; omega
  have hgx : w.heap.size ≤ g1 ∧ w.heap.size ≤ g2 ∧ w.heap.size ≤ q2 := by have h1 := HLo1.out; have h2 := HLo2.out; have h3 := hg1; omega
  go_wp2_with fail
  refine HDo.out.mono ?_
  rintro e w8 ⟨rfl, er, Gx, hex, hv, kb⟩
  have HVx := hid hv
  have HEx := hid hex
  have HKx := hid (exec_ok HK1.out HOP.out hex)
  have K8 : Hid (Below w.heap.size w w8) := BuB.below_ K5.out.1 kb K5.out.1.size (fun b hb => by have hb : b = g1 := hb; omega)
  have HW8 := hid (HW5.out.bub kb (by show ¬ gw = g1; omega))
  have HO8 := hid (HO5.out.bub kb (by show ¬ go = g1; omega))
  have HD8 := hid (HD5.out.bub kb (by show ¬ gd = g1; omega))
  have HL8 := hid (HL5.out.bub kb (fun b hb => by have hb : b = g1 := hb; show gw ≤ b; omega))
  have HA8 := hid (HA5.out.bub kb (fun b hb => by have hb : b = g1 := hb; have h := HAp.out; show b < q0 ∨ e0.hi ≤ b; omega))
  have HY8 := hid (HY5.out.bub kb (fun b hb => by have hb : b = g1 := hb; have h := HAp.out; show b < q2 ∨ e2.hi ≤ b; omega))
  have HZ0 := hid (HG0.out.bub kb (by show ¬ g0 = g1; omega))
  have HZ2 := hid (HG2.out.bub kb (by show ¬ g2 = g1; omega))
  have HR8 : Hid (0 < nB → ∃ g, ob2 = some ⟨g, 0, none⟩ ∧ (q2 ≤ g ∧ g < e2.hi) ∧ RowL encB 11 w8 g 35 nB e2.bs) := fun hn => by
    obtain ⟨g, e, h1, hr⟩ := HR5.out hn
    exact ⟨g, e, h1, hr.bub kb (by show ¬ g = g1; have h := HAp.out; omega)⟩
  have hs8 := kb.size
  have hs58 : e2.hi ≤ w8.heap.size := by have h3 := HLo2.out.2.2.1; omega
  have HDsl : Hid (Sl w8 d.rao d.rn d.rf) := fun hn => by
    obtain ⟨b, off, e, hp⟩ := HDS.out hn
    have hb : b < w.heap.size := World.block_lt_of_cell? _ _ (hp 0 hn).1
    exact ⟨b, off, e, fun i hi => ⟨(K8.out.cell hb).trans (hp i hi).1, (K8.out.cell hb).trans (hp i hi).2⟩⟩
  have HVy : Hid (GV (fun b => b = g2) w8 g2 (⟨0, 0, 0, ⟨nb, nj, e2.bs, P.J, []⟩⟩ : PG)) := by
    refine ⟨ob2, oj2, none, cb2, cj2, 0, ?_, HY8.out.free (fun b hb => ?_)⟩
    · show Has w8 g2 49 #[.int .i64 0, .int .i64 nb, .int .i64 nj, .int .i64 0, .int .i64 0, .slice ob2 e2.bs.length cb2, .slice oj2 P.J.length cj2, .slice none 0 0]
      rw [HSm2.out.1, HE.out.1, HE.out.2.1]
      exact HZ2.out
    · have hb : b = g2 := hb
      have h := HAp.out
      show (b < q2 ∨ e2.hi ≤ b) ∨ _
      omega
  clear hex hv kb HDo x_0 x_1 x_2 x_3 x_4 x_5 x_6 x_7 x_8 x_9 x_10 x_11 x_12 x_13 x_14 lx HW5 HO5 HD5 HL5 HA5 HY5 HB5 HG0 HG1 HG2 HR5 HS5 K5 HXw hs8 HDS
  have x_0 := HO8.out.at_ 0
  have x_1 := HO8.out.at_ 1
  have x_2 := HO8.out.at_ 2
  have x_3 := HO8.out.at_ 3
  have x_4 := HO8.out.at_ 4
  have x_5 := HO8.out.at_ 5
  have x_6 := HO8.out.at_ 6
  have x_7 := HO8.out.at_ 7
  have x_8 := HO8.out.at_ 8
  have x_9 := HO8.out.at_ 9
  have x_10 := HO8.out.at_ 10
  have x_11 := HO8.out.at_ 11
  have x_12 := HO8.out.at_ 12
  have x_13 := HO8.out.at_ 13
  have x_14 := HO8.out.at_ 14
  simp at x_0 x_1 x_2 x_3 x_4 x_5 x_6 x_7 x_8 x_9 x_10 x_11 x_12 x_13 x_14
  have lx : go < w8.heap.size := HO8.out.here
  go_upto_block 0 with fail
  go_cut [4] (fun s4 wx => s4 = .bool false ∧ ∃ Gy : PG, Hid (GV (fun b => b = g2) wx g2 Gy ∧ EqG Gx Gy ∧ BuB (fun b => b = g2 ∨ (q2 ≤ b ∧ b < e2.hi)) w8 wx))
  case first =>
    have hk : xkd = 1 ∨ xkd = 2 ∨ xkd = 3 ∨ xkd = 4 ∨ xkd = 5 ∨ xkd = 6 := by
      rcases HOP.out with h | h | h | h | h
      · exact .inl h.1
      · rcases h.1 with h | h
        · exact .inr (.inl h)
        · exact .inr (.inr (.inr (.inl h)))
      · exact .inr (.inr (.inl h.1))
      · exact .inr (.inr (.inr (.inr (.inl h.1))))
      · exact .inr (.inr (.inr (.inr (.inr h.1))))
    rcases hk with rfl | rfl | rfl | rfl | rfl | rfl
    · obtain ⟨bi, ibi, hBody⟩ := HAb.out rfl
      have HBc := hid (hBody w8 HDsl.out)
      rw [HDA.out] at HBc
      clear hBody
      have ld : gd < w8.heap.size := HD8.out.here
      go_wp2_with (refine wpList_load_row rfl 37 (.tmp 3) rfl gd rfl 37 _ (0, 0) _ HD8.out Tryz.underlying37 rfl (by rw [HSD.out]; kernel_rfl) ?_)
      refine HBc.out.mono ?_
      rintro e w9 ⟨ao', c', rfl, hs', ho', k9⟩
      have HVy9 := hid (WVar.kept HVy.out k9)
      have HAd := hid (addB_g (⟨bi, xx, xy, xvx, xvy, xan, xsp, xde, xk, xr, ao', xn, c', xf⟩ : Bd) HVy9.out HK2.out rfl (fun b hb => by have hb : b = g2 := hb; rw [hb]; exact WVar.here HVy9.out) hs' ⟨ibi, HXI.out.x, HXI.out.y, HXI.out.vx, HXI.out.vy, HXI.out.an, HXI.out.sp, HXI.out.de, HXI.out.k, HXI.out.r, HXI.out.f⟩ ho')
      have K9 : Hid (BuB (fun b => b = g2 ∨ (q2 ≤ b ∧ b < e2.hi)) w8 w9) := Made.bub k9
      clear hs' ho' k9 HBc ld x_0 x_1 x_2 x_3 x_4 x_5 x_6 x_7 x_8 x_9 x_10 x_11 x_12 x_13 x_14 lx
      go_wp2_with fail
      refine HAd.out.mono ?_
      rintro e w10 ⟨n', er', P', rfl, hadd, hv', kb'⟩
      have HHa := hid hadd
      have HHv := hid hv'
      have HHk := hid kb'
      clear hadd hv' kb' HAd
      go_wp2_with fail
      go_meet
      refine ⟨rfl, ⟨0, 0, 0, P'⟩, HHv.out, ?_, K9.out.then_ (HHk.out.bub.up (fun b _ hb => .inl hb))⟩
      obtain ⟨n0, P0, hx, e0'⟩ := exec1_of rfl HEx.out
      rw [e0']
      exact add_same (b' := (⟨bi, xx, xy, xvx, xvy, xan, xsp, xde, xk, xr, ao', xn, c', xf⟩ : Bd)) HEq.out ⟨rfl, ⟨rfl, rfl⟩, ⟨rfl, rfl⟩, rfl, rfl, rfl, rfl, rfl, rfl, fun _ _ => rfl⟩ hx HHa.out
    · have HAd := hid (remB_g xid HVy.out HK2.out rfl (fun b hb => by have hb : b = g2 := hb; rw [hb]; exact WVar.here HVy.out) (by simp))
      go_wp2_with fail
      refine HAd.out.mono ?_
      rintro e w10 ⟨gone, P', rfl, hadd, hv', kb'⟩
      have HHa := hid hadd
      have HHv := hid hv'
      have HHk := hid kb'
      clear hadd hv' kb' HAd x_0 x_1 x_2 x_3 x_4 x_5 x_6 x_7 x_8 x_9 x_10 x_11 x_12 x_13 x_14 lx
      go_wp2_with fail
      go_meet
      refine ⟨rfl, ⟨0, 0, 0, P'⟩, HHv.out, ?_, HHk.out.bub.up (fun b _ hb => .inl hb)⟩
      obtain ⟨n0, P0, hx, e0'⟩ := exec2_of rfl HEx.out
      rw [e0']
      exact remb_same HEq.out hx HHa.out
    · obtain ⟨ji, eji⟩ : ∃ z, (jointOf d).id = z := ⟨_, rfl⟩
      have HJc : Hid (∀ v, Calls Tryz.prog 19 #[.agg da] v fun e u => e = .returned (.agg #[.int .i64 ji, .int .i64 xa, .int .i64 xb, .int .i64 xx, .int .i64 xy, .int .i64 xvx, .int .i64 xvy, .int .i64 xln]) ∧ Made v.heap.size v u) := fun v => by
        have h := HJo.out v
        have e := HAj.out rfl
        rw [eji] at e
        rw [e] at h
        rw [← HDA.out]
        exact h
      have iji : I64 ji := by rw [← eji]; exact HJi.out.1
      clear eji
      have ld : gd < w8.heap.size := HD8.out.here
      go_wp2_with (refine wpList_load_row rfl 37 (.tmp 3) rfl gd rfl 37 _ (0, 0) _ HD8.out Tryz.underlying37 rfl (by rw [HSD.out]; kernel_rfl) ?_)
      refine (HJc.out _).mono ?_
      rintro e w9 ⟨rfl, k9⟩
      have HVy9 := hid (WVar.kept HVy.out k9)
      have HAd := hid (addJ_g (⟨ji, xa, xb, xx, xy, xvx, xvy, xln⟩ : Jt) HVy9.out HK2.out rfl (fun b hb => by have hb : b = g2 := hb; rw [hb]; exact WVar.here HVy9.out) ⟨iji, HXI.out.a, HXI.out.b, HXI.out.x, HXI.out.y, HXI.out.vx, HXI.out.vy, HXI.out.ln⟩)
      have K9 : Hid (BuB (fun b => b = g2 ∨ (q2 ≤ b ∧ b < e2.hi)) w8 w9) := Made.bub k9
      clear k9 HJc ld x_0 x_1 x_2 x_3 x_4 x_5 x_6 x_7 x_8 x_9 x_10 x_11 x_12 x_13 x_14 lx
      go_wp2_with fail
      refine HAd.out.mono ?_
      rintro e w10 ⟨n', er', P', rfl, hadd, hv', kb'⟩
      have HHa := hid hadd
      have HHv := hid hv'
      have HHk := hid kb'
      clear hadd hv' kb' HAd
      go_wp2_with fail
      go_meet
      refine ⟨rfl, ⟨0, 0, 0, P'⟩, HHv.out, ?_, K9.out.then_ (HHk.out.bub.up (fun b _ hb => .inl hb))⟩
      obtain ⟨n0, P0, hx, e0'⟩ := exec3_of rfl HEx.out
      rw [e0']
      exact addj_same (j' := (⟨ji, xa, xb, xx, xy, xvx, xvy, xln⟩ : Jt)) HEq.out rfl hx HHa.out
    · have HAd := hid (remJ_g xid HVy.out HK2.out rfl (fun b hb => by have hb : b = g2 := hb; rw [hb]; exact WVar.here HVy.out))
      go_wp2_with fail
      refine HAd.out.mono ?_
      rintro e w10 ⟨gone, P', rfl, hadd, hv', kb'⟩
      have HHa := hid hadd
      have HHv := hid hv'
      have HHk := hid kb'
      clear hadd hv' kb' HAd x_0 x_1 x_2 x_3 x_4 x_5 x_6 x_7 x_8 x_9 x_10 x_11 x_12 x_13 x_14 lx
      go_wp2_with fail
      go_meet
      refine ⟨rfl, ⟨0, 0, 0, P'⟩, HHv.out, ?_, HHk.out.bub.up (fun b _ hb => .inl hb)⟩
      obtain ⟨n0, P0, hx, e0'⟩ := exec4_of rfl HEx.out
      rw [e0']
      exact remj_same HEq.out hx HHa.out
    · have hnB : nB ≤ 1024 := by have h1 := OK.out.hB.len; have h2 := HE.out.1; omega
      obtain ⟨gB, HgB, HgB0⟩ : ∃ gB, Hid (0 < nB → ob2 = some ⟨gB, 0, none⟩ ∧ (q2 ≤ gB ∧ gB < e2.hi) ∧ RowL encB 11 w8 gB 35 nB e2.bs) ∧ Hid (nB = 0 → gB = g2) := by
        rcases Nat.eq_zero_or_pos nB with h | h
        · exact ⟨g2, fun h' => absurd h' (by omega), fun _ => rfl⟩
        · obtain ⟨g, h1, h2, h3⟩ := HR8.out h
          exact ⟨g, fun _ => ⟨h1, h2, h3⟩, fun h0 => absurd h0 (by omega)⟩
      have y0 := HZ2.out.at_ 0
      have y1 := HZ2.out.at_ 1
      have y2 := HZ2.out.at_ 2
      have y3 := HZ2.out.at_ 3
      have y4 := HZ2.out.at_ 4
      have y5 := HZ2.out.at_ 5
      have y6 := HZ2.out.at_ 6
      have y7 := HZ2.out.at_ 7
      simp at y0 y1 y2 y3 y4 y5 y6 y7
      have ly : g2 < w8.heap.size := HZ2.out.here
      go_upto_region 23 with fail
      go_wp2_with fail
      clear y0 y1 y2 y3 y4 y5 y6 y7 ly x_0 x_1 x_2 x_3 x_4 x_5 x_6 x_7 x_8 x_9 x_10 x_11 x_12 x_13 x_14 lx
      go_loopg [10, 11, 12, 68] nB (fun gg s10 s11 s12 s68 wx => ∃ k : Nat, k + gg = nB ∧ s68 = .int .i64 (k : Nat) ∧ Hid (BuB (fun b => b = gB) w8 wx ∧ Has wx g2 49 #[.int .i64 0, .int .i64 nb, .int .i64 nj, .int .i64 0, .int .i64 0, .slice ob2 nB cb2, .slice oj2 nJ cj2, .slice none 0 0] ∧ (0 < nB → RowL encB 11 wx gB 35 nB (curB xid xvx xvy xsp e2.bs k))))
      case atStart =>
        refine ⟨0, by omega, by first | rfl | trivial, BuB.rfl_ _ _, HZ2.out, fun hn => ?_⟩
        rw [curB_zero]
        exact (HgB.out hn).2.2
      case round =>
        obtain ⟨k, hk, rfl, HH⟩ := hrel
        have HU := hid HH.out.1
        have HYr := hid HH.out.2.1
        have HRr := hid HH.out.2.2
        clear HH
        by_cases hkn : k < nB
        · obtain ⟨eob, hgB, _⟩ := HgB.out (by omega)
          have hrow := HRr.out (by omega)
          obtain ⟨bz0, hbz⟩ : ∃ b, e2.bs[k]? = some b := ⟨_, List.getElem?_eq_getElem (by rw [HSm2.out.1, HE.out.1]; exact hkn)⟩
          have EZ := hid hbz
          have EC := hid (curB_at xid xvx xvy xsp hbz)
          have HPb := hid (HK2.out.hB.all bz0 (List.mem_of_getElem? hbz))
          have HBi := hid (HY8.out.at_.sB bz0 (List.mem_of_getElem? hbz))
          have hgog : ¬ go = gB := by omega
          have HOr : Hid (Has wr go 29 #[.int .i64 5, .int .i64 xid, .int .i64 xa, .int .i64 xb, .int .i64 xx, .int .i64 xy, .int .i64 xvx, .int .i64 xvy, .int .i64 xan, .int .i64 xsp, .int .i64 xde, .int .i64 xln, .int .i64 xk, .int .i64 xr, .slice xo xn xc]) := HO8.out.bub HU.out hgog
          obtain ⟨z0, z1, z2, z3, z4, z5, z6, z7, z8, z9, z10, z11, z12, z13⟩ := bz0
          have HRw := hid hrow
          have HN2 : Hid (¬ g2 = gB) := by have h := HAp.out; unfold Hid; omega
          clear hbz hrow
          have hcs := (HRw.out.lsB k _ EC.out).b11
          obtain ⟨e_0, e_1, e_2, e_3, e_4, e_5, e_6, e_7, e_8, e_9, e_10⟩ := hcs
          simp only [Nat.zero_add] at e_0 e_1 e_2 e_3 e_4 e_5 e_6 e_7 e_8 e_9 e_10
          have y0 := HYr.out.at_ 0
          have y1 := HYr.out.at_ 1
          have y2 := HYr.out.at_ 2
          have y3 := HYr.out.at_ 3
          have y4 := HYr.out.at_ 4
          have y5 := HYr.out.at_ 5
          have y6 := HYr.out.at_ 6
          have y7 := HYr.out.at_ 7
          simp at y0 y1 y2 y3 y4 y5 y6 y7
          rw [eob] at y5
          have HEob := hid eob
          clear eob
          have ly : g2 < wr.heap.size := HYr.out.here
          have x_0 := HOr.out.at_ 0
          have x_1 := HOr.out.at_ 1
          have x_2 := HOr.out.at_ 2
          have x_3 := HOr.out.at_ 3
          have x_4 := HOr.out.at_ 4
          have x_5 := HOr.out.at_ 5
          have x_6 := HOr.out.at_ 6
          have x_7 := HOr.out.at_ 7
          have x_8 := HOr.out.at_ 8
          have x_9 := HOr.out.at_ 9
          have x_10 := HOr.out.at_ 10
          have x_11 := HOr.out.at_ 11
          have x_12 := HOr.out.at_ 12
          have x_13 := HOr.out.at_ 13
          have x_14 := HOr.out.at_ 14
          simp at x_0 x_1 x_2 x_3 x_4 x_5 x_6 x_7 x_8 x_9 x_10 x_11 x_12 x_13 x_14
          have lx : go < wr.heap.size := HOr.out.here
          have lB : gB < wr.heap.size := HRw.out.here
          go_upto_region 27 with fail
          by_cases hiz : z0 = xid
          · have hq1 : (z0 != xid) = false := by simpa using hiz
            by_cases hdz : z7 = 0
            · have hq2 : (z7 == 0) = true := by simpa using hdz
              have HNO : Hid (¬ (z0 = xid ∧ z7 ≠ 0)) := fun h => h.2 hdz
              clear hiz hdz
              refine reg_made (by kernel_rfl) (by kernel_rfl) ?_
              intro Ty hT fw hf
              have t0 := Class.reads hf e_0
              have t7 := Class.reads hf e_7
              have t1 := Class.reads hf x_1
              repeat (go_big_quiet_step (first | rfl | fail))
              refine wpQuiet_nil ?_
              intro w9 h9
              have K9 := hid (hf.here h9)
              clear t0 t7 t1 hf h9 e_0 e_1 e_2 e_3 e_4 e_5 e_6 e_7 e_8 e_9 e_10 y0 y1 y2 y3 y4 y5 y6 y7 x_0 x_1 x_2 x_3 x_4 x_5 x_6 x_7 x_8 x_9 x_10 x_11 x_12 x_13 x_14 ly lx lB
              go_wp2_with fail
              go_roundg (nB - (k + 1))
              case measure => omega
              case rel =>
                refine ⟨k + 1, by omega, by go_num, HU.out.then_ (Made.bub K9.out), HYr.out.stays K9.out HYr.out.here, fun hn => ?_⟩
                rw [curB_skip EZ.out (if_neg HNO.out)]
                exact HRw.out.stays K9.out HRw.out.here
            · have hq2 : (z7 == 0) = false := by simpa using hdz
              have HID := hid hiz
              have HNZ := hid hdz
              clear hiz hdz
              refine reg_made (by kernel_rfl) (by kernel_rfl) ?_
              intro Ty hT fw hf
              have t0 := Class.reads hf e_0
              have t7 := Class.reads hf e_7
              have t1 := Class.reads hf x_1
              repeat (go_big_quiet_step (first | rfl | fail))
              refine wpQuiet_nil ?_
              intro w9 h9
              have K9 := hid (hf.here h9)
              clear t0 t7 t1 hf h9 e_0 e_1 e_2 e_3 e_4 e_5 e_6 e_7 e_8 e_9 e_10 y0 y1 y2 y3 y4 y5 y6 y7 x_0 x_1 x_2 x_3 x_4 x_5 x_6 x_7 x_8 x_9 x_10 x_11 x_12 x_13 x_14 ly lx lB
              have HR9 := hid (HRw.out.stays K9.out HRw.out.here)
              have HO9 := hid (HOr.out.stays K9.out HOr.out.here)
              have HY9 := hid (HYr.out.stays K9.out HYr.out.here)
              have U9 : Hid (BuB (fun b => b = gB) w8 w9) := HU.out.then_ (Made.bub K9.out)
              have HDe : Hid (0 < z7) := by have h := HPb.out.de.1; have h2 : ¬ z7 = 0 := HNZ.out; unfold Hid; have h : 0 ≤ z7 := h; omega
              have HSl : Hid (Sl w9 z10 z11 z13) := HBi.out.1.bub U9.out (fun hn b off s e hb => by
                have hb : b = gB := hb
                rcases (HMi2.out (⟨z0, z1, z2, z3, z4, z5, z6, z7, z8, z9, z10, z11, z12, z13⟩ : Bd) (List.mem_of_getElem? EZ.out)).2 with ⟨h1, h2, _⟩ | ⟨g, h1, _, h3, _⟩
                · have h2 : z11 = 0 := h2; omega
                · have h1 : z10 = some ⟨g, 0, none⟩ := h1
                  rw [h1] at e
                  cases e
                  exact h3 (.inl (by rw [hb]; exact HEob.out)))
              have hcs := (HR9.out.lsB k _ EC.out).b11
              obtain ⟨e_0, e_1, e_2, e_3, e_4, e_5, e_6, e_7, e_8, e_9, e_10⟩ := hcs
              simp only [Nat.zero_add] at e_0 e_1 e_2 e_3 e_4 e_5 e_6 e_7 e_8 e_9 e_10
              have lB : gB < w9.heap.size := HR9.out.here
              obtain ⟨m1, m2, emb⟩ := massB_is (b := (⟨z0, z1, z2, z3, z4, z5, z6, z7, z8, z9, z10, z11, z12, z13⟩ : Bd)) HDe.out
              obtain ⟨mv, emv⟩ : ∃ z, moveB (⟨z0, z1, z2, z3, z4, z5, z6, z7, z8, z9, z10, z11, z12, z13⟩ : Bd) = z := ⟨_, rfl⟩
              obtain ⟨ms, ems⟩ : ∃ z, spinB (⟨z0, z1, z2, z3, z4, z5, z6, z7, z8, z9, z10, z11, z12, z13⟩ : Bd) = z := ⟨_, rfl⟩
              have imv : I64 mv := by rw [← emv]; exact moveB_i _
              have ims : I64 ms := by rw [← ems]; exact spinB_i _
              have HM := mof_c (⟨z0, z1, z2, z3, z4, z5, z6, z7, z8, z9, z10, z11, z12, z13⟩ : Bd) (w := w9) HBi.out.2 HPb.out HSl.out
              rw [emb, emv, ems] at HM
              have HM := hid HM
              have HMV := hid emv
              have HMS := hid ems
              clear emb emv ems
              go_wp2_with fail
              refine HM.out.mono ?_
              rintro e w10 ⟨rfl, k10⟩
              obtain ⟨V5, eV5⟩ : ∃ V, V = w10.alloc (.cells #[.int .i64 m1, .int .i64 m2, .int .i64 mv, .int .i64 ms] 65) := ⟨_, rfl⟩
              have HM5 : Hid (Has V5 w10.heap.size 65 #[.int .i64 m1, .int .i64 m2, .int .i64 mv, .int .i64 ms]) := by unfold Hid; rw [eV5]; exact has_new _ _ _
              have k5 : Below w9.heap.size w9 V5 := by rw [eV5]; exact k10.alloc k10.size _
              obtain ⟨g5, eg5⟩ : ∃ g, w10.heap.size = g := ⟨_, rfl⟩
              have h5B : ¬ gB = g5 := by have := k10.size; omega
              rw [eg5] at HM5
              go_upto_region 29 with fail
              try rw [eg5]
              rw [← eV5]
              have HO5 := hid (HO9.out.kept k5 HO9.out.here)
              have HY5 := hid (HY9.out.kept k5 HY9.out.here)
              have HR5 := hid (RowL.bub (X := Nil0) HR9.out (Below.bub k5) (fun h => h))
              have U5 : Hid (BuB (fun b => b = gB) w8 V5) := U9.out.then_ (Below.bub k5)
              clear eV5 eg5 k5 k10 e_0 e_1 e_2 e_3 e_4 e_5 e_6 e_7 e_8 e_9 e_10 lB HO9 HY9 HR9 U9 HM HSl HYr HOr HRw HU K9
              have b_0 := HO5.out.at_ 0
              have b_1 := HO5.out.at_ 1
              have b_2 := HO5.out.at_ 2
              have b_3 := HO5.out.at_ 3
              have b_4 := HO5.out.at_ 4
              have b_5 := HO5.out.at_ 5
              have b_6 := HO5.out.at_ 6
              have b_7 := HO5.out.at_ 7
              have b_8 := HO5.out.at_ 8
              have b_9 := HO5.out.at_ 9
              have b_10 := HO5.out.at_ 10
              have b_11 := HO5.out.at_ 11
              have b_12 := HO5.out.at_ 12
              have b_13 := HO5.out.at_ 13
              have b_14 := HO5.out.at_ 14
              simp at b_0 b_1 b_2 b_3 b_4 b_5 b_6 b_7 b_8 b_9 b_10 b_11 b_12 b_13 b_14
              have l1 : go < V5.heap.size := HO5.out.here
              have m_0 := HM5.out.at_ 0
              have m_1 := HM5.out.at_ 1
              have m_2 := HM5.out.at_ 2
              have m_3 := HM5.out.at_ 3
              simp at m_0 m_1 m_2 m_3
              have l5 : g5 < V5.heap.size := HM5.out.here
              have hcs := (HR5.out.lsB k _ EC.out).b11
              obtain ⟨e_0, e_1, e_2, e_3, e_4, e_5, e_6, e_7, e_8, e_9, e_10⟩ := hcs
              simp only [Nat.zero_add] at e_0 e_1 e_2 e_3 e_4 e_5 e_6 e_7 e_8 e_9 e_10
              have lB : gB < V5.heap.size := HR5.out.here
              obtain ⟨p1, ep1⟩ : ∃ z, mulF xvx mv = z := ⟨_, rfl⟩
              obtain ⟨p2, ep2⟩ : ∃ z, mulF xvy mv = z := ⟨_, rfl⟩
              obtain ⟨v1, ev1⟩ : ∃ z, addF z3 p1 = z := ⟨_, rfl⟩
              obtain ⟨v2, ev2⟩ : ∃ z, addF z4 p2 = z := ⟨_, rfl⟩
              obtain ⟨r1, er1⟩ : ∃ z, bringF v1 (negF 17592186044416) 17592186044416 = z := ⟨_, rfl⟩
              obtain ⟨r2, er2⟩ : ∃ z, bringF v2 (negF 17592186044416) 17592186044416 = z := ⟨_, rfl⟩
              obtain ⟨p3, ep3⟩ : ∃ z, mulF xsp ms = z := ⟨_, rfl⟩
              obtain ⟨v3, ev3⟩ : ∃ z, addF z6 p3 = z := ⟨_, rfl⟩
              obtain ⟨r3, er3⟩ : ∃ z, bringF v3 (-1099511627776) 1099511627776 = z := ⟨_, rfl⟩
              have ix3 : I64 z3 := HBi.out.2.vx
              have ix4 : I64 z4 := HBi.out.2.vy
              have ix6 : I64 z6 := HBi.out.2.sp
              have ivx : I64 xvx := HXI.out.vx
              have ivy : I64 xvy := HXI.out.vy
              have isp : I64 xsp := HXI.out.sp
              have iM : I64 17592186044416 := by unfold I64; omega
              have iN : I64 1099511627776 := by unfold I64; omega
              have iK : I64 (-1099511627776) := by unfold I64; omega
              have ip1 : I64 p1 := by rw [← ep1]; exact i64_mul _ _
              have ip2 : I64 p2 := by rw [← ep2]; exact i64_mul _ _
              have ip3 : I64 p3 := by rw [← ep3]; exact i64_mul _ _
              have iq1 : I64 v1 := by rw [← ev1]; exact i64_add _ _
              have iq2 : I64 v2 := by rw [← ev2]; exact i64_add _ _
              have iq3 : I64 v3 := by rw [← ev3]; exact i64_add _ _
              have HC1 := hid (fun v => vscale_is xvx xvy mv p1 p2 v ivx ivy imv ep1 ep2)
              have HC2 := hid (fun v => vadd_is z3 z4 p1 p2 v1 v2 v ix3 ix4 ip1 ip2 ev1 ev2)
              have HC3 := hid (fun v => vbring_is v1 v2 17592186044416 r1 r2 v iq1 iq2 iM er1 er2)
              have HC4 := hid (fun v => mul_is xsp ms p3 v isp ims ep3)
              have HC5 := hid (fun v => add_is z6 p3 v3 v ix6 ip3 ev3)
              have HC6 := hid (fun v => bring_is v3 (-1099511627776) 1099511627776 r3 v iq3 iK iN er3)
              have HPu : Hid (pushOne xid xvx xvy xsp (⟨z0, z1, z2, z3, z4, z5, z6, z7, z8, z9, z10, z11, z12, z13⟩ : Bd) = (⟨z0, z1, z2, r1, r2, z5, r3, z7, z8, z9, z10, z11, z12, z13⟩ : Bd)) := by
                unfold Hid
                rw [show pushOne xid xvx xvy xsp (⟨z0, z1, z2, z3, z4, z5, z6, z7, z8, z9, z10, z11, z12, z13⟩ : Bd) = pushB xvx xvy xsp (⟨z0, z1, z2, z3, z4, z5, z6, z7, z8, z9, z10, z11, z12, z13⟩ : Bd) from if_pos ⟨HID.out, HNZ.out⟩]
                unfold pushB
                rw [HMV.out, HMS.out]
                simp only []
                rw [ep1, ep2, ep3, ev1, ev2, ev3, er1, er2, er3]
              clear ep1 ep2 ep3 ev1 ev2 ev3 er1 er2 er3
              refine reg_made_tail 14 (by kernel_rfl) (by kernel_rfl) ?_
              intro Ty hT fw hf
              have t0 := Class.reads hf e_3
              have t1 := Class.reads hf e_4
              have t2 := Class.reads hf b_6
              have t3 := Class.reads hf b_7
              have t4 := Class.reads hf m_2
              simp only [List.take_succ_cons, List.take_zero, List.drop_succ_cons, List.drop_zero]
              repeat (go_big_quiet_step ((first
                | (go_at_call 25; with_reducible exact hf.made (HC1.out _))
                | (go_at_call 24; with_reducible exact hf.made (HC2.out _))
                | (go_at_call 23; with_reducible exact hf.made (HC3.out _)))))
              refine wpQuiet_nil ?_
              intro w11 h11
              have k11 := hf.here h11
              have HO6 := hid (HO5.out.stays k11 HO5.out.here)
              have HY6 := hid (HY5.out.stays k11 HY5.out.here)
              have HM6 := hid (HM5.out.stays k11 HM5.out.here)
              have HR6 := hid (HR5.out.stays k11 HR5.out.here)
              have U6 : Hid (BuB (fun b => b = gB) w8 w11) := U5.out.then_ (Made.bub k11)
              clear t0 t1 t2 t3 t4 hf h11 k11 e_0 e_1 e_2 e_3 e_4 e_5 e_6 e_7 e_8 e_9 e_10 b_0 b_1 b_2 b_3 b_4 b_5 b_6 b_7 b_8 b_9 b_10 b_11 b_12 b_13 b_14 m_0 m_1 m_2 m_3 lB l1 l5 HO5 HY5 HM5 HR5 U5
              have hcs := (HR6.out.lsB k _ EC.out).b11
              obtain ⟨e_0, e_1, e_2, e_3, e_4, e_5, e_6, e_7, e_8, e_9, e_10⟩ := hcs
              simp only [Nat.zero_add] at e_0 e_1 e_2 e_3 e_4 e_5 e_6 e_7 e_8 e_9 e_10
              have lB : gB < w11.heap.size := HR6.out.here
              have fB : ∀ j, w11.frozen? ⟨gB, j, none⟩ = false := HR6.out.free
              obtain ⟨W7, eW7⟩ : ∃ V, V = (w11.setCell ⟨gB, k * 11 + 3, none⟩ (.int .i64 r1)).setCell ⟨gB, k * 11 + 4, none⟩ (.int .i64 r2) := ⟨_, rfl⟩
              have hR7 : RowL encB 11 W7 gB 35 nB ((curB xid xvx xvy xsp e2.bs k).set k (⟨z0, z1, z2, r1, r2, z5, z6, z7, z8, z9, z10, z11, z12, z13⟩ : Bd)) := by
                rw [eW7]
                refine HR6.out.part encB_len EC.out 3 [.int .i64 r1, .int .i64 r2] (by simp) (fun b v hv => ?_)
                have hb : b < 11 := by rw [← encB_len (⟨z0, z1, z2, r1, r2, z5, z6, z7, z8, z9, z10, z11, z12, z13⟩ : Bd)]; exact (List.getElem?_eq_some_iff.1 hv).1
                match b, hb with
                | 0, _ => exact hv
                | 1, _ => exact hv
                | 2, _ => exact hv
                | 3, _ => exact hv
                | 4, _ => exact hv
                | 5, _ => exact hv
                | 6, _ => exact hv
                | 7, _ => exact hv
                | 8, _ => exact hv
                | 9, _ => exact hv
                | 10, _ => exact hv
              have k7 : BuB (fun b => b = gB) w11 W7 := by rw [eW7]; exact ((BuB.rfl_ (fun b => b = gB) w11).put (p := ⟨gB, k * 11 + 3, none⟩) (.inl rfl) _).put (p := ⟨gB, k * 11 + 4, none⟩) (.inl rfl) _
              have HO7 := hid (HO6.out.bub k7 (by show ¬ go = gB; omega))
              have HY7 := hid (HY6.out.bub k7 HN2.out)
              have HM7 := hid (HM6.out.bub k7 (fun h => h5B h.symm))
              have U7 : Hid (BuB (fun b => b = gB) w8 W7) := U6.out.then_ k7
              have HR7 := hid hR7
              have EB7 : Hid (((curB xid xvx xvy xsp e2.bs k).set k (⟨z0, z1, z2, r1, r2, z5, z6, z7, z8, z9, z10, z11, z12, z13⟩ : Bd))[k]? = some (⟨z0, z1, z2, r1, r2, z5, z6, z7, z8, z9, z10, z11, z12, z13⟩ : Bd)) := List.getElem?_set_self (by rw [curB_len, HSm2.out.1, HE.out.1]; exact hkn)
              go_upto_region 30 with fail
              rw [← eW7]
              clear eW7 hR7 k7 e_0 e_1 e_2 e_3 e_4 e_5 e_6 e_7 e_8 e_9 e_10 lB fB HO6 HY6 HM6 HR6 U6
              have b_0 := HO7.out.at_ 0
              have b_1 := HO7.out.at_ 1
              have b_2 := HO7.out.at_ 2
              have b_3 := HO7.out.at_ 3
              have b_4 := HO7.out.at_ 4
              have b_5 := HO7.out.at_ 5
              have b_6 := HO7.out.at_ 6
              have b_7 := HO7.out.at_ 7
              have b_8 := HO7.out.at_ 8
              have b_9 := HO7.out.at_ 9
              have b_10 := HO7.out.at_ 10
              have b_11 := HO7.out.at_ 11
              have b_12 := HO7.out.at_ 12
              have b_13 := HO7.out.at_ 13
              have b_14 := HO7.out.at_ 14
              simp at b_0 b_1 b_2 b_3 b_4 b_5 b_6 b_7 b_8 b_9 b_10 b_11 b_12 b_13 b_14
              have l1 : go < W7.heap.size := HO7.out.here
              have m_0 := HM7.out.at_ 0
              have m_1 := HM7.out.at_ 1
              have m_2 := HM7.out.at_ 2
              have m_3 := HM7.out.at_ 3
              simp at m_0 m_1 m_2 m_3
              have l5 : g5 < W7.heap.size := HM7.out.here
              have hcs := (HR7.out.lsB k _ EB7.out).b11
              obtain ⟨e_0, e_1, e_2, e_3, e_4, e_5, e_6, e_7, e_8, e_9, e_10⟩ := hcs
              simp only [Nat.zero_add] at e_0 e_1 e_2 e_3 e_4 e_5 e_6 e_7 e_8 e_9 e_10
              have lB : gB < W7.heap.size := HR7.out.here
              refine reg_made_tail 14 (by kernel_rfl) (by kernel_rfl) ?_
              intro Ty hT fw hf
              have t0 := Class.reads hf e_6
              have t2 := Class.reads hf b_9
              have t4 := Class.reads hf m_3
              simp only [List.take_succ_cons, List.take_zero, List.drop_succ_cons, List.drop_zero]
              repeat (go_big_quiet_step ((first
                | (go_at_call 28; with_reducible exact hf.same (HC4.out _))
                | (go_at_call 27; with_reducible exact hf.same (HC5.out _))
                | (go_at_call 26; with_reducible exact hf.same (HC6.out _)))))
              refine wpQuiet_nil ?_
              intro w12 h12
              have k12 := hf.here h12
              have HY8' := hid (HY7.out.stays k12 HY7.out.here)
              have HR8' := hid (HR7.out.stays k12 HR7.out.here)
              have U8 : Hid (BuB (fun b => b = gB) w8 w12) := U7.out.then_ (Made.bub k12)
              clear t0 t2 t4 hf h12 k12 e_0 e_1 e_2 e_3 e_4 e_5 e_6 e_7 e_8 e_9 e_10 b_0 b_1 b_2 b_3 b_4 b_5 b_6 b_7 b_8 b_9 b_10 b_11 b_12 b_13 b_14 m_0 m_1 m_2 m_3 lB l1 l5 HO7 HY7 HM7 HR7 U7
              have hcs := (HR8'.out.lsB k _ EB7.out).b11
              obtain ⟨e_0, e_1, e_2, e_3, e_4, e_5, e_6, e_7, e_8, e_9, e_10⟩ := hcs
              simp only [Nat.zero_add] at e_0 e_1 e_2 e_3 e_4 e_5 e_6 e_7 e_8 e_9 e_10
              have lB : gB < w12.heap.size := HR8'.out.here
              have fB : ∀ j, w12.frozen? ⟨gB, j, none⟩ = false := HR8'.out.free
              obtain ⟨W9, eW9⟩ : ∃ V, V = w12.setCell ⟨gB, k * 11 + 6, none⟩ (.int .i64 r3) := ⟨_, rfl⟩
              have hR9 : RowL encB 11 W9 gB 35 nB (((curB xid xvx xvy xsp e2.bs k).set k (⟨z0, z1, z2, r1, r2, z5, z6, z7, z8, z9, z10, z11, z12, z13⟩ : Bd)).set k (⟨z0, z1, z2, r1, r2, z5, r3, z7, z8, z9, z10, z11, z12, z13⟩ : Bd)) := by
                rw [eW9]
                refine HR8'.out.part encB_len EB7.out 6 [.int .i64 r3] (by simp) (fun b v hv => ?_)
                have hb : b < 11 := by rw [← encB_len (⟨z0, z1, z2, r1, r2, z5, r3, z7, z8, z9, z10, z11, z12, z13⟩ : Bd)]; exact (List.getElem?_eq_some_iff.1 hv).1
                match b, hb with
                | 0, _ => exact hv
                | 1, _ => exact hv
                | 2, _ => exact hv
                | 3, _ => exact hv
                | 4, _ => exact hv
                | 5, _ => exact hv
                | 6, _ => exact hv
                | 7, _ => exact hv
                | 8, _ => exact hv
                | 9, _ => exact hv
                | 10, _ => exact hv
              rw [List.set_set, ← HPu.out, curB_next xid xvx xvy xsp EZ.out] at hR9
              have k9 : BuB (fun b => b = gB) w12 W9 := by rw [eW9]; exact (BuB.rfl_ (fun b => b = gB) w12).put (p := ⟨gB, k * 11 + 6, none⟩) (.inl rfl) _
              have HY9 := hid (HY8'.out.bub k9 HN2.out)
              have U9 : Hid (BuB (fun b => b = gB) w8 W9) := U8.out.then_ k9
              have HR9 := hid hR9
              have HEW := hid eW9
              clear eW9 hR9 k9
              go_wp2_with fail
              rw [← HEW.out]
              go_roundg (nB - (k + 1))
              case measure => omega
              case rel => exact ⟨k + 1, by omega, by go_num, U9.out, HY9.out, fun _ => HR9.out⟩
          · have hq1 : (z0 != xid) = true := by simpa using hiz
            have HNO : Hid (¬ (z0 = xid ∧ z7 ≠ 0)) := fun h => hiz h.1
            clear hiz
            refine reg_made (by kernel_rfl) (by kernel_rfl) ?_
            intro Ty hT fw hf
            have t0 := Class.reads hf e_0
            have t7 := Class.reads hf e_7
            have t1 := Class.reads hf x_1
            repeat (go_big_quiet_step (first | rfl | fail))
            refine wpQuiet_nil ?_
            intro w9 h9
            have K9 := hid (hf.here h9)
            clear t0 t7 t1 hf h9 e_0 e_1 e_2 e_3 e_4 e_5 e_6 e_7 e_8 e_9 e_10 y0 y1 y2 y3 y4 y5 y6 y7 x_0 x_1 x_2 x_3 x_4 x_5 x_6 x_7 x_8 x_9 x_10 x_11 x_12 x_13 x_14 ly lx lB
            go_wp2_with fail
            go_roundg (nB - (k + 1))
            case measure => omega
            case rel =>
              refine ⟨k + 1, by omega, by go_num, HU.out.then_ (Made.bub K9.out), HYr.out.stays K9.out HYr.out.here, fun hn => ?_⟩
              rw [curB_skip EZ.out (if_neg HNO.out)]
              exact HRw.out.stays K9.out HRw.out.here
        · have hke : k = nB := by omega
          go_wp2_with fail
          go_meet
          have hlen : (curB xid xvx xvy xsp e2.bs k).length = nB := by rw [curB_len, HSm2.out.1, HE.out.1]
          have hall : curB xid xvx xvy xsp e2.bs k = e2.bs.map (pushOne xid xvx xvy xsp) := curB_all _ _ _ _ _ (by rw [HSm2.out.1, HE.out.1]; exact hke.symm)
          have hYU : BuB (fun b => b = g2 ∨ (q2 ≤ b ∧ b < e2.hi)) w8 wr := HU.out.up (fun b hb hg => by
            have hg : b = gB := hg
            rcases Nat.eq_zero_or_pos nB with h | h
            · exact .inl (hg.trans (HgB0.out h))
            · obtain ⟨_, h2, _⟩ := HgB.out h
              exact .inr (by rw [hg]; exact h2))
          obtain ⟨P0, hpx, e0'⟩ := exec5_of rfl HEx.out
          refine ⟨rfl, ⟨0, 0, 0, ⟨nb, nj, e2.bs.map (pushOne xid xvx xvy xsp), P.J, []⟩⟩, ⟨ob2, oj2, none, cb2, cj2, 0, ?_, ⟨⟨?_, ?_, fun h => absurd h (by simp), fun y hy => ?_, HY8.out.at_.iJ, fun c hc => by simp at hc⟩, ?_, HY8.out.okJ, HY8.out.okC, fun hn b off s e hb => ?_, fun hn b off s e hb => ?_, fun h => absurd h (by simp), fun y hy hn => ?_, fun y hy => ?_⟩⟩, ?_, hYU⟩
          · show Has wr g2 49 #[.int .i64 0, .int .i64 nb, .int .i64 nj, .int .i64 0, .int .i64 0, .slice ob2 (e2.bs.map (pushOne xid xvx xvy xsp)).length cb2, .slice oj2 P.J.length cj2, .slice none 0 0]
            rw [List.length_map, HSm2.out.1, HE.out.1, HE.out.2.1]
            exact HYr.out
          · intro hn
            have hn : 0 < nB := by rw [List.length_map, HSm2.out.1, HE.out.1] at hn; exact hn
            have hr := HRr.out hn
            rw [hall] at hr
            rw [(HgB.out hn).1]
            exact hr.lsT (by rw [List.length_map, HSm2.out.1, HE.out.1]; exact hn)
          · exact HY8.out.at_.lJ.bub HU.out (fun h0 b off s e hb => by
              have hb : b = gB := hb
              rcases Nat.eq_zero_or_pos nB with h | h
              · have h1 : ¬ (b < q2 ∨ e2.hi ≤ b) := HY8.out.offJ h0 b off s e
                have h2 := HgB0.out h
                have h3 := HAp.out
                omega
              · exact HAj2.out h (by rw [← HE.out.2.1]; exact h0) gB _ _ _ _ (HgB.out h).1 (by rw [e, hb]))
          · obtain ⟨z, hz, h1, h2, h3, h4, h5⟩ := pushOne_mem hy
            obtain ⟨s1, s2⟩ := HY8.out.at_.sB z hz
            rw [h1, h2, h4]
            refine ⟨s1.bub HU.out (fun hn b off s e hb => ?_), h5 s2⟩
            have hb : b = gB := hb
            rcases (HMi2.out z hz).2 with ⟨_, h7, _⟩ | ⟨g, h7, _, h8, _⟩
            · omega
            · have h9 : ¬ (b < q2 ∨ e2.hi ≤ b) := HY8.out.offP z hz hn b off s e
              rw [h7] at e
              cases e
              rcases Nat.eq_zero_or_pos nB with h | h
              · have h2 := HgB0.out h
                have h3 := HAp.out
                omega
              · exact h8 (.inl (by rw [hb]; exact (HgB.out h).1))
          · show SlOk ob2 (e2.bs.map (pushOne xid xvx xvy xsp)).length cb2
            rw [List.length_map]
            exact HY8.out.okB
          · have hb : b = g2 := hb
            have h1 : ¬ (b < q2 ∨ e2.hi ≤ b) := HY8.out.offB (by rw [List.length_map] at hn; exact hn) b off s e
            have h3 := HAp.out
            omega
          · have hb : b = g2 := hb
            have h1 : ¬ (b < q2 ∨ e2.hi ≤ b) := HY8.out.offJ hn b off s e
            have h3 := HAp.out
            omega
          · obtain ⟨z, hz, h1, h2, h3, h4, h5⟩ := pushOne_mem hy
            intro b off s e hb
            have hb : b = g2 := hb
            have h9 : ¬ (b < q2 ∨ e2.hi ≤ b) := HY8.out.offP z hz (by rw [← h2]; exact hn) b off s (by rw [← h1]; exact e)
            have h3 := HAp.out
            omega
          · obtain ⟨z, hz, h1, h2, h3, h4, h5⟩ := pushOne_mem hy
            rw [h1, h2, h3]
            exact HY8.out.okP z hz
          · rw [e0']
            exact push_same HEq.out HK1.out.p hpx
    · have y0 := HZ2.out.at_ 0
      have y1 := HZ2.out.at_ 1
      have y2 := HZ2.out.at_ 2
      have y3 := HZ2.out.at_ 3
      have y4 := HZ2.out.at_ 4
      have y5 := HZ2.out.at_ 5
      have y6 := HZ2.out.at_ 6
      have y7 := HZ2.out.at_ 7
      simp at y0 y1 y2 y3 y4 y5 y6 y7
      have ly : g2 < w8.heap.size := HZ2.out.here
      have fy : ∀ i, w8.frozen? ⟨g2, i, none⟩ = false := HZ2.out.free
      obtain ⟨V, eV⟩ : ∃ V, V = (w8.setCell ⟨g2, 3, none⟩ (.int .i64 xvx)).setCell ⟨g2, 4, none⟩ (.int .i64 xvy) := ⟨_, rfl⟩
      have kV : But (fun b => b = g2) w8 V := by rw [eV]; exact ((But.rfl_ (fun b => b = g2) w8).put (p := ⟨g2, 3, none⟩) (.inl rfl) _).put (p := ⟨g2, 4, none⟩) (.inl rfl) _
      have hV : Has V g2 49 #[.int .i64 0, .int .i64 nb, .int .i64 nj, .int .i64 xvx, .int .i64 xvy, .slice ob2 nB cb2, .slice oj2 nJ cj2, .slice none 0 0] := by rw [eV]; exact (HZ2.out.put 3 _).put 4 _
      have HHv := hid hV
      have HHk := hid kV
      have HEV := hid eV
      clear eV kV hV
      go_wp2_with fail
      go_meet
      rw [← HEV.out]
      obtain ⟨o1, o2, o3, c1, c2, c3, _, hl⟩ := HVy.out
      have hl2 := (HY8.out.free (Y := fun b => b = g2) (fun b hb => by
        have hb : b = g2 := hb
        have h := HAp.out
        show (b < q2 ∨ e2.hi ≤ b) ∨ _
        omega)).bub HHk.out.bub (fun b hb => hb)
      refine ⟨rfl, ⟨0, xvx, xvy, ⟨nb, nj, e2.bs, P.J, []⟩⟩, ⟨ob2, oj2, none, cb2, cj2, 0, ?_, hl2⟩, ?_, HHk.out.bub.up (fun b _ hb => .inl hb)⟩
      · show Has V g2 49 #[.int .i64 0, .int .i64 nb, .int .i64 nj, .int .i64 xvx, .int .i64 xvy, .slice ob2 e2.bs.length cb2, .slice oj2 P.J.length cj2, .slice none 0 0]
        rw [HSm2.out.1, HE.out.1, HE.out.2.1]
        exact HHv.out
      · rw [exec6_of rfl HEx.out]
        obtain ⟨_, _, _, h4, h5, h6, h7, h8⟩ := HEq.out
        exact ⟨rfl, rfl, rfl, h4, h5, h6, h7, h8⟩
  case rest =>
    obtain ⟨rfl, Gy, HH⟩ := hcut
    have HVy := hid HH.out.1
    have HEy := hid HH.out.2.1
    have U := hid HH.out.2.2
    clear HH HAb HAj HJo HJi HR8 HDsl HD8 HO8
    have hgq0 : ¬ (g1 = g2 ∨ (q2 ≤ g1 ∧ g1 < e2.hi)) ∧ ¬ (g0 = g2 ∨ (q2 ≤ g0 ∧ g0 < e2.hi)) := by have h := HAp.out; omega
    have HVx9 : Hid (GV (fun b => b = g1 ∨ b = g2 ∨ (q2 ≤ b ∧ b < e2.hi)) wc g1 Gx) := WVar.bub HVx.out U.out (fun b hb => .inr hb) hgq0.1
    have HW9 : Hid (Has wc gw 49 #[.int .i64 0, .int .i64 nb, .int .i64 nj, .int .i64 0, .int .i64 0, .slice ob nB cb, .slice oj nJ cj, .slice none 0 0]) := HW8.out.bub U.out (by show ¬ (gw = g2 ∨ (q2 ≤ gw ∧ gw < e2.hi)); omega)
    have HL9 := hid (HL8.out.bub U.out (fun b hb => by have hb : b = g2 ∨ (q2 ≤ b ∧ b < e2.hi) := hb; show gw ≤ b; omega))
    have HA9 := hid (HA8.out.bub U.out (fun b hb => by have hb : b = g2 ∨ (q2 ≤ b ∧ b < e2.hi) := hb; have h := HAp.out; have h2 := HAQ.out.2; show b < q0 ∨ e0.hi ≤ b; omega))
    have HZ9 := hid (HZ0.out.bub U.out hgq0.2)
    have KB : Hid (Below w.heap.size w wc) := BuB.below_ K8.out U.out K8.out.size (fun b hb => by have hb : b = g2 ∨ (q2 ≤ b ∧ b < e2.hi) := hb; omega)
    have hB4 : nB ≤ 1024 := by have h1 := OK.out.hB.len; have h2 := HE.out.1; omega
    have hJ4 : nJ ≤ 1024 := by have h1 := OK.out.hJ.len; have h2 := HE.out.2.1; omega
    clear HW8 HL8 HA8 HZ0 HZ2 HY8 HVx HK2 HMi2 HAj2 HJn2 U K8 HOP HXI HK1 HEq hgq0
    obtain ⟨a1, a2, a3, c1, c2, c3, hx, hlx⟩ := HVx9.out
    obtain ⟨u1, u2, u3, v1, v2, v3, hy, hly⟩ := HVy.out
    have HC0 : Hid (Gx.P.C.length ≤ 0) := exec_C HEx.out
    obtain ⟨E1, E2, E3, E4, E5, E6, E7, E8⟩ := HEy.out
    obtain ⟨lb, elb⟩ : ∃ z, Gx.P.B.length = z := ⟨_, rfl⟩
    obtain ⟨lj, elj⟩ : ∃ z, Gx.P.J.length = z := ⟨_, rfl⟩
    obtain ⟨lc, elc⟩ : ∃ z, Gx.P.C.length = z := ⟨_, rfl⟩
    have elb2 : Gy.P.B.length = lb := by rw [← E6.1]; exact elb
    have elj2 : Gy.P.J.length = lj := by rw [← E7]; exact elj
    have elc2 : Gy.P.C.length = lc := by rw [← E8]; exact elc
    rw [elb, elj, elc] at hx
    rw [elb2, elj2, elc2, ← E1, ← E2, ← E3, ← E4, ← E5] at hy
    have hlb : lb ≤ 1024 := by rw [← elb]; exact HKx.out.hB.len
    have hlj : lj ≤ 1024 := by rw [← elj]; exact HKx.out.hJ.len
    have hlc : lc ≤ 0 := by rw [← elc]; exact HC0.out
    have HSa := hid (fun v (k : Made wc.heap.size wc v) => wsame_c true Gx.tk Gx.P.nb Gx.P.nj Gx.gx Gx.gy Gx.tk Gx.P.nb Gx.P.nj Gx.gx Gx.gy a1 a2 a3 u1 u2 u3 lb c1 lj c2 lc c3 lb v1 lj v2 lc v3 (hlx.at_.kept k) (hly.at_.kept k) ⟨elb, elj, elc⟩ ⟨elb2, elj2, elc2⟩ ⟨by omega, by omega, by omega⟩ (fun b hb => by have := right_n (HKx.out.hB.all b hb).shape; omega) ⟨fun _ => ⟨rfl, rfl, rfl, ⟨rfl, rfl⟩, E6, E7, E8⟩, fun _ => rfl⟩)
    have igx : I64 Gx.gx ∧ I64 Gx.gy := by have h1 := HKx.out.gx; have h2 := HKx.out.gy; unfold Inn at h1 h2; unfold I64; omega
    have HRt := hid (fun v (k : Made wc.heap.size wc v) => wright_c Gx.tk Gx.P.nb Gx.P.nj Gx.gx Gx.gy a1 a2 a3 lb c1 lj c2 lc c3 true elb (by omega) elj (by omega) elc (by omega) (hlx.at_.kept k) igx.1 igx.2 ⟨fun _ => HKx.out, fun _ => rfl⟩)
    have HSb := hid (fun v (k : Made wc.heap.size wc v) => wsame_c true 0 nb nj 0 0 0 nb nj 0 0 ob oj none ob0 oj0 none nB cb nJ cj 0 0 nB cb0 nJ cj0 0 0 (HL9.out.at_.kept k) (HA9.out.at_.kept k) ⟨HE.out.1, HE.out.2.1, rfl⟩ ⟨HSm0.out.1.trans HE.out.1, HE.out.2.1, rfl⟩ ⟨by omega, by omega, by omega⟩ (fun b hb => by have := n8_of OK.out b hb; omega) (iff_of_true rfl ⟨rfl, rfl, rfl, ⟨rfl, rfl⟩, SameBs.eq HSm0.out, rfl, rfl⟩))
    obtain ⟨tk, etk⟩ : ∃ z, Gx.tk = z := ⟨_, rfl⟩
    obtain ⟨xnb, exnb⟩ : ∃ z, Gx.P.nb = z := ⟨_, rfl⟩
    obtain ⟨xnj, exnj⟩ : ∃ z, Gx.P.nj = z := ⟨_, rfl⟩
    obtain ⟨xgx, exgx⟩ : ∃ z, Gx.gx = z := ⟨_, rfl⟩
    obtain ⟨xgy, exgy⟩ : ∃ z, Gx.gy = z := ⟨_, rfl⟩
    rw [etk, exnb, exnj, exgx, exgy] at hx hy HSa HRt
    have HX := hid hx
    have HY := hid hy
    clear hx hy hlx hly E1 E2 E3 E4 E5 E6 E7 E8 elb elj elc elb2 elj2 elc2 etk exnb exnj exgx exgy HVx9 HVy HEy HKx HEx HC0 HL9 HA9 igx hlb hlj hlc
    have x_0 := HX.out.at_ 0
    have x_1 := HX.out.at_ 1
    have x_2 := HX.out.at_ 2
    have x_3 := HX.out.at_ 3
    have x_4 := HX.out.at_ 4
    have x_5 := HX.out.at_ 5
    have x_6 := HX.out.at_ 6
    have x_7 := HX.out.at_ 7
    simp at x_0 x_1 x_2 x_3 x_4 x_5 x_6 x_7
    have lx : g1 < wc.heap.size := HX.out.here
    have y0 := HY.out.at_ 0
    have y1 := HY.out.at_ 1
    have y2 := HY.out.at_ 2
    have y3 := HY.out.at_ 3
    have y4 := HY.out.at_ 4
    have y5 := HY.out.at_ 5
    have y6 := HY.out.at_ 6
    have y7 := HY.out.at_ 7
    simp at y0 y1 y2 y3 y4 y5 y6 y7
    have ly : g2 < wc.heap.size := HY.out.here
    go_wp2_with fail
    refine (HSa.out _ (Made.rfl_ _ _)).mono ?_
    rintro e w10 ⟨rfl, k10⟩
    have HX1 := hid (HX.out.stays k10 HX.out.here)
    have HK10 := hid k10
    clear x_0 x_1 x_2 x_3 x_4 x_5 x_6 x_7 y0 y1 y2 y3 y4 y5 y6 y7 lx ly HSa
    have x_0 := HX1.out.at_ 0
    have x_1 := HX1.out.at_ 1
    have x_2 := HX1.out.at_ 2
    have x_3 := HX1.out.at_ 3
    have x_4 := HX1.out.at_ 4
    have x_5 := HX1.out.at_ 5
    have x_6 := HX1.out.at_ 6
    have x_7 := HX1.out.at_ 7
    simp at x_0 x_1 x_2 x_3 x_4 x_5 x_6 x_7
    have lx : g1 < w10.heap.size := HX1.out.here
    go_wp2_with fail
    refine (HRt.out _ HK10.out).mono ?_
    rintro e w11 ⟨rfl, k11⟩
    have HK11 := hid (HK10.out.then_ (k11.low HK10.out.1.size))
    have HW11 := hid (HW9.out.stays HK11.out HW9.out.here)
    have HZ11 := hid (HZ9.out.stays HK11.out HZ9.out.here)
    clear x_0 x_1 x_2 x_3 x_4 x_5 x_6 x_7 lx k11 HRt HX1
    have b0 := HW11.out.at_ 0
    have b1 := HW11.out.at_ 1
    have b2 := HW11.out.at_ 2
    have b3 := HW11.out.at_ 3
    have b4 := HW11.out.at_ 4
    have b5 := HW11.out.at_ 5
    have b6 := HW11.out.at_ 6
    have b7 := HW11.out.at_ 7
    simp at b0 b1 b2 b3 b4 b5 b6 b7
    have lw : gw < w11.heap.size := HW11.out.here
    have y0 := HZ11.out.at_ 0
    have y1 := HZ11.out.at_ 1
    have y2 := HZ11.out.at_ 2
    have y3 := HZ11.out.at_ 3
    have y4 := HZ11.out.at_ 4
    have y5 := HZ11.out.at_ 5
    have y6 := HZ11.out.at_ 6
    have y7 := HZ11.out.at_ 7
    simp at y0 y1 y2 y3 y4 y5 y6 y7
    have lz : g0 < w11.heap.size := HZ11.out.here
    go_wp2_with fail
    refine (HSb.out _ HK11.out).mono ?_
    rintro e w12 ⟨rfl, k12⟩
    have KZ := hid (KB.out.trans ((HK11.out.then_ (k12.low HK11.out.1.size)).1.mono KB.out.size))
    clear k12 b0 b1 b2 b3 b4 b5 b6 b7 y0 y1 y2 y3 y4 y5 y6 y7 lw lz
    go_wp2_with fail
    go_ret
    exact ⟨rfl, KZ.out⟩
end Go.Proofs.YtfncelifflebbaaGreat.Fx

