/- OrS -/
import Derived.Test.YtfncelifflebbaaGreatQ25
import Derived.Test.YtfncelifflebbaaGreatQ27
import Derived.Test.YtfncelifflebbaaGreatQ28

/- OrderRights. -/



namespace Go.Proofs.YtfncelifflebbaaGreat.Fx
open Go.ChangeShapes Go.WideShapes Go.ChangeAt Go.RowKit
set_option linter.unusedVariables false

theorem i64_wrap (z : Int) : I64 (wrap64 z) := by
  have h := wrap64_wf z
  simp [Lit.wf, IntKind.min, IntKind.max, IntKind.bits, IntKind.signed] at h
  unfold I64
  omega
set_option maxRecDepth 100000 in
set_option maxHeartbeats 64000000 in
theorem orights_walk (kd id a b x y vx vy an sp de ln k r : Int) (ao : Option Addr) (n c : Nat) (f : Cs) (cs : List Value) (d : De) (ecs : encD d = cs) (spoil : Int) (w : World) (hoi : OrI ⟨kd, id, a, b, x, y, vx, vy, an, sp, de, ln, k, r, ao, n, c, f⟩) (hos : Sl w ao n f) (hdi : DeI d) (hds : Sl w d.rao d.rn d.rf) :
    Calls Tryz.prog 3 #[.agg #[.int .i64 kd, .int .i64 id, .int .i64 a, .int .i64 b, .int .i64 x, .int .i64 y, .int .i64 vx, .int .i64 vy, .int .i64 an, .int .i64 sp, .int .i64 de, .int .i64 ln, .int .i64 k, .int .i64 r, .slice ao n c], .agg cs.toArray, .int .i64 spoil] w fun e v => e = .returned (.bool true) ∧ Made w.heap.size w v := by
  have hlen : cs.length = 30 := by rw [← ecs]; exact encD_len d
  have HLEN := hid hlen
  have HCS : Hid (deV d = .agg cs.toArray) := by unfold Hid; rw [← ecs]; rfl
  have H29 : Hid (cs.toArray[29]? = some (.slice d.rao d.rn d.rc)) := by unfold Hid; rw [← ecs]; rfl
  obtain ⟨bd, hbd, hbn, hB⟩ := dorder_c d hdi
  have HB := hid hB
  have HBn := hid hbn
  have HBd := hid hbd
  have HDI := hid hdi
  have HOI := hid hoi
  have HOS : Hid (∀ v, Made w.heap.size w v → Sl v ao n f) := fun v k hn => by obtain ⟨b, off, e, hp⟩ := hos hn; exact ⟨b, off, e, hp.kept k⟩
  have HDS : Hid (∀ v, Made w.heap.size w v → Sl v d.rao d.rn d.rf) := fun v k hn => by obtain ⟨b, off, e, hp⟩ := hds hn; exact ⟨b, off, e, hp.kept k⟩
  clear hlen ecs hB hbd hbn hdi hoi hos hds
  obtain ⟨W, eW⟩ : ∃ W, W = (w.alloc (.cells #[.int .i64 kd, .int .i64 id, .int .i64 a, .int .i64 b, .int .i64 x, .int .i64 y, .int .i64 vx, .int .i64 vy, .int .i64 an, .int .i64 sp, .int .i64 de, .int .i64 ln, .int .i64 k, .int .i64 r, .slice ao n c] 29)).alloc (.cells cs.toArray 37) := ⟨_, rfl⟩
  have KW : Hid (Made w.heap.size w W) := by unfold Hid; rw [eW]; exact ((Made.rfl_ _ _).cells (Nat.le_refl _) _ _).cells (by simp) _ _
  have HO : Hid (Has W w.heap.size 29 #[.int .i64 kd, .int .i64 id, .int .i64 a, .int .i64 b, .int .i64 x, .int .i64 y, .int .i64 vx, .int .i64 vy, .int .i64 an, .int .i64 sp, .int .i64 de, .int .i64 ln, .int .i64 k, .int .i64 r, .slice ao n c]) := by unfold Hid; rw [eW]; exact (has_new _ _ _).more _
  have HD : Hid (Has W (w.heap.size + 1) 37 cs.toArray) := by unfold Hid; rw [eW]; exact has_nxt' _ _ _ _
  obtain ⟨g1, eg1⟩ : ∃ g, w.heap.size = g := ⟨_, rfl⟩
  obtain ⟨g2, eg2⟩ : ∃ g, g1 + 1 = g := ⟨_, rfl⟩
  have HG : Hid (w.heap.size = g1 ∧ g1 + 1 = g2) := ⟨eg1, eg2⟩
  rw [eg1] at HO
  rw [eg1, eg2] at HD
  go_enter Tryz.func3, Tryz.ntmps3
  go_upto_region 1 with fail
  rw [← eW]
  clear eW
  try rw [eg1]
  try rw [eg2]
  clear eg1 eg2
  go_wp2_with fail
  refine (fit10_c _).mono ?_
  rintro e w1 ⟨rfl, k1⟩
  have K1 := hid (KW.out.then_ (k1.low KW.out.1.size))
  have HO1 := hid (HO.out.stays k1 HO.out.here)
  have HD1 := hid (HD.out.stays k1 HD.out.here)
  clear k1 HO HD KW
  have o14 := HO1.out.at_ 14
  simp at o14
  have d29 : w1.cell? ⟨g2, 29, none⟩ = some (.slice d.rao d.rn d.rc) := by rw [HD1.out.at_]; exact H29.out
  have lo : g1 < w1.heap.size := HO1.out.here
  have ld : g2 < w1.heap.size := HD1.out.here
  by_cases h12 : 12 < n
  · go_wp2_with fail
    go_ret
    exact ⟨rfl, K1.out⟩
  by_cases h13 : 12 < d.rn
  · go_wp2_with fail
    go_ret
    exact ⟨rfl, K1.out⟩
  have HRg : Hid (w1.rangeAt g2 0 cs) := fun j v hv => by rw [Nat.zero_add, HD1.out.at_]; simpa using hv
  have HOR := hid (HB.out w1 (HDS.out w1 K1.out))
  rw [HCS.out] at HOR
  go_wp2_with (refine wpList_load_mid rfl 37 (.tmp 4) rfl g2 0 rfl cs _ HRg.out Tryz.underlying37 rfl (by rw [HLEN.out]; kernel_rfl) ?_)
  refine HOR.out.mono ?_
  rintro e w2 ⟨ao2, c2, rfl, hsl2, hok2, k2⟩
  have hx1 : OrI (ordOf (d.kd % 8) (d.a % 16) (bringF d.vx (negF 858993459200) 858993459200) (bringF d.vy (negF 858993459200) 858993459200) (bringF d.sp (-858993459200) 858993459200) (bringF d.vx (negF 214748364800) 214748364800) (bringF d.vy (negF 214748364800) 214748364800) (jointOf d) { bd with ao := ao2, c := c2 }) := by
    have iM : I64 858993459200 := by unfold I64; omega
    have iN : I64 (-858993459200) := by unfold I64; omega
    have jM : I64 214748364800 := by unfold I64; omega
    have jN : I64 (-214748364800) := by unfold I64; omega
    exact ordOf_i (by unfold I64; omega) (bring_I HDI.out.vx (by exact iN) iM) (bring_I HDI.out.vy (by exact iN) iM) (bring_I HDI.out.sp iN iM) (bring_I HDI.out.vx (by exact jN) jM) (bring_I HDI.out.vy (by exact jN) jM) (jointOf_i HDI.out) ⟨HBd.out.id, HBd.out.x, HBd.out.y, HBd.out.vx, HBd.out.vy, HBd.out.an, HBd.out.sp, HBd.out.de, HBd.out.k, HBd.out.r, HBd.out.f⟩
  have hx2 : (ordOf (d.kd % 8) (d.a % 16) (bringF d.vx (negF 858993459200) 858993459200) (bringF d.vy (negF 858993459200) 858993459200) (bringF d.sp (-858993459200) 858993459200) (bringF d.vx (negF 214748364800) 214748364800) (bringF d.vy (negF 214748364800) 214748364800) (jointOf d) { bd with ao := ao2, c := c2 }).n ≤ 12 := by
    have := HBn.out
    unfold ordOf
    split
    · exact Nat.zero_le _
    · split
      · exact Nat.zero_le _
      · split
        · exact Nat.zero_le _
        · split
          · exact Nat.zero_le _
          · split
            · exact Nat.zero_le _
            · show bd.n ≤ 12; omega
  obtain ⟨xx, ex⟩ : ∃ x, ordOf (d.kd % 8) (d.a % 16) (bringF d.vx (negF 858993459200) 858993459200) (bringF d.vy (negF 858993459200) 858993459200) (bringF d.sp (-858993459200) 858993459200) (bringF d.vx (negF 214748364800) 214748364800) (bringF d.vy (negF 214748364800) 214748364800) (jointOf d) { bd with ao := ao2, c := c2 } = x := ⟨_, rfl⟩
  rw [ex] at hsl2 hx1 hx2 ⊢
  clear ex
  obtain ⟨xkd, xid, xa, xb, xx, xy, xvx, xvy, xan, xsp, xde, xln, xk, xr, xo, xn, xc, xf⟩ := xx
  have HXI := hid hx1
  have HXN : Hid (xn ≤ 12) := hx2
  have HXS : Hid (Sl w2 xo xn xf) := hsl2
  have K2 := hid (K1.out.then_ (k2.low K1.out.1.size))
  have HO2 := hid (HO1.out.stays k2 HO1.out.here)
  clear hx1 hx2 hsl2 hok2 k2 HOR o14 d29 lo ld HRg HO1 HD1
  obtain ⟨W3, eW3⟩ : ∃ V, V = w2.alloc (.cells #[.int .i64 xkd, .int .i64 xid, .int .i64 xa, .int .i64 xb, .int .i64 xx, .int .i64 xy, .int .i64 xvx, .int .i64 xvy, .int .i64 xan, .int .i64 xsp, .int .i64 xde, .int .i64 xln, .int .i64 xk, .int .i64 xr, .slice xo xn xc] 29) := ⟨_, rfl⟩
  have k3 : Made w2.heap.size w2 W3 := by rw [eW3]; exact (Made.rfl_ _ _).cells (Nat.le_refl _) _ _
  have HX3 : Hid (Has W3 w2.heap.size 29 #[.int .i64 xkd, .int .i64 xid, .int .i64 xa, .int .i64 xb, .int .i64 xx, .int .i64 xy, .int .i64 xvx, .int .i64 xvy, .int .i64 xan, .int .i64 xsp, .int .i64 xde, .int .i64 xln, .int .i64 xk, .int .i64 xr, .slice xo xn xc]) := by unfold Hid; rw [eW3]; exact has_new _ _ _
  go_upto_region 6 with fail
  rw [← eW3]
  clear eW3
  have K3 := hid (K2.out.then_ (k3.low K2.out.1.size))
  have HO3 := hid (HO2.out.stays k3 HO2.out.here)
  have HS3 : Hid (Sl W3 xo xn xf) := fun hn => by obtain ⟨b, off, e, hp⟩ := HXS.out hn; exact ⟨b, off, e, hp.kept k3⟩
  have HSb : Hid (0 < xn → ∀ b off s, xo = some ⟨b, off, s⟩ → b < w2.heap.size) := fun hn b off s e => by
    obtain ⟨b', off', e', hp⟩ := HXS.out hn
    rw [e] at e'
    cases e'
    exact World.block_lt_of_cell? _ _ (hp 0 hn).1
  have hgx : w.heap.size ≤ w2.heap.size := K2.out.1.size
  have hox : g1 < w2.heap.size := HO2.out.here
  obtain ⟨gx, egx⟩ : ∃ g, w2.heap.size = g := ⟨_, rfl⟩
  rw [egx] at HX3 hgx hox ⊢
  rw [egx] at HSb
  clear egx k3 K2 HO2 HXS
  have q0 := HX3.out.at_ 0
  have q1 := HX3.out.at_ 1
  have q2 := HX3.out.at_ 2
  have q3 := HX3.out.at_ 3
  have q4 := HX3.out.at_ 4
  have q5 := HX3.out.at_ 5
  have q6 := HX3.out.at_ 6
  have q7 := HX3.out.at_ 7
  have q8 := HX3.out.at_ 8
  have q9 := HX3.out.at_ 9
  have q10 := HX3.out.at_ 10
  have q11 := HX3.out.at_ 11
  have q12 := HX3.out.at_ 12
  have q13 := HX3.out.at_ 13
  have q14 := HX3.out.at_ 14
  simp at q0 q1 q2 q3 q4 q5 q6 q7 q8 q9 q10 q11 q12 q13 q14
  have lx : gx < W3.heap.size := HX3.out.here
  have fx : ∀ i, W3.frozen? ⟨gx, i, none⟩ = false := HX3.out.free
  obtain ⟨K, eK⟩ : ∃ z, spoil % 16 = z := ⟨_, rfl⟩
  have aK := (and15 spoil).trans eK
  clear eK
  have HPut : Hid (∀ (i : Nat) (u : Value), But (fun b => b = gx) W3 (W3.setCell ⟨gx, i, none⟩ u)) := fun i u => (But.rfl_ (fun b => b = gx) W3).put (p := ⟨gx, i, none⟩) (.inl rfl) u
  have HEnd : Hid (∀ V, But (fun b => b = gx) W3 V → Made w.heap.size w V ∧ Has V g1 29 #[.int .i64 kd, .int .i64 id, .int .i64 a, .int .i64 b, .int .i64 x, .int .i64 y, .int .i64 vx, .int .i64 vy, .int .i64 an, .int .i64 sp, .int .i64 de, .int .i64 ln, .int .i64 k, .int .i64 r, .slice ao n c] ∧ Sl V xo xn xf) := fun V k => ⟨But.made_ K3.out k K3.out.1.size (fun b hb => by have hb : b = gx := hb; omega), HO3.out.but k (by show ¬ g1 = gx; omega), fun hn => by
    obtain ⟨b, off, e, hp⟩ := HS3.out hn
    have := HSb.out hn b off none e
    exact ⟨b, off, e, hp.but k (by show ¬ b = gx; omega)⟩⟩
  go_upto_block 0 with fail
  go_cut [6] (fun s6 wx => s6 = .bool false ∧ ∃ (ykd yid ya yb yx yy yvx yvy yan ysp yde yln yk yr : Int), Hid (Has wx gx 29 #[.int .i64 ykd, .int .i64 yid, .int .i64 ya, .int .i64 yb, .int .i64 yx, .int .i64 yy, .int .i64 yvx, .int .i64 yvy, .int .i64 yan, .int .i64 ysp, .int .i64 yde, .int .i64 yln, .int .i64 yk, .int .i64 yr, .slice xo xn xc] ∧ OrI ⟨ykd, yid, ya, yb, yx, yy, yvx, yvy, yan, ysp, yde, yln, yk, yr, xo, xn, xc, xf⟩ ∧ Made w.heap.size w wx ∧ Has wx g1 29 #[.int .i64 kd, .int .i64 id, .int .i64 a, .int .i64 b, .int .i64 x, .int .i64 y, .int .i64 vx, .int .i64 vy, .int .i64 an, .int .i64 sp, .int .i64 de, .int .i64 ln, .int .i64 k, .int .i64 r, .slice ao n c] ∧ Sl wx xo xn xf))
  case first =>
    by_cases k0 : K = 0
    · subst k0
      go_wp2_with fail
      go_meet
      exact ⟨rfl, xkd, _, xa, xb, xx, xy, xvx, xvy, xan, xsp, xde, xln, xk, xr, HX3.out.put 1 _, ⟨HXI.out.kd, i64_wrap _, HXI.out.a, HXI.out.b, HXI.out.x, HXI.out.y, HXI.out.vx, HXI.out.vy, HXI.out.an, HXI.out.sp, HXI.out.de, HXI.out.ln, HXI.out.k, HXI.out.r, HXI.out.f⟩, HEnd.out _ (HPut.out 1 _)⟩
    by_cases k1 : K = 1
    · subst k1
      go_wp2_with fail
      go_meet
      exact ⟨rfl, xkd, xid, _, xb, xx, xy, xvx, xvy, xan, xsp, xde, xln, xk, xr, HX3.out.put 2 _, ⟨HXI.out.kd, HXI.out.id, i64_wrap _, HXI.out.b, HXI.out.x, HXI.out.y, HXI.out.vx, HXI.out.vy, HXI.out.an, HXI.out.sp, HXI.out.de, HXI.out.ln, HXI.out.k, HXI.out.r, HXI.out.f⟩, HEnd.out _ (HPut.out 2 _)⟩
    by_cases k2 : K = 2
    · subst k2
      go_wp2_with fail
      go_meet
      exact ⟨rfl, xkd, xid, xa, xb, xx, xy, xvx, xvy, xan, xsp, xde, _, xk, xr, HX3.out.put 11 _, ⟨HXI.out.kd, HXI.out.id, HXI.out.a, HXI.out.b, HXI.out.x, HXI.out.y, HXI.out.vx, HXI.out.vy, HXI.out.an, HXI.out.sp, HXI.out.de, by show I64 1; unfold I64; omega, HXI.out.k, HXI.out.r, HXI.out.f⟩, HEnd.out _ (HPut.out 11 _)⟩
    by_cases k3 : K = 3
    · subst k3
      go_wp2_with fail
      go_meet
      exact ⟨rfl, xkd, xid, xa, xb, xx, xy, xvx, xvy, xan, xsp, _, xln, xk, xr, HX3.out.put 10 _, ⟨HXI.out.kd, HXI.out.id, HXI.out.a, HXI.out.b, HXI.out.x, HXI.out.y, HXI.out.vx, HXI.out.vy, HXI.out.an, HXI.out.sp, by show I64 5; unfold I64; omega, HXI.out.ln, HXI.out.k, HXI.out.r, HXI.out.f⟩, HEnd.out _ (HPut.out 10 _)⟩
    by_cases k4 : K = 4
    · subst k4
      go_wp2_with fail
      go_meet
      exact ⟨rfl, xkd, xid, xa, xb, xx, xy, xvx, xvy, xan, xsp, xde, xln, xk, _, HX3.out.put 13 _, ⟨HXI.out.kd, HXI.out.id, HXI.out.a, HXI.out.b, HXI.out.x, HXI.out.y, HXI.out.vx, HXI.out.vy, HXI.out.an, HXI.out.sp, HXI.out.de, HXI.out.ln, HXI.out.k, by show I64 7; unfold I64; omega, HXI.out.f⟩, HEnd.out _ (HPut.out 13 _)⟩
    by_cases k5 : K = 5
    · subst k5
      go_wp2_with fail
      go_meet
      exact ⟨rfl, _, xid, xa, xb, xx, xy, xvx, xvy, xan, xsp, xde, xln, xk, xr, HX3.out.put 0 _, ⟨by show I64 (bits .and .i64 _ 7); rw [and7]; unfold I64; omega, HXI.out.id, HXI.out.a, HXI.out.b, HXI.out.x, HXI.out.y, HXI.out.vx, HXI.out.vy, HXI.out.an, HXI.out.sp, HXI.out.de, HXI.out.ln, HXI.out.k, HXI.out.r, HXI.out.f⟩, HEnd.out _ (HPut.out 0 _)⟩
    have n0 : (K == 0) = false := by simpa using k0
    have n1 : (K == 1) = false := by simpa using k1
    have n2 : (K == 2) = false := by simpa using k2
    have n3 : (K == 3) = false := by simpa using k3
    have n4 : (K == 4) = false := by simpa using k4
    have n5 : (K == 5) = false := by simpa using k5
    go_wp2_with fail
    go_meet
    exact ⟨rfl, xkd, xid, xa, xb, xx, xy, xvx, xvy, xan, xsp, xde, xln, xk, xr, HX3.out, HXI.out, HEnd.out _ (But.rfl_ _ _)⟩
  case rest =>
    obtain ⟨rfl, ykd, yid, ya, yb, yx, yy, yvx, yvy, yan, ysp, yde, yln, yk, yr, HH⟩ := hcut
    have K4 := hid HH.out.2.2.1
    have HX4 := hid HH.out.1
    have HO4 := hid HH.out.2.2.2.1
    have HXI4 := hid HH.out.2.1
    have HXS4 := hid HH.out.2.2.2.2
    clear HH q0 q1 q2 q3 q4 q5 q6 q7 q8 q9 q10 q11 q12 q13 q14 lx fx HX3 HXI HPut HEnd HS3 HSb HO3 K3 aK
    obtain ⟨q1, hq1⟩ := a_bool (OrderP ⟨kd, id, a, b, x, y, vx, vy, an, sp, de, ln, k, r, ao, n, c, f⟩)
    obtain ⟨q2, hq2⟩ := a_bool (OrderP ⟨ykd, yid, ya, yb, yx, yy, yvx, yvy, yan, ysp, yde, yln, yk, yr, xo, xn, xc, xf⟩)
    have HQ1 := hid hq1
    have HQ2 := hid hq2
    clear hq1 hq2
    have HR1 := hid (fun v (kM : Made wc.heap.size wc v) => oright_c q1 (⟨kd, id, a, b, x, y, vx, vy, an, sp, de, ln, k, r, ao, n, c, f⟩ : Or) (w := v) (by show n ≤ _; omega) HOI.out (HOS.out v (K4.out.then_ (kM.low K4.out.1.size))) HQ1.out)
    have HL1 := hid (fun v (kM : Made wc.heap.size wc v) => lright_c q1 (⟨kd, id, a, b, x, y, vx, vy, an, sp, de, ln, k, r, ao, n, c, f⟩ : Or) (w := v) HOI.out (HOS.out v (K4.out.then_ (kM.low K4.out.1.size))) HQ1.out)
    have HSk : Hid (∀ v, Made wc.heap.size wc v → Sl v xo xn xf) := fun v k hn => by obtain ⟨b, off, e, hp⟩ := HXS4.out hn; exact ⟨b, off, e, hp.kept k⟩
    have HR2 := hid (fun v (kM : Made wc.heap.size wc v) => oright_c q2 (⟨ykd, yid, ya, yb, yx, yy, yvx, yvy, yan, ysp, yde, yln, yk, yr, xo, xn, xc, xf⟩ : Or) (w := v) (by show xn ≤ _; have := HXN.out; omega) HXI4.out (HSk.out v kM) HQ2.out)
    have HL2 := hid (fun v (kM : Made wc.heap.size wc v) => lright_c q2 (⟨ykd, yid, ya, yb, yx, yy, yvx, yvy, yan, ysp, yde, yln, yk, yr, xo, xn, xc, xf⟩ : Or) (w := v) HXI4.out (HSk.out v kM) HQ2.out)
    have HSm := hid (fun v (kM : Made wc.heap.size wc v) => osame_c true (⟨ykd, yid, ya, yb, yx, yy, yvx, yvy, yan, ysp, yde, yln, yk, yr, xo, xn, xc, xf⟩ : Or) (⟨ykd, yid, ya, yb, yx, yy, yvx, yvy, yan, ysp, yde, yln, yk, yr, xo, xn, xc, xf⟩ : Or) (w := v) (by show xn ≤ _; have := HXN.out; omega) (HSk.out v kM) (HSk.out v kM) ⟨fun _ => ⟨rfl, rfl, rfl, rfl, ⟨rfl, rfl⟩, ⟨rfl, rfl⟩, rfl, rfl, rfl, rfl, rfl, rfl, rfl, fun _ _ => rfl⟩, fun _ => rfl⟩)
    have o0 := HO4.out.at_ 0
    have o1 := HO4.out.at_ 1
    have o2 := HO4.out.at_ 2
    have o3 := HO4.out.at_ 3
    have o4 := HO4.out.at_ 4
    have o5 := HO4.out.at_ 5
    have o6 := HO4.out.at_ 6
    have o7 := HO4.out.at_ 7
    have o8 := HO4.out.at_ 8
    have o9 := HO4.out.at_ 9
    have o10 := HO4.out.at_ 10
    have o11 := HO4.out.at_ 11
    have o12 := HO4.out.at_ 12
    have o13 := HO4.out.at_ 13
    have o14 := HO4.out.at_ 14
    simp at o0 o1 o2 o3 o4 o5 o6 o7 o8 o9 o10 o11 o12 o13 o14
    have y_0 := HX4.out.at_ 0
    have y_1 := HX4.out.at_ 1
    have y_2 := HX4.out.at_ 2
    have y_3 := HX4.out.at_ 3
    have y_4 := HX4.out.at_ 4
    have y_5 := HX4.out.at_ 5
    have y_6 := HX4.out.at_ 6
    have y_7 := HX4.out.at_ 7
    have y_8 := HX4.out.at_ 8
    have y_9 := HX4.out.at_ 9
    have y_10 := HX4.out.at_ 10
    have y_11 := HX4.out.at_ 11
    have y_12 := HX4.out.at_ 12
    have y_13 := HX4.out.at_ 13
    have y_14 := HX4.out.at_ 14
    simp at y_0 y_1 y_2 y_3 y_4 y_5 y_6 y_7 y_8 y_9 y_10 y_11 y_12 y_13 y_14
    go_upto_region 19 with fail
    refine reg_made (by kernel_rfl) (by kernel_rfl) ?_
    intro Ty hT fw hf
    have zo0 := Class.reads hf o0
    have zy0 := Class.reads hf y_0
    have zo1 := Class.reads hf o1
    have zy1 := Class.reads hf y_1
    have zo2 := Class.reads hf o2
    have zy2 := Class.reads hf y_2
    have zo3 := Class.reads hf o3
    have zy3 := Class.reads hf y_3
    have zo4 := Class.reads hf o4
    have zy4 := Class.reads hf y_4
    have zo5 := Class.reads hf o5
    have zy5 := Class.reads hf y_5
    have zo6 := Class.reads hf o6
    have zy6 := Class.reads hf y_6
    have zo7 := Class.reads hf o7
    have zy7 := Class.reads hf y_7
    have zo8 := Class.reads hf o8
    have zy8 := Class.reads hf y_8
    have zo9 := Class.reads hf o9
    have zy9 := Class.reads hf y_9
    have zo10 := Class.reads hf o10
    have zy10 := Class.reads hf y_10
    have zo11 := Class.reads hf o11
    have zy11 := Class.reads hf y_11
    have zo12 := Class.reads hf o12
    have zy12 := Class.reads hf y_12
    have zo13 := Class.reads hf o13
    have zy13 := Class.reads hf y_13
    have zo14 := Class.reads hf o14
    have zy14 := Class.reads hf y_14
    have HfM : ∀ x, Made wc.heap.size wc (fw x) := hf.1
    have hb1 : (q1 == q1) = true := by simp
    have hb2 : (q2 == q2) = true := by simp
    repeat (go_big_quiet_step ((first
      | (go_at_call 10; with_reducible first | exact hf.made (HR1.out _ (HfM _)) | exact hf.made (HR2.out _ (HfM _)))
      | (go_at_call 11; with_reducible first | exact hf.made (HL1.out _ (HfM _)) | exact hf.made (HL2.out _ (HfM _)))
      | (go_at_call 12; with_reducible exact hf.made (HSm.out _ (HfM _))))))
    refine wpQuiet_nil ?_
    intro w5 h5
    have k5 := hf.here h5
    go_wp2_with fail
    go_ret
    exact ⟨by simp, K4.out.then_ (k5.low K4.out.1.size)⟩
theorem orights_l (o : Or) (d : De) (spoil : Int) (w : World) (hos : Sl w o.ao o.n o.f) (hoi : OrI o) (hds : Sl w d.rao d.rn d.rf) (hdi : DeI d) :
    Calls Tryz.prog 3 #[.agg (encO o).toArray, .agg (encD d).toArray, .int .i64 spoil] w fun e v => e = .returned (.bool true) ∧ Made w.heap.size w v := by
  obtain ⟨kd, id, a, b, x, y, vx, vy, an, sp, de, ln, k, r, ao, n, c, f⟩ := o
  exact orights_walk kd id a b x y vx vy an sp de ln k r ao n c f _ d rfl spoil w hoi hos hdi hds
end Go.Proofs.YtfncelifflebbaaGreat.Fx

