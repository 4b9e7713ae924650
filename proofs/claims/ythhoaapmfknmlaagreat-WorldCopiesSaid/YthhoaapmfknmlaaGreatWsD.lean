/- WorldCopies. -/
import Derived.Test.YthhoaapmfknmlaaGreatWsC
import Derived.Test.YthhoaapmfknmlaaGreatWlQ
import Derived.Test.YthhoaapmfknmlaaGreatOpD
namespace Go.Proofs.YthhoaapmfknmlaaGreat.Fx
open Go.ChangeShapes Go.WideShapes Go.ChangeAt Go.RowKit
set_option linter.unusedVariables false

theorem Has.put8 {w : World} {g : Nat} {t : TypeId} {c0 c1 c2 c3 c4 c5 c6 c7 : Value} (h : Has w g t #[c0, c1, c2, c3, c4, c5, c6, c7]) (v0 v1 v2 v3 v4 v5 v6 v7 : Value) :
    Has ((((((((w.setCell ⟨g, 0, none⟩ v0).setCell ⟨g, 1, none⟩ v1).setCell ⟨g, 2, none⟩ v2).setCell ⟨g, 3, none⟩ v3).setCell ⟨g, 4, none⟩ v4).setCell ⟨g, 5, none⟩ v5).setCell ⟨g, 6, none⟩ v6).setCell ⟨g, 7, none⟩ v7) g t #[v0, v1, v2, v3, v4, v5, v6, v7] := by
  have h1 : Has (w.setCell ⟨g, 0, none⟩ v0) g t #[v0, c1, c2, c3, c4, c5, c6, c7] := h.put 0 v0
  have h2 : Has ((w.setCell ⟨g, 0, none⟩ v0).setCell ⟨g, 1, none⟩ v1) g t #[v0, v1, c2, c3, c4, c5, c6, c7] := h1.put 1 v1
  have h3 : Has (((w.setCell ⟨g, 0, none⟩ v0).setCell ⟨g, 1, none⟩ v1).setCell ⟨g, 2, none⟩ v2) g t #[v0, v1, v2, c3, c4, c5, c6, c7] := h2.put 2 v2
  have h4 : Has ((((w.setCell ⟨g, 0, none⟩ v0).setCell ⟨g, 1, none⟩ v1).setCell ⟨g, 2, none⟩ v2).setCell ⟨g, 3, none⟩ v3) g t #[v0, v1, v2, v3, c4, c5, c6, c7] := h3.put 3 v3
  have h5 : Has (((((w.setCell ⟨g, 0, none⟩ v0).setCell ⟨g, 1, none⟩ v1).setCell ⟨g, 2, none⟩ v2).setCell ⟨g, 3, none⟩ v3).setCell ⟨g, 4, none⟩ v4) g t #[v0, v1, v2, v3, v4, c5, c6, c7] := h4.put 4 v4
  have h6 : Has ((((((w.setCell ⟨g, 0, none⟩ v0).setCell ⟨g, 1, none⟩ v1).setCell ⟨g, 2, none⟩ v2).setCell ⟨g, 3, none⟩ v3).setCell ⟨g, 4, none⟩ v4).setCell ⟨g, 5, none⟩ v5) g t #[v0, v1, v2, v3, v4, v5, c6, c7] := h5.put 5 v5
  have h7 : Has (((((((w.setCell ⟨g, 0, none⟩ v0).setCell ⟨g, 1, none⟩ v1).setCell ⟨g, 2, none⟩ v2).setCell ⟨g, 3, none⟩ v3).setCell ⟨g, 4, none⟩ v4).setCell ⟨g, 5, none⟩ v5).setCell ⟨g, 6, none⟩ v6) g t #[v0, v1, v2, v3, v4, v5, v6, c7] := h6.put 6 v6
  exact h7.put 7 v7
theorem But.put8 {X : Nat → Prop} {a w : World} {g : Nat} (h : But X a w) (hg : X g ∨ a.heap.size ≤ g) (v0 v1 v2 v3 v4 v5 v6 v7 : Value) :
    But X a ((((((((w.setCell ⟨g, 0, none⟩ v0).setCell ⟨g, 1, none⟩ v1).setCell ⟨g, 2, none⟩ v2).setCell ⟨g, 3, none⟩ v3).setCell ⟨g, 4, none⟩ v4).setCell ⟨g, 5, none⟩ v5).setCell ⟨g, 6, none⟩ v6).setCell ⟨g, 7, none⟩ v7) :=
  (((((((h.put (p := ⟨g, 0, none⟩) hg v0).put (p := ⟨g, 1, none⟩) hg v1).put (p := ⟨g, 2, none⟩) hg v2).put (p := ⟨g, 3, none⟩) hg v3).put (p := ⟨g, 4, none⟩) hg v4).put (p := ⟨g, 5, none⟩) hg v5).put (p := ⟨g, 6, none⟩) hg v6).put (p := ⟨g, 7, none⟩) hg v7
def z8 : Array Value := #[.int .i64 0, .int .i64 0, .int .i64 0, .int .i64 0, .int .i64 0, .slice none 0 0, .slice none 0 0, .slice none 0 0]
/-- the makings of n copies: their calls (below 2 n), then their variables -/
def alC (n : Nat) (P : PW) (i : Nat) (v : World) (g : Nat) (e : MI.Ex) : Prop := (i < n → CopyV P v g e) ∧ (n ≤ i → Has v g 42 #[.int .i64 0, .int .i64 0, .int .i64 0, .int .i64 0, .int .i64 0, .slice none 0 0, .slice none 0 0, .slice none 0 0] ∧ e.hi = g + 1)
def valC (n i g : Nat) (e : MI.Ex) : Value := if i < n then e.v else .pointer (some ⟨g, 0, none⟩)
theorem alC_lasts (n : Nat) (P : PW) : MI.Lasts (alC n P) := fun i u v g e h hh k =>
  ⟨fun hi => (h.1 hi).kept hh k, fun hi => by
    obtain ⟨h1, h2⟩ := h.2 hi
    exact ⟨h1.stays k h1.here, h2⟩⟩
theorem and4 (x : Int) : ∃ z, bits .and .i64 x 4 = z := ⟨_, rfl⟩
set_option maxRecDepth 100000 in
set_option maxHeartbeats 32000000 in
theorem wcopies_walk (l : List De) (l0 : Option Addr) (nl cl : Nat) (kd pk pn ps pt px py pa vx vy sp de a b ax ay tx ty ln rid rx ry rvx rvy ran rsp rde rk rr : Int) (rao : Option Addr) (rn rc : Nat) (rf : Cs) (how : Int) (w : World) (hnl : l.length = nl) (hD : DesAt w l0 l) (hnc : nl ≤ cl) (hcm : cl ≤ maxLen) (ho : (l0 = none ∧ nl = 0 ∧ cl = 0) ∨ ∃ a, l0 = some a)
    (hi : DeI ⟨kd, pk, pn, ps, pt, px, py, pa, vx, vy, sp, de, a, b, ax, ay, tx, ty, ln, rid, rx, ry, rvx, rvy, ran, rsp, rde, rk, rr, rao, rn, rc, rf⟩) (hs : Sl w rao rn rf) :
    Calls Tryz.prog 3 #[.slice l0 nl cl, .agg #[.int .i64 kd, .int .i64 pk, .int .i64 pn, .int .i64 ps, .int .i64 pt, .int .i64 px, .int .i64 py, .int .i64 pa, .int .i64 vx, .int .i64 vy, .int .i64 sp, .int .i64 de, .int .i64 a, .int .i64 b, .int .i64 ax, .int .i64 ay, .int .i64 tx, .int .i64 ty, .int .i64 ln, .int .i64 rid, .int .i64 rx, .int .i64 ry, .int .i64 rvx, .int .i64 rvy, .int .i64 ran, .int .i64 rsp, .int .i64 rde, .int .i64 rk, .int .i64 rr, .slice rao rn rc], .int .i64 how] w fun e v => e = .returned (.bool true) ∧ Made w.heap.size w v := by
  obtain ⟨bd, hbd⟩ := dbody_c _ hi
  have HMd := hid (fun v (k : Made w.heap.size w v) => made_0 12 (by omega) hnl (hD.kept k) hnc hcm ho)
  have HBD := hid hbd
  have HDI := hid hi
  have HS : Hid (∀ v, Made w.heap.size w v → Sl v rao rn rf) := fun v k hn => by obtain ⟨b, off, e, hp⟩ := hs hn; exact ⟨b, off, e, hp.kept k⟩
  clear hbd hi hs hnl hD hnc hcm ho
  obtain ⟨W, eW⟩ : ∃ W, W = w.alloc (.cells #[.int .i64 kd, .int .i64 pk, .int .i64 pn, .int .i64 ps, .int .i64 pt, .int .i64 px, .int .i64 py, .int .i64 pa, .int .i64 vx, .int .i64 vy, .int .i64 sp, .int .i64 de, .int .i64 a, .int .i64 b, .int .i64 ax, .int .i64 ay, .int .i64 tx, .int .i64 ty, .int .i64 ln, .int .i64 rid, .int .i64 rx, .int .i64 ry, .int .i64 rvx, .int .i64 rvy, .int .i64 ran, .int .i64 rsp, .int .i64 rde, .int .i64 rk, .int .i64 rr, .slice rao rn rc] 36) := ⟨_, rfl⟩
  have KW : Hid (Made w.heap.size w W) := by unfold Hid; rw [eW]; exact (Made.rfl_ _ _).cells (Nat.le_refl _) _ _
  have HD : Hid (Has W w.heap.size 36 #[.int .i64 kd, .int .i64 pk, .int .i64 pn, .int .i64 ps, .int .i64 pt, .int .i64 px, .int .i64 py, .int .i64 pa, .int .i64 vx, .int .i64 vy, .int .i64 sp, .int .i64 de, .int .i64 a, .int .i64 b, .int .i64 ax, .int .i64 ay, .int .i64 tx, .int .i64 ty, .int .i64 ln, .int .i64 rid, .int .i64 rx, .int .i64 ry, .int .i64 rvx, .int .i64 rvy, .int .i64 ran, .int .i64 rsp, .int .i64 rde, .int .i64 rk, .int .i64 rr, .slice rao rn rc]) := by unfold Hid; rw [eW]; exact has_new _ _ _
  obtain ⟨gd, egd⟩ : ∃ g, w.heap.size = g := ⟨_, rfl⟩
  rw [egd] at HD
  have hgd : w.heap.size ≤ gd := Nat.le_of_eq egd
  go_enter Tryz.func3, Tryz.ntmps3
  go_upto_region 1 with fail
  rw [← eW]
  clear eW
  try rw [egd]
  clear egd
  go_wp2_with fail
  refine (wfit_c _).mono ?_
  rintro e w1 ⟨rfl, k1⟩
  have K1 := hid (KW.out.then_ (k1.low KW.out.1.size))
  have HD1 := hid (HD.out.stays k1 HD.out.here)
  clear k1 HD KW
  have d29 := HD1.out.at_ 29
  simp at d29
  have ld : gd < w1.heap.size := HD1.out.here
  by_cases h12 : 12 < rn
  · go_wp2_with fail
    go_ret
    exact ⟨rfl, K1.out⟩
  go_wp2_with fail
  refine (HMd.out _ K1.out).mono ?_
  rintro e w2 ⟨P, val, rfl, hval, hok, hsm, k2⟩
  have K2 := hid (K1.out.then_ (k2.low K1.out.1.size))
  have HD2 := hid (HD1.out.stays k2 HD1.out.here)
  have OK := hid hok
  have SM : Hid (P.C = []) := hsm.1
  clear k2 hok hsm HMd d29 ld HD1 K1
  obtain ⟨ob, oj, cb, cj, eval, hLm⟩ := hval
  have HLm := hid hLm
  obtain ⟨nB, eB⟩ : ∃ m, P.B.length = m := ⟨_, rfl⟩
  obtain ⟨nJ, eJ⟩ : ∃ m, P.J.length = m := ⟨_, rfl⟩
  obtain ⟨nb, eb⟩ : ∃ m, P.nb = m := ⟨_, rfl⟩
  obtain ⟨nj, ej⟩ : ∃ m, P.nj = m := ⟨_, rfl⟩
  have eC : P.C.length = 0 := by rw [SM.out]; rfl
  rw [eB, eJ, eC, eb, ej] at eval
  subst eval
  have HE := hid (And.intro eB (And.intro eJ (And.intro eb ej)))
  clear hLm eB eJ eb ej eC
  obtain ⟨W3, eW3⟩ : ∃ V, V = w2.alloc (.cells #[.int .i64 0, .int .i64 nb, .int .i64 nj, .int .i64 0, .int .i64 0, .slice ob nB cb, .slice oj nJ cj, .slice none 0 0] 42) := ⟨_, rfl⟩
  have kk3 : Made w2.heap.size w2 W3 := by rw [eW3]; exact (Made.rfl_ _ _).cells (Nat.le_refl _) _ _
  have K3 := hid (K2.out.then_ (kk3.low K2.out.1.size))
  have HW3 : Hid (Has W3 w2.heap.size 42 #[.int .i64 0, .int .i64 nb, .int .i64 nj, .int .i64 0, .int .i64 0, .slice ob nB cb, .slice oj nJ cj, .slice none 0 0]) := by unfold Hid; rw [eW3]; exact has_new _ _ _
  have HL3 : Hid (WLs (fun b => w2.heap.size ≤ b) W3 ob cb P.B oj cj P.J none 0 []) := by
    have h := (HLm.out.free (Y := fun b => w2.heap.size ≤ b) (fun b hb => .inr hb)).kept kk3
    rw [SM.out] at h
    exact h
  have HD3 := hid (HD2.out.stays kk3 HD2.out.here)
  have hgw : w.heap.size ≤ w2.heap.size := K2.out.1.size
  have hgdw : gd < w2.heap.size := HD2.out.here
  obtain ⟨gw, egw⟩ : ∃ g, w2.heap.size = g := ⟨_, rfl⟩
  rw [egw] at HW3 HL3 hgw hgdw
  clear kk3 HD2
  go_upto_region 6 with fail
  rw [← eW3]
  clear eW3 HLm K2
  try rw [egw]
  clear egw
  have b0 := HW3.out.at_ 0
  have b1 := HW3.out.at_ 1
  have b2 := HW3.out.at_ 2
  have b3 := HW3.out.at_ 3
  have b4 := HW3.out.at_ 4
  have b5 := HW3.out.at_ 5
  have b6 := HW3.out.at_ 6
  have b7 := HW3.out.at_ 7
  simp at b0 b1 b2 b3 b4 b5 b6 b7
  have lw : gw < W3.heap.size := HW3.out.here
  have HCP := hid (fun u (k : Made W3.heap.size W3 u) => copy_mk ob oj cb cj nB nJ nb nj OK.out HE.out (HL3.out.kept k))
  refine MI.reg_mk (alC 4 P) 6 [0, 2, 1, 3, 4, 5] [0, 2] [1, 3, 4, 5] [] (fun _ => []) (val := valC 4) (by kernel_rfl) (by kernel_rfl) (fun p hp => absurd hp (by simp)) ?_
  refine MI.can_class (rest := [1, 3, 4, 5]) [0, 2] [] 144 (alC_lasts _ _) (MI.any_class _) (by kernel_rfl) rfl (by kernel_rfl) (by kernel_rfl) ?_
  apply Exists.intro
  refine ⟨?q1, ?q2⟩
  case q1 =>
    intro Ty hT fw hf _
    have z0 := Class.reads hf b0
    have z1 := Class.reads hf b1
    have z2 := Class.reads hf b2
    have z3 := Class.reads hf b3
    have z4 := Class.reads hf b4
    have z5 := Class.reads hf b5
    have z6 := Class.reads hf b6
    have z7 := Class.reads hf b7
    change wpQuiet _ _ _ _ [_, _] _
    repeat (go_big_quiet_step (fail))
    exact wpQuiet_nil rfl
  refine MI.can_mk 1 24 _ rfl rfl rfl rfl ?m0 fun q0 e0 => ?n0
  case m0 =>
    intro G' u _ hu
    rw [show (execOp _ _).run Tryz.prog u = .ok (.enter 11 #[wdV 0 nb nj 0 0 (.slice ob nB cb) (.slice oj nJ cj) (.slice none 0 0)]) u by kernel_rfl]
    show Calls _ _ _ _ _
    refine (HCP.out u hu.1).mono ?_
    rintro e v ⟨g, ex, rfl, h1, h2, h3, h4, h5⟩
    exact ⟨g, ex, rfl, hu.next (alC_lasts _ _) h5 h1 h2 h3 ⟨fun _ => h4, fun h => absurd h (by omega)⟩⟩
  rw [show valC 4 1 q0 e0 = e0.v from rfl]
  simp only [Act.put, List.setIfInBounds_toArray, List.set_cons_succ, List.set_cons_zero]
  refine MI.can_mk 3 26 _ rfl rfl rfl rfl ?m1 fun q1 e1 => ?n1
  case m1 =>
    intro G' u _ hu
    rw [show (execOp _ _).run Tryz.prog u = .ok (.enter 11 #[wdV 0 nb nj 0 0 (.slice ob nB cb) (.slice oj nJ cj) (.slice none 0 0)]) u by kernel_rfl]
    show Calls _ _ _ _ _
    refine (HCP.out u hu.1).mono ?_
    rintro e v ⟨g, ex, rfl, h1, h2, h3, h4, h5⟩
    exact ⟨g, ex, rfl, hu.next (alC_lasts _ _) h5 h1 h2 h3 ⟨fun _ => h4, fun h => absurd h (by omega)⟩⟩
  rw [show valC 4 3 q1 e1 = e1.v from rfl]
  simp only [Act.put, List.setIfInBounds_toArray, List.set_cons_succ, List.set_cons_zero]
  refine MI.can_mk 4 8 _ rfl rfl rfl rfl ?a0 fun g0 f0 => ?b0
  case a0 =>
    intro G' u _ hu
    rw [show (execOp _ _).run Tryz.prog u = .ok (.value (.pointer (some ⟨u.heap.size, 0, none⟩))) (u.alloc (.cells #[.int .i64 0, .int .i64 0, .int .i64 0, .int .i64 0, .int .i64 0, .slice none 0 0, .slice none 0 0, .slice none 0 0] 42)) by kernel_rfl]
    exact ⟨u.heap.size, ⟨u.heap.size + 1, .bool false, []⟩, rfl, hu.next (alC_lasts _ _) ((Made.rfl_ _ _).cells (Nat.le_refl _) _ _) (Nat.le_refl _) (by simp) (by simp) ⟨fun h => absurd h (by omega), fun _ => ⟨has_new _ _ _, rfl⟩⟩⟩
  rw [show valC 4 4 g0 f0 = .pointer (some ⟨g0, 0, none⟩) from rfl]
  simp only [Act.put, List.setIfInBounds_toArray, List.set_cons_succ, List.set_cons_zero]
  refine MI.can_mk 5 9 _ rfl rfl rfl rfl ?a1 fun g1 f1 => ?b1
  case a1 =>
    intro G' u _ hu
    rw [show (execOp _ _).run Tryz.prog u = .ok (.value (.pointer (some ⟨u.heap.size, 0, none⟩))) (u.alloc (.cells #[.int .i64 0, .int .i64 0, .int .i64 0, .int .i64 0, .int .i64 0, .slice none 0 0, .slice none 0 0, .slice none 0 0] 42)) by kernel_rfl]
    exact ⟨u.heap.size, ⟨u.heap.size + 1, .bool false, []⟩, rfl, hu.next (alC_lasts _ _) ((Made.rfl_ _ _).cells (Nat.le_refl _) _ _) (Nat.le_refl _) (by simp) (by simp) ⟨fun h => absurd h (by omega), fun _ => ⟨has_new _ _ _, rfl⟩⟩⟩
  rw [show valC 4 5 g1 f1 = .pointer (some ⟨g1, 0, none⟩) from rfl]
  simp only [Act.put, List.setIfInBounds_toArray, List.set_cons_succ, List.set_cons_zero]
  intro w4 hu
  have k4 := hu.1
  have tq0 : (MI.upd (MI.upd (MI.upd (MI.upd ((fun _ => none)) 1 (q0, e0)) 3 (q1, e1)) 4 (g0, f0)) 5 (g1, f1)) 1 = some (q0, e0) := by unfold MI.upd; simp
  have tg0 : (MI.upd (MI.upd (MI.upd (MI.upd ((fun _ => none)) 1 (q0, e0)) 3 (q1, e1)) 4 (g0, f0)) 5 (g1, f1)) 4 = some (g0, f0) := by unfold MI.upd; simp
  have tq1 : (MI.upd (MI.upd (MI.upd (MI.upd ((fun _ => none)) 1 (q0, e0)) 3 (q1, e1)) 4 (g0, f0)) 5 (g1, f1)) 3 = some (q1, e1) := by unfold MI.upd; simp
  have tg1 : (MI.upd (MI.upd (MI.upd (MI.upd ((fun _ => none)) 1 (q0, e0)) 3 (q1, e1)) 4 (g0, f0)) 5 (g1, f1)) 5 = some (g1, f1) := by unfold MI.upd; simp
  obtain ⟨ql0, qm0, qh0, hq0⟩ := hu.2.1 1 _ tq0
  obtain ⟨gl0, gm0, gh0, hg0⟩ := hu.2.1 4 _ tg0
  have HGZ0 : Has w4 g0 42 #[.int .i64 0, .int .i64 0, .int .i64 0, .int .i64 0, .int .i64 0, .slice none 0 0, .slice none 0 0, .slice none 0 0] := (hg0.2 (by omega)).1
  have hf0 : f0.hi = g0 + 1 := (hg0.2 (by omega)).2
  have hcv0 : CopyV P w4 q0 e0 := hq0.1 (by omega)
  simp only [] at ql0 qm0 qh0 gl0 gm0 gh0
  obtain ⟨ql1, qm1, qh1, hq1⟩ := hu.2.1 3 _ tq1
  obtain ⟨gl1, gm1, gh1, hg1⟩ := hu.2.1 5 _ tg1
  have HGZ1 : Has w4 g1 42 #[.int .i64 0, .int .i64 0, .int .i64 0, .int .i64 0, .int .i64 0, .slice none 0 0, .slice none 0 0, .slice none 0 0] := (hg1.2 (by omega)).1
  have hf1 : f1.hi = g1 + 1 := (hg1.2 (by omega)).2
  have hcv1 : CopyV P w4 q1 e1 := hq1.1 (by omega)
  simp only [] at ql1 qm1 qh1 gl1 gm1 gh1
  have HAp : Hid ((e0.hi ≤ g0 ∨ g0 < q0) ∧ (e0.hi ≤ g1 ∨ g1 < q0) ∧ (e1.hi ≤ g0 ∨ g0 < q1) ∧ (e1.hi ≤ g1 ∨ g1 < q1) ∧ g0 ≠ g1) := by
    unfold Hid
    refine ⟨?_, ?_, ?_, ?_, ?_⟩
    · rcases hu.2.2 1 4 _ _ tq0 tg0 (by omega) with h | h
      · exact .inl h
      · refine .inr ?_; simp only [hf0] at h; omega
    · rcases hu.2.2 1 5 _ _ tq0 tg1 (by omega) with h | h
      · exact .inl h
      · refine .inr ?_; simp only [hf1] at h; omega
    · rcases hu.2.2 3 4 _ _ tq1 tg0 (by omega) with h | h
      · exact .inl h
      · refine .inr ?_; simp only [hf0] at h; omega
    · rcases hu.2.2 3 5 _ _ tq1 tg1 (by omega) with h | h
      · exact .inl h
      · refine .inr ?_; simp only [hf1] at h; omega
    · rcases hu.2.2 4 5 _ _ tg0 tg1 (by omega) with h | h
      · simp only [hf0] at h; omega
      · simp only [hf1] at h; omega
  obtain ⟨ob0, oj0, cb0, cj0, ev0, hsm0, hls0, hrow0, hap0, hjn0, hmi0⟩ := hcv0
  obtain ⟨ob1, oj1, cb1, cj1, ev1, hsm1, hls1, hrow1, hap1, hjn1, hmi1⟩ := hcv1
  obtain ⟨eB, eJ, eb, ej⟩ := HE.out
  rw [eB] at hrow0 hap0
  rw [eJ] at hap0
  have HAj0 := hid hap0
  have HJn0 := hid hjn0
  clear hap0 hjn0
  rw [eB, eJ, eb, ej] at ev0
  have HSm0 := hid hsm0; have HLs0 := hid hls0; have HRo0 := hid hrow0; have HMi0 := hid hmi0; have HZ0 := hid HGZ0; have HLo0 := hid (And.intro ql0 (And.intro qm0 (And.intro qh0 gl0)))
  rw [ev0]
  clear ev0 hsm0 hls0 hrow0 hmi0 HGZ0 hq0 hg0 hf0 tq0 tg0 ql0 qm0 qh0 gl0 gm0 gh0
  rw [eB] at hrow1 hap1
  rw [eJ] at hap1
  have HAj1 := hid hap1
  have HJn1 := hid hjn1
  clear hap1 hjn1
  rw [eB, eJ, eb, ej] at ev1
  have HSm1 := hid hsm1; have HLs1 := hid hls1; have HRo1 := hid hrow1; have HMi1 := hid hmi1; have HZ1 := hid HGZ1; have HLo1 := hid (And.intro ql1 (And.intro qm1 (And.intro qh1 gl1)))
  rw [ev1]
  clear ev1 hsm1 hls1 hrow1 hmi1 HGZ1 hq1 hg1 hf1 tq1 tg1 ql1 qm1 qh1 gl1 gm1 gh1
  have K4' := hid k4
  clear hu eB eJ eb ej
  simp only [List.drop_succ_cons, List.drop_zero]
  have HW4 := hid (HW3.out.stays K4'.out HW3.out.here)
  have HL4 := hid (HL3.out.kept K4'.out)
  have HD4 := hid (HD3.out.stays K4'.out HD3.out.here)
  have K4 := hid (K3.out.then_ (K4'.out.low K3.out.1.size))
  have HGW := hid (And.intro lw hgw)
  have hg0 : gw < g0 := Nat.lt_of_lt_of_le lw HLo0.out.2.2.2
  have hg1 : gw < g1 := Nat.lt_of_lt_of_le lw HLo1.out.2.2.2
  clear b0 b1 b2 b3 b4 b5 b6 b7 lw HW3 HL3 HD3 k4 K3
  have HN01 : ¬ g0 = g1 := by have := HAp.out; omega
  have HN10 : ¬ g1 = g0 := by have := HAp.out; omega
  have lg0 : g0 < w4.heap.size := HZ0.out.here
  have fg0 : ∀ i, w4.frozen? ⟨g0, i, none⟩ = false := HZ0.out.free
  have y0_0 := HZ0.out.at_ 0
  have y0_1 := HZ0.out.at_ 1
  have y0_2 := HZ0.out.at_ 2
  have y0_3 := HZ0.out.at_ 3
  have y0_4 := HZ0.out.at_ 4
  have y0_5 := HZ0.out.at_ 5
  have y0_6 := HZ0.out.at_ 6
  have y0_7 := HZ0.out.at_ 7
  simp at y0_0 y0_1 y0_2 y0_3 y0_4 y0_5 y0_6 y0_7
  have lg1 : g1 < w4.heap.size := HZ1.out.here
  have fg1 : ∀ i, w4.frozen? ⟨g1, i, none⟩ = false := HZ1.out.free
  have y1_0 := HZ1.out.at_ 0
  have y1_1 := HZ1.out.at_ 1
  have y1_2 := HZ1.out.at_ 2
  have y1_3 := HZ1.out.at_ 3
  have y1_4 := HZ1.out.at_ 4
  have y1_5 := HZ1.out.at_ 5
  have y1_6 := HZ1.out.at_ 6
  have y1_7 := HZ1.out.at_ 7
  simp at y1_0 y1_1 y1_2 y1_3 y1_4 y1_5 y1_6 y1_7
  obtain ⟨W5, eW5⟩ : ∃ V, V = ((((((((((((((((w4).setCell ⟨g0, 0, none⟩ (.int .i64 0)).setCell ⟨g0, 1, none⟩ (.int .i64 nb)).setCell ⟨g0, 2, none⟩ (.int .i64 nj)).setCell ⟨g0, 3, none⟩ (.int .i64 0)).setCell ⟨g0, 4, none⟩ (.int .i64 0)).setCell ⟨g0, 5, none⟩ (.slice ob0 nB cb0)).setCell ⟨g0, 6, none⟩ (.slice oj0 nJ cj0)).setCell ⟨g0, 7, none⟩ (.slice none 0 0)).setCell ⟨g1, 0, none⟩ (.int .i64 0)).setCell ⟨g1, 1, none⟩ (.int .i64 nb)).setCell ⟨g1, 2, none⟩ (.int .i64 nj)).setCell ⟨g1, 3, none⟩ (.int .i64 0)).setCell ⟨g1, 4, none⟩ (.int .i64 0)).setCell ⟨g1, 5, none⟩ (.slice ob1 nB cb1)).setCell ⟨g1, 6, none⟩ (.slice oj1 nJ cj1)).setCell ⟨g1, 7, none⟩ (.slice none 0 0) := ⟨_, rfl⟩
  have k5 : But (fun b => b = g0 ∨ b = g1) w4 W5 := by rw [eW5]; exact (((But.rfl_ (fun b => b = g0 ∨ b = g1) w4).put8 (g := g0) (.inl (.inl rfl)) _ _ _ _ _ _ _ _).put8 (g := g1) (.inl (.inr rfl)) _ _ _ _ _ _ _ _)
  have HG0 : Hid (Has W5 g0 42 #[.int .i64 0, .int .i64 nb, .int .i64 nj, .int .i64 0, .int .i64 0, .slice ob0 nB cb0, .slice oj0 nJ cj0, .slice none 0 0]) := by unfold Hid; rw [eW5]; exact ((HZ0.out.put8 _ _ _ _ _ _ _ _).but ((But.rfl_ (fun b => b = g1) _).put8 (.inl rfl) _ _ _ _ _ _ _ _) HN01)
  have HG1 : Hid (Has W5 g1 42 #[.int .i64 0, .int .i64 nb, .int .i64 nj, .int .i64 0, .int .i64 0, .slice ob1 nB cb1, .slice oj1 nJ cj1, .slice none 0 0]) := by unfold Hid; rw [eW5]; exact ((HZ1.out.but ((But.rfl_ (fun b => b = g0) _).put8 (.inl rfl) _ _ _ _ _ _ _ _) HN10).put8 _ _ _ _ _ _ _ _)
  go_wp2_with fail
  refine NoPanic.normal ?_
  try rw [← eW5]
  clear eW5 y0_0 y0_1 y0_2 y0_3 y0_4 y0_5 y0_6 y0_7 y1_0 y1_1 y1_2 y1_3 y1_4 y1_5 y1_6 y1_7 lg0 lg1 fg0 fg1 HZ0 HZ1
  have HW5 := hid (HW4.out.but k5 (by show ¬ (gw = g0 ∨ gw = g1); omega))
  have HL5 := hid (HL4.out.but k5 (fun b hb => by have hb : b = g0 ∨ b = g1 := hb; show gw ≤ b; omega))
  have HD5 := hid (HD4.out.but k5 (by show ¬ (gd = g0 ∨ gd = g1); omega))
  have K5 : Hid (Made w.heap.size w W5) := But.made_ K4.out k5 K4.out.1.size (fun b hb => by have hb : b = g0 ∨ b = g1 := hb; omega)
  have HA5 := hid (HLs0.out.but k5 (fun b hb => by have hb : b = g0 ∨ b = g1 := hb; have h := HAp.out; show b < q0 ∨ e0.hi ≤ b; omega))
  have HB5 := hid (HLs1.out.but k5 (fun b hb => by have hb : b = g0 ∨ b = g1 := hb; have h := HAp.out; show b < q1 ∨ e1.hi ≤ b; omega))
  have hin1 : ∀ b, q1 ≤ b → b < e1.hi → ¬ (b = g0 ∨ b = g1) := fun b h1 h2 => by have h := HAp.out; omega
  have hlsB : ∀ g, ob1 = some ⟨g, 0, none⟩ → 0 < nB → q1 ≤ g ∧ g < e1.hi := fun g hg hn => by
    have := HLs1.out.offB (by rw [HSm1.out.1, HE.out.1]; exact hn) g 0 _ hg
    have h : ¬ (g < q1 ∨ e1.hi ≤ g) := this
    omega
  have HR5 : Hid (0 < nB → ∃ g, ob1 = some ⟨g, 0, none⟩ ∧ RowL encB 11 W5 g 34 nB e1.bs) := fun hn => by
    obtain ⟨g, e, hr⟩ := HRo1.out hn
    obtain ⟨h1, h2⟩ := hlsB g e hn
    exact ⟨g, e, hr.but k5 (hin1 g h1 h2)⟩
  have HM5 : Hid (∀ b ∈ e1.bs, 0 < b.n → ∃ g, b.ao = some ⟨g, 0, none⟩ ∧ q1 ≤ g ∧ g < e1.hi ∧ ¬ (ob1 = some ⟨g, 0, none⟩ ∨ oj1 = some ⟨g, 0, none⟩) ∧ Row W5 g 27 b.n b.f) := fun b hb hn => by
    rcases (HMi1.out b hb).2 with ⟨a, b', c⟩ | ⟨g, e, h3, h4, h5, h6⟩
    · omega
    · have h7 : ¬ (g < q1 ∨ e1.hi ≤ g) := HLs1.out.offP b hb hn g 0 _ e
      obtain ⟨A, h8, h9⟩ := h6 hn
      exact ⟨g, e, by omega, by omega, h4, A, h8.but k5 (hin1 g (by omega) (by omega)), h9⟩
  have hB : nB ≤ 1024 := by have := OK.out.hB.len; have := HE.out.1; omega
  have hJ : nJ ≤ 1024 := by have := OK.out.hJ.len; have := HE.out.2.1; omega
  have hl0 : Hid (e0.bs.length = nB) := HSm0.out.1.trans HE.out.1
  have hl1 : Hid (e1.bs.length = nB) := HSm1.out.1.trans HE.out.1
  have H8 : Hid (∀ b ∈ P.B, b.n ≤ 1073741824) := fun b hb => by have := n8_of OK.out b hb; omega
  have H80 : Hid (∀ b ∈ e0.bs, b.n ≤ 1073741824) := fun b hb => by obtain ⟨b0, hb0, hs⟩ := same_in HSm0.out hb; rw [hs.2.2.2.2.2.2.2.2.2.2.1]; exact H8.out b0 hb0
  clear k5 hin1 HLs0 HLs1 HRo0 HRo1 HMi0 HMi1 HN01 HN10 HCP HL4 HW4 HD4 K4 K4' hlsB
  have HSa := hid (fun v (k : Made W5.heap.size W5 v) => wsame_c true 0 nb nj 0 0 0 nb nj 0 0 ob oj none ob0 oj0 none nB cb nJ cj 0 0 nB cb0 nJ cj0 0 0 (HL5.out.at_.kept k) (HA5.out.at_.kept k) ⟨HE.out.1, HE.out.2.1, rfl⟩ ⟨hl0.out, HE.out.2.1, rfl⟩ ⟨by omega, by omega, by omega⟩ H8.out (iff_of_true rfl ⟨rfl, rfl, rfl, ⟨rfl, rfl⟩, HSm0.out.eq, rfl, rfl⟩))
  have HSb := hid (fun v (k : Made W5.heap.size W5 v) => wsame_c true 0 nb nj 0 0 0 nb nj 0 0 ob0 oj0 none ob1 oj1 none nB cb0 nJ cj0 0 0 nB cb1 nJ cj1 0 0 (HA5.out.at_.kept k) (HB5.out.at_.kept k) ⟨hl0.out, HE.out.2.1, rfl⟩ ⟨hl1.out, HE.out.2.1, rfl⟩ ⟨by omega, by omega, by omega⟩ H80.out (iff_of_true rfl ⟨rfl, rfl, rfl, ⟨rfl, rfl⟩, HSm0.out.eq.symm.trans HSm1.out.eq, rfl, rfl⟩))
  have b0 := HW5.out.at_ 0
  have b1 := HW5.out.at_ 1
  have b2 := HW5.out.at_ 2
  have b3 := HW5.out.at_ 3
  have b4 := HW5.out.at_ 4
  have b5 := HW5.out.at_ 5
  have b6 := HW5.out.at_ 6
  have b7 := HW5.out.at_ 7
  simp at b0 b1 b2 b3 b4 b5 b6 b7
  have lw : gw < W5.heap.size := HW5.out.here
  have a0 := HG0.out.at_ 0
  have a1 := HG0.out.at_ 1
  have a2 := HG0.out.at_ 2
  have a3 := HG0.out.at_ 3
  have a4 := HG0.out.at_ 4
  have a5 := HG0.out.at_ 5
  have a6 := HG0.out.at_ 6
  have a7 := HG0.out.at_ 7
  simp at a0 a1 a2 a3 a4 a5 a6 a7
  have la : g0 < W5.heap.size := HG0.out.here
  go_wp2_with fail
  refine (HSa.out _ (Made.rfl_ _ _)).mono ?_
  rintro e w6 ⟨rfl, k6⟩
  have K56 := hid k6
  have HA6 := hid (HG0.out.stays k6 HG0.out.here)
  have HB6 := hid (HG1.out.stays k6 HG1.out.here)
  clear k6 b0 b1 b2 b3 b4 b5 b6 b7 a0 a1 a2 a3 a4 a5 a6 a7 lw la HSa
  have a0 := HA6.out.at_ 0
  have a1 := HA6.out.at_ 1
  have a2 := HA6.out.at_ 2
  have a3 := HA6.out.at_ 3
  have a4 := HA6.out.at_ 4
  have a5 := HA6.out.at_ 5
  have a6 := HA6.out.at_ 6
  have a7 := HA6.out.at_ 7
  simp at a0 a1 a2 a3 a4 a5 a6 a7
  have la : g0 < w6.heap.size := HA6.out.here
  have c0 := HB6.out.at_ 0
  have c1 := HB6.out.at_ 1
  have c2 := HB6.out.at_ 2
  have c3 := HB6.out.at_ 3
  have c4 := HB6.out.at_ 4
  have c5 := HB6.out.at_ 5
  have c6 := HB6.out.at_ 6
  have c7 := HB6.out.at_ 7
  simp at c0 c1 c2 c3 c4 c5 c6 c7
  have lc : g1 < w6.heap.size := HB6.out.here
  go_wp2_with fail
  refine (HSb.out _ K56.out).mono ?_
  rintro e w7 ⟨rfl, k7⟩
  have K57 := hid (K56.out.then_ (k7.low K56.out.1.size))
  clear k7 a0 a1 a2 a3 a4 a5 a6 a7 c0 c1 c2 c3 c4 c5 c6 c7 la lc HSb HA6 HB6 K56
  have HW7 := hid (HW5.out.stays K57.out HW5.out.here)
  have HA7 := hid (HG0.out.stays K57.out HG0.out.here)
  have HB7 := hid (HG1.out.stays K57.out HG1.out.here)
  have HD7 := hid (HD5.out.stays K57.out HD5.out.here)
  have HL7 := hid (HL5.out.kept K57.out)
  have HLA7 := hid (HA5.out.kept K57.out)
  have HLB7 := hid (HB5.out.kept K57.out)
  have HR7 : Hid (0 < nB → ∃ g, ob1 = some ⟨g, 0, none⟩ ∧ RowL encB 11 w7 g 34 nB e1.bs) := fun hn => by obtain ⟨g, e, hr⟩ := HR5.out hn; exact ⟨g, e, hr.stays K57.out hr.here⟩
  have HM7 : Hid (∀ b ∈ e1.bs, 0 < b.n → ∃ g, b.ao = some ⟨g, 0, none⟩ ∧ q1 ≤ g ∧ g < e1.hi ∧ ¬ (ob1 = some ⟨g, 0, none⟩ ∨ oj1 = some ⟨g, 0, none⟩) ∧ Row w7 g 27 b.n b.f) := fun b hb hn => by
    obtain ⟨g, e, h1, h2, h3, A, h4, h5⟩ := HM5.out b hb hn
    exact ⟨g, e, h1, h2, h3, A, h4.stays K57.out h4.here, h5⟩
  have K7 := hid (K5.out.then_ (K57.out.low K5.out.1.size))
  clear K57 HW5 HG0 HG1 HD5 HL5 HA5 HB5 HR5 HM5
  obtain ⟨S, eS⟩ : ∃ z, (nB : Int) + (nJ : Int) = z := ⟨_, rfl⟩
  have b0 := HW7.out.at_ 0
  have b1 := HW7.out.at_ 1
  have b2 := HW7.out.at_ 2
  have b3 := HW7.out.at_ 3
  have b4 := HW7.out.at_ 4
  have b5 := HW7.out.at_ 5
  have b6 := HW7.out.at_ 6
  have b7 := HW7.out.at_ 7
  simp at b0 b1 b2 b3 b4 b5 b6 b7
  have lw : gw < w7.heap.size := HW7.out.here
  have la : g0 < w7.heap.size := HA7.out.here
  have HVa : Hid (WV0 (fun b => b = g0) w7 g0 ⟨P.nb, P.nj, e0.bs, P.J, []⟩) := by
    unfold Hid
    refine ⟨ob0, oj0, cb0, cj0, ?_, HLA7.out.free (fun b hb => by have hb : b = g0 := hb; have h := HAp.out; exact .inl (by show b < q0 ∨ e0.hi ≤ b; omega))⟩
    show Has w7 g0 _ #[_, .int .i64 P.nb, .int .i64 P.nj, _, _, .slice ob0 e0.bs.length cb0, .slice oj0 P.J.length cj0, _]
    rw [HE.out.2.2.1, HE.out.2.2.2, hl0.out, HE.out.2.1]
    exact HA7.out
  have HDO := hid (do_0 (X := fun b => b = g0) _ bd HBD.out HDI.out HVa.out (copy_ok OK.out SM.out HSm0.out) rfl (fun b hb => by have hb : b = g0 := hb; rw [hb]; exact la) (HS.out _ K7.out) (by simp))
  go_upto_region 10 with fail
  go_wp2_with (refine wpList_load_row rfl 36 (.tmp 4) rfl gd rfl 36 _ (0, 0) _ HD7.out Tryz.underlying36 rfl (by kernel_rfl) ?_)
  refine HDO.out.mono ?_
  rintro e w8 ⟨n', er, gone, P', rfl, hst, hv, kb⟩
  have HW8 := hid (HW7.out.but kb (by show ¬ gw = g0; omega))
  have HB8 := hid (HB7.out.but kb (by have h := HAp.out; show ¬ g1 = g0; omega))
  have HL8 := hid (HL7.out.but kb (fun b hb => by have hb : b = g0 := hb; show gw ≤ b; omega))
  have HLB8 := hid (HLB7.out.but kb (fun b hb => by have hb : b = g0 := hb; have h := HAp.out; show b < q1 ∨ e1.hi ≤ b; omega))
  have HR8 : Hid (0 < nB → ∃ g, ob1 = some ⟨g, 0, none⟩ ∧ q1 ≤ g ∧ g < e1.hi ∧ RowL encB 11 w8 g 34 nB e1.bs) := fun hn => by
    obtain ⟨g, e, hr⟩ := HR7.out hn
    have h7 : ¬ (g < q1 ∨ e1.hi ≤ g) := HLB7.out.offB (by rw [hl1.out]; exact hn) g 0 _ e
    exact ⟨g, e, by omega, by omega, hr.but kb (by have h := HAp.out; show ¬ g = g0; omega)⟩
  have HM8 : Hid (∀ b ∈ e1.bs, 0 < b.n → ∃ g, b.ao = some ⟨g, 0, none⟩ ∧ q1 ≤ g ∧ g < e1.hi ∧ ¬ (ob1 = some ⟨g, 0, none⟩ ∨ oj1 = some ⟨g, 0, none⟩) ∧ Row w8 g 27 b.n b.f) := fun b hb hn => by
    obtain ⟨g, e, h1, h2, h3, A, h4, h5⟩ := HM7.out b hb hn
    exact ⟨g, e, h1, h2, h3, A, h4.but kb (by have h := HAp.out; show ¬ g = g0; omega), h5⟩
  have K8 : Hid (Made w.heap.size w w8) := But.made_ K7.out kb K7.out.1.size (fun b hb => by have hb : b = g0 := hb; omega)
  clear hst hv kb HDO HVa b0 b1 b2 b3 b4 b5 b6 b7 lw la HW7 HA7 HB7 HD7 HL7 HLA7 HLB7 HR7 HM7 K7
  have HSc := hid (wsame_c true 0 nb nj 0 0 0 nb nj 0 0 ob oj none ob1 oj1 none nB cb nJ cj 0 0 nB cb1 nJ cj1 0 0 HL8.out.at_ HLB8.out.at_ ⟨HE.out.1, HE.out.2.1, rfl⟩ ⟨hl1.out, HE.out.2.1, rfl⟩ ⟨by omega, by omega, by omega⟩ H8.out (iff_of_true rfl ⟨rfl, rfl, rfl, ⟨rfl, rfl⟩, HSm1.out.eq, rfl, rfl⟩))
  have b0 := HW8.out.at_ 0
  have b1 := HW8.out.at_ 1
  have b2 := HW8.out.at_ 2
  have b3 := HW8.out.at_ 3
  have b4 := HW8.out.at_ 4
  have b5 := HW8.out.at_ 5
  have b6 := HW8.out.at_ 6
  have b7 := HW8.out.at_ 7
  simp at b0 b1 b2 b3 b4 b5 b6 b7
  have lw : gw < w8.heap.size := HW8.out.here
  have c0 := HB8.out.at_ 0
  have c1 := HB8.out.at_ 1
  have c2 := HB8.out.at_ 2
  have c3 := HB8.out.at_ 3
  have c4 := HB8.out.at_ 4
  have c5 := HB8.out.at_ 5
  have c6 := HB8.out.at_ 6
  have c7 := HB8.out.at_ 7
  simp at c0 c1 c2 c3 c4 c5 c6 c7
  have lc : g1 < w8.heap.size := HB8.out.here
  go_wp2_with fail
  refine HSc.out.mono ?_
  rintro e w9 ⟨rfl, k9⟩
  have HW9 := hid (HW8.out.stays k9 HW8.out.here)
  have HB9 := hid (HB8.out.stays k9 HB8.out.here)
  have HL9 := hid (HL8.out.kept k9)
  have HLB9 := hid (HLB8.out.kept k9)
  have HR9 : Hid (0 < nB → ∃ g, ob1 = some ⟨g, 0, none⟩ ∧ q1 ≤ g ∧ g < e1.hi ∧ RowL encB 11 w9 g 34 nB e1.bs) := fun hn => by obtain ⟨g, e, h1, h2, hr⟩ := HR8.out hn; exact ⟨g, e, h1, h2, hr.stays k9 hr.here⟩
  have HM9 : Hid (∀ b ∈ e1.bs, 0 < b.n → ∃ g, b.ao = some ⟨g, 0, none⟩ ∧ q1 ≤ g ∧ g < e1.hi ∧ ¬ (ob1 = some ⟨g, 0, none⟩ ∨ oj1 = some ⟨g, 0, none⟩) ∧ Row w9 g 27 b.n b.f) := fun b hb hn => by
    obtain ⟨g, e, h1, h2, h3, A, h4, h5⟩ := HM8.out b hb hn
    exact ⟨g, e, h1, h2, h3, A, h4.stays k9 h4.here, h5⟩
  have K9 := hid (K8.out.then_ (k9.low K8.out.1.size))
  have hwq : Hid (gw < q1 ∧ w.heap.size ≤ q1) := by have h1 := HLo1.out; have h2 := HGW.out; exact ⟨by omega, by omega⟩
  clear k9 HSc b0 b1 b2 b3 b4 b5 b6 b7 c0 c1 c2 c3 c4 c5 c6 c7 lw lc HW8 HB8 HL8 HLB8 HR8 HM8 K8
  have hSS : (S != S) = false := by simp
  have b0 := HW9.out.at_ 0
  have b1 := HW9.out.at_ 1
  have b2 := HW9.out.at_ 2
  have b3 := HW9.out.at_ 3
  have b4 := HW9.out.at_ 4
  have b5 := HW9.out.at_ 5
  have b6 := HW9.out.at_ 6
  have b7 := HW9.out.at_ 7
  simp at b0 b1 b2 b3 b4 b5 b6 b7
  have lw : gw < w9.heap.size := HW9.out.here
  have c0 := HB9.out.at_ 0
  have c1 := HB9.out.at_ 1
  have c2 := HB9.out.at_ 2
  have c3 := HB9.out.at_ 3
  have c4 := HB9.out.at_ 4
  have c5 := HB9.out.at_ 5
  have c6 := HB9.out.at_ 6
  have c7 := HB9.out.at_ 7
  simp at c0 c1 c2 c3 c4 c5 c6 c7
  have lc : g1 < w9.heap.size := HB9.out.here
  have fc : ∀ i, w9.frozen? ⟨g1, i, none⟩ = false := HB9.out.free
  obtain ⟨m, em⟩ : ∃ z, how % 4 = z := ⟨_, rfl⟩
  have aH := (and3 how).trans em
  have hm : 0 ≤ m ∧ m < 4 := by omega
  obtain ⟨z4, aZ⟩ := and4 how
  have OKp : Hid (POk ⟨P.nb, P.nj, P.B, P.J, []⟩) := by
    have h := OK.out
    have e := SM.out
    cases P
    simp only [] at e
    subst e
    exact h
  clear em
  go_upto_region 18 with fail
  clear eS hSS
  have hm' : m = 0 ∨ m = 1 ∨ (m = 2 ∨ m = 3) := by omega
  clear hm
  rcases hm' with rfl | rfl | hm'
  · go_upto_region 26 with fail
    obtain ⟨WX, eWX⟩ : ∃ V, V = w9.setCell ⟨g1, 0, none⟩ (.int .i64 1) := ⟨_, rfl⟩
    have kx : But (fun b => b = g1) w9 WX := by rw [eWX]; exact (But.rfl_ (fun b => b = g1) _).put (p := ⟨g1, 0, none⟩) (.inl rfl) _
    have HWx := hid (HW9.out.but kx (by show ¬ gw = g1; omega))
    have HBx : Hid (Has WX g1 42 #[.int .i64 1, .int .i64 nb, .int .i64 nj, .int .i64 0, .int .i64 0, .slice ob1 nB cb1, .slice oj1 nJ cj1, .slice none 0 0]) := by unfold Hid; rw [eWX]; exact HB9.out.put 0 _
    have HLx := hid (HL9.out.but kx (fun b hb => by have hb : b = g1 := hb; show gw ≤ b; omega))
    have HWdb : Hid (WdAt WX ob1 e1.bs oj1 P.J none []) := (HLB9.out.but kx (fun b hb => by have hb : b = g1 := hb; have h := HAp.out; show b < q1 ∨ e1.hi ≤ b; omega)).at_
    have Kx : Hid (Made w.heap.size w WX) := But.made_ K9.out kx K9.out.1.size (fun b hb => by have hb : b = g1 := hb; omega)
    rw [← eWX]
    clear eWX kx b0 b1 b2 b3 b4 b5 b6 b7 c0 c1 c2 c3 c4 c5 c6 c7 lw lc fc
    have HSx := hid (wsame_c false 0 nb nj 0 0 1 nb nj 0 0 ob oj none ob1 oj1 none nB cb nJ cj 0 0 nB cb1 nJ cj1 0 0 HLx.out.at_ HWdb.out ⟨HE.out.1, HE.out.2.1, rfl⟩ ⟨hl1.out, HE.out.2.1, rfl⟩ ⟨by omega, by omega, by omega⟩ H8.out (iff_of_false (by simp) (fun h => by have h1 := h.1; omega)))
    have HRx := hid (fun v (k : Made WX.heap.size WX v) => right_yes (P := ⟨P.nb, P.nj, P.B, P.J, []⟩) (HLx.out.kept k) OKp.out (And.intro HE.out.1 (And.intro HE.out.2.1 (And.intro rfl HE.out.2.2))) (by simp))
    have b0 := HWx.out.at_ 0
    have b1 := HWx.out.at_ 1
    have b2 := HWx.out.at_ 2
    have b3 := HWx.out.at_ 3
    have b4 := HWx.out.at_ 4
    have b5 := HWx.out.at_ 5
    have b6 := HWx.out.at_ 6
    have b7 := HWx.out.at_ 7
    simp at b0 b1 b2 b3 b4 b5 b6 b7
    have lw : gw < WX.heap.size := HWx.out.here
    have c0 := HBx.out.at_ 0
    have c1 := HBx.out.at_ 1
    have c2 := HBx.out.at_ 2
    have c3 := HBx.out.at_ 3
    have c4 := HBx.out.at_ 4
    have c5 := HBx.out.at_ 5
    have c6 := HBx.out.at_ 6
    have c7 := HBx.out.at_ 7
    simp at c0 c1 c2 c3 c4 c5 c6 c7
    have lc : g1 < WX.heap.size := HBx.out.here
    go_wp2_with fail
    refine HSx.out.mono ?_
    rintro e w11 ⟨rfl, k11⟩
    have K11 := hid (Kx.out.then_ (k11.low Kx.out.1.size))
    have HW11 := hid (HWx.out.stays k11 HWx.out.here)
    have HRy := hid (HRx.out _ k11)
    clear k11 b0 b1 b2 b3 b4 b5 b6 b7 c0 c1 c2 c3 c4 c5 c6 c7 lw lc HSx HRx
    have b0 := HW11.out.at_ 0
    have b1 := HW11.out.at_ 1
    have b2 := HW11.out.at_ 2
    have b3 := HW11.out.at_ 3
    have b4 := HW11.out.at_ 4
    have b5 := HW11.out.at_ 5
    have b6 := HW11.out.at_ 6
    have b7 := HW11.out.at_ 7
    simp at b0 b1 b2 b3 b4 b5 b6 b7
    have lw : gw < w11.heap.size := HW11.out.here
    go_wp2_with fail
    refine HRy.out.mono ?_
    rintro e w12 ⟨rfl, k12⟩
    have K12 := hid (K11.out.then_ (k12.low K11.out.1.size))
    clear k12 b0 b1 b2 b3 b4 b5 b6 b7 lw
    go_wp2_with fail
    go_ret
    exact ⟨rfl, K12.out⟩
  · obtain ⟨i0, hi, hz0, hz1, hz2⟩ := info_parts infoC
    have iHi := hid hi; have iH0 := hid hz0; have iH1 := hid hz1; have iH2 := hid hz2
    clear hi hz0 hz1 hz2
    go_wp2_with (at_builtin; refine wpList_append_made _ rfl _ _ 40 rfl w9.heap.size 51 i0 (.agg #[.int .i64 0, .int .i64 0, .int .i64 0, .int .i64 0, .int .i64 0]) 5 40 Tryz.underlying40 iHi.out iH0.out iH1.out iH2.out rfl (by decide) (.slice none 0 0) 0 [] rfl (World.ownsRow_nil _ _ _ _) ⟨w9.heap.size, 0, none⟩ 1 1 (encC ⟨0, 0, 0, 0, 0⟩) rfl rfl (has_news (has_new _ _ _)) (encC_one _) (by unfold maxLen; omega) (by omega) (by simp) (by omega) ?_)
    intro v' wk hown hgr hfr
    have kk : Made w9.heap.size w9 wk := ((Made.rfl_ _ _).cells (Nat.le_refl _) _ _).app hgr hfr (by simp) (fun k hk => by simp [Value.ownBlock] at hk)
    obtain ⟨oc1, cc1, ev⟩ : ∃ oc1 cc1, v' = .slice oc1 1 cc1 := by
      rcases hown.2 with ⟨_, h0⟩ | ⟨g, cap, cur, e, _⟩
      · omega
      · exact ⟨_, _, e⟩
    subst ev
    have hown : wk.ownsRow w9.heap.size 51 5 (.slice oc1 1 cc1) 1 (flatE encC [⟨0, 0, 0, 0, 0⟩]) := hown
    have HBk := hid (HB9.out.stays kk lc)
    have hag := own_apart hown HBk.out (by decide)
    have HOW := hid (And.intro hown hag)
    have HWk := hid (HW9.out.stays kk lw)
    have HLk := hid (HL9.out.kept kk)
    have HLBk := hid (HLB9.out.kept kk)
    have Kk := hid (K9.out.then_ (kk.low K9.out.1.size))
    clear hown hag kk hgr hfr b0 b1 b2 b3 b4 b5 b6 b7 c0 c1 c2 c3 c4 c5 c6 c7 lw lc fc
    have c0 := HBk.out.at_ 0
    have c1 := HBk.out.at_ 1
    have c2 := HBk.out.at_ 2
    have c3 := HBk.out.at_ 3
    have c4 := HBk.out.at_ 4
    have c5 := HBk.out.at_ 5
    have c6 := HBk.out.at_ 6
    have c7 := HBk.out.at_ 7
    simp at c0 c1 c2 c3 c4 c5 c6 c7
    have lc : g1 < wk.heap.size := HBk.out.here
    have fc : ∀ i, wk.frozen? ⟨g1, i, none⟩ = false := HBk.out.free
    go_upto_region 26 with fail
    obtain ⟨WX, eWX⟩ : ∃ V, V = wk.setCell ⟨g1, 7, none⟩ (.slice oc1 1 cc1) := ⟨_, rfl⟩
    have kx : But (fun b => b = g1) wk WX := by rw [eWX]; exact (But.rfl_ (fun b => b = g1) _).put (p := ⟨g1, 7, none⟩) (.inl rfl) _
    have HWx := hid (HWk.out.but kx (by show ¬ gw = g1; omega))
    have HBx : Hid (Has WX g1 42 #[.int .i64 0, .int .i64 nb, .int .i64 nj, .int .i64 0, .int .i64 0, .slice ob1 nB cb1, .slice oj1 nJ cj1, .slice oc1 1 cc1]) := by unfold Hid; rw [eWX]; exact HBk.out.put 7 _
    have HLx := hid (HLk.out.but kx (fun b hb => by have hb : b = g1 := hb; show gw ≤ b; omega))
    have HOx : Hid (WX.ownsRow w9.heap.size 51 5 (.slice oc1 1 cc1) 1 (flatE encC [⟨0, 0, 0, 0, 0⟩])) := by unfold Hid; rw [eWX]; exact own_other' HOW.out.1 (p := ⟨g1, 7, none⟩) (fun e => HOW.out.2 e.symm) _
    have HWdb : Hid (WdAt WX ob1 e1.bs oj1 P.J oc1 [⟨0, 0, 0, 0, 0⟩]) := by
      have h := (HLBk.out.but kx (fun b hb => by have hb : b = g1 := hb; have h := HAp.out; show b < q1 ∨ e1.hi ≤ b; omega)).at_
      exact ⟨h.lB, h.lJ, own_LsT encC_len HOx.out rfl, h.sB, h.iJ, fun x hx => by rw [List.mem_singleton.1 hx]; unfold CtI I64; simp⟩
    have Kx : Hid (Made w.heap.size w WX) := But.made_ Kk.out kx Kk.out.1.size (fun b hb => by have hb : b = g1 := hb; omega)
    rw [← eWX]
    clear eWX kx c0 c1 c2 c3 c4 c5 c6 c7 lc fc
    have HSx := hid (wsame_c false 0 nb nj 0 0 0 nb nj 0 0 ob oj none ob1 oj1 oc1 nB cb nJ cj 0 0 nB cb1 nJ cj1 1 cc1 HLx.out.at_ HWdb.out ⟨HE.out.1, HE.out.2.1, rfl⟩ ⟨hl1.out, HE.out.2.1, rfl⟩ ⟨by omega, by omega, by omega⟩ H8.out (iff_of_false (by simp) (fun h => by have h1 := h.2.2.2.2.2.2; simp at h1)))
    have HRx := hid (fun v (k : Made WX.heap.size WX v) => right_yes (P := ⟨P.nb, P.nj, P.B, P.J, []⟩) (HLx.out.kept k) OKp.out (And.intro HE.out.1 (And.intro HE.out.2.1 (And.intro rfl HE.out.2.2))) (by simp))
    have b0 := HWx.out.at_ 0
    have b1 := HWx.out.at_ 1
    have b2 := HWx.out.at_ 2
    have b3 := HWx.out.at_ 3
    have b4 := HWx.out.at_ 4
    have b5 := HWx.out.at_ 5
    have b6 := HWx.out.at_ 6
    have b7 := HWx.out.at_ 7
    simp at b0 b1 b2 b3 b4 b5 b6 b7
    have lw : gw < WX.heap.size := HWx.out.here
    have c0 := HBx.out.at_ 0
    have c1 := HBx.out.at_ 1
    have c2 := HBx.out.at_ 2
    have c3 := HBx.out.at_ 3
    have c4 := HBx.out.at_ 4
    have c5 := HBx.out.at_ 5
    have c6 := HBx.out.at_ 6
    have c7 := HBx.out.at_ 7
    simp at c0 c1 c2 c3 c4 c5 c6 c7
    have lc : g1 < WX.heap.size := HBx.out.here
    go_wp2_with fail
    refine HSx.out.mono ?_
    rintro e w11 ⟨rfl, k11⟩
    have K11 := hid (Kx.out.then_ (k11.low Kx.out.1.size))
    have HW11 := hid (HWx.out.stays k11 HWx.out.here)
    have HRy := hid (HRx.out _ k11)
    clear k11 b0 b1 b2 b3 b4 b5 b6 b7 c0 c1 c2 c3 c4 c5 c6 c7 lw lc HSx HRx
    have b0 := HW11.out.at_ 0
    have b1 := HW11.out.at_ 1
    have b2 := HW11.out.at_ 2
    have b3 := HW11.out.at_ 3
    have b4 := HW11.out.at_ 4
    have b5 := HW11.out.at_ 5
    have b6 := HW11.out.at_ 6
    have b7 := HW11.out.at_ 7
    simp at b0 b1 b2 b3 b4 b5 b6 b7
    have lw : gw < w11.heap.size := HW11.out.here
    go_wp2_with fail
    refine HRy.out.mono ?_
    rintro e w12 ⟨rfl, k12⟩
    have K12 := hid (K11.out.then_ (k12.low K11.out.1.size))
    clear k12 b0 b1 b2 b3 b4 b5 b6 b7 lw
    go_wp2_with fail
    go_ret
    exact ⟨rfl, K12.out⟩
  have hq0 : (m == 0) = false := by simp; omega
  have hq1' : (m == 1) = false := by simp; omega
  clear hm'
  rcases Nat.eq_zero_or_pos nB with hz | hz
  · have hn0 : ((nB : Int) == 0) = true := by rw [hz]; rfl
    clear hz
    go_upto_region 26 with fail
    obtain ⟨WX, eWX⟩ : ∃ V, V = w9.setCell ⟨g1, 3, none⟩ (.int .i64 (-1)) := ⟨_, rfl⟩
    have kx : But (fun b => b = g1) w9 WX := by rw [eWX]; exact (But.rfl_ (fun b => b = g1) _).put (p := ⟨g1, 3, none⟩) (.inl rfl) _
    have HWx := hid (HW9.out.but kx (by show ¬ gw = g1; omega))
    have HBx : Hid (Has WX g1 42 #[.int .i64 0, .int .i64 nb, .int .i64 nj, .int .i64 (-1), .int .i64 0, .slice ob1 nB cb1, .slice oj1 nJ cj1, .slice none 0 0]) := by unfold Hid; rw [eWX]; exact HB9.out.put 3 _
    have HLx := hid (HL9.out.but kx (fun b hb => by have hb : b = g1 := hb; show gw ≤ b; omega))
    have HWdb : Hid (WdAt WX ob1 e1.bs oj1 P.J none []) := (HLB9.out.but kx (fun b hb => by have hb : b = g1 := hb; have h := HAp.out; show b < q1 ∨ e1.hi ≤ b; omega)).at_
    have Kx : Hid (Made w.heap.size w WX) := But.made_ K9.out kx K9.out.1.size (fun b hb => by have hb : b = g1 := hb; omega)
    rw [← eWX]
    clear eWX kx b0 b1 b2 b3 b4 b5 b6 b7 c0 c1 c2 c3 c4 c5 c6 c7 lw lc fc
    have HSx := hid (wsame_c false 0 nb nj 0 0 0 nb nj (-1) 0 ob oj none ob1 oj1 none nB cb nJ cj 0 0 nB cb1 nJ cj1 0 0 HLx.out.at_ HWdb.out ⟨HE.out.1, HE.out.2.1, rfl⟩ ⟨hl1.out, HE.out.2.1, rfl⟩ ⟨by omega, by omega, by omega⟩ H8.out (iff_of_false (by simp) (fun h => by have h1 := h.2.2.2.1.1; omega)))
    have HRx := hid (fun v (k : Made WX.heap.size WX v) => right_yes (P := ⟨P.nb, P.nj, P.B, P.J, []⟩) (HLx.out.kept k) OKp.out (And.intro HE.out.1 (And.intro HE.out.2.1 (And.intro rfl HE.out.2.2))) (by simp))
    have b0 := HWx.out.at_ 0
    have b1 := HWx.out.at_ 1
    have b2 := HWx.out.at_ 2
    have b3 := HWx.out.at_ 3
    have b4 := HWx.out.at_ 4
    have b5 := HWx.out.at_ 5
    have b6 := HWx.out.at_ 6
    have b7 := HWx.out.at_ 7
    simp at b0 b1 b2 b3 b4 b5 b6 b7
    have lw : gw < WX.heap.size := HWx.out.here
    have c0 := HBx.out.at_ 0
    have c1 := HBx.out.at_ 1
    have c2 := HBx.out.at_ 2
    have c3 := HBx.out.at_ 3
    have c4 := HBx.out.at_ 4
    have c5 := HBx.out.at_ 5
    have c6 := HBx.out.at_ 6
    have c7 := HBx.out.at_ 7
    simp at c0 c1 c2 c3 c4 c5 c6 c7
    have lc : g1 < WX.heap.size := HBx.out.here
    go_wp2_with fail
    refine HSx.out.mono ?_
    rintro e w11 ⟨rfl, k11⟩
    have K11 := hid (Kx.out.then_ (k11.low Kx.out.1.size))
    have HW11 := hid (HWx.out.stays k11 HWx.out.here)
    have HRy := hid (HRx.out _ k11)
    clear k11 b0 b1 b2 b3 b4 b5 b6 b7 c0 c1 c2 c3 c4 c5 c6 c7 lw lc HSx HRx
    have b0 := HW11.out.at_ 0
    have b1 := HW11.out.at_ 1
    have b2 := HW11.out.at_ 2
    have b3 := HW11.out.at_ 3
    have b4 := HW11.out.at_ 4
    have b5 := HW11.out.at_ 5
    have b6 := HW11.out.at_ 6
    have b7 := HW11.out.at_ 7
    simp at b0 b1 b2 b3 b4 b5 b6 b7
    have lw : gw < w11.heap.size := HW11.out.here
    go_wp2_with fail
    refine HRy.out.mono ?_
    rintro e w12 ⟨rfl, k12⟩
    have K12 := hid (K11.out.then_ (k12.low K11.out.1.size))
    clear k12 b0 b1 b2 b3 b4 b5 b6 b7 lw
    go_wp2_with fail
    go_ret
    exact ⟨rfl, K12.out⟩
  have hn0 : ((nB : Int) == 0) = false := by simp; omega
  obtain ⟨gB, eoB, hgB, hgB2, hrow⟩ := HR9.out hz
  obtain ⟨j, hj⟩ : ∃ j, nB = j + 1 := ⟨nB - 1, by omega⟩
  have hsub : (nB : Int) - 1 = (j : Int) := by omega
  have hjn : j < nB := by omega
  obtain ⟨yy, ey⟩ : ∃ a, e1.bs[j]? = some a := ⟨_, List.getElem?_eq_getElem (by rw [hl1.out]; exact hjn)⟩
  obtain ⟨z0, hz0⟩ : ∃ a, P.B[j]? = some a := ⟨_, List.getElem?_eq_getElem (by rw [HE.out.1]; exact hjn)⟩
  have hsame := HSm1.out.2 j _ _ hz0 ey
  have HZ0 := hid hz0
  have HSame := hid hsame
  have HBP := hid (OK.out.hB.all z0 (List.mem_of_getElem? hz0))
  have HMj := hid (HM9.out yy (List.mem_of_getElem? ey))
  have hcells := (hrow.lsB j _ ey).b11
  have HIy := hid ((HLB9.out.at_.sB yy (List.mem_of_getElem? ey)))
  obtain ⟨x0, x1, x2, x3, x4, x5, x6, x7, x8, x9, x10, x11, x12, x13⟩ := yy
  obtain ⟨e_0, e_1, e_2, e_3, e_4, e_5, e_6, e_7, e_8, e_9, e_10⟩ := hcells
  simp only [Nat.zero_add] at e_0 e_1 e_2 e_3 e_4 e_5 e_6 e_7 e_8 e_9 e_10
  have EYJ := hid ey
  have HRW := hid hrow
  have hv4 : Inn x4 17592186044416 := by have h := HBP.out.vy; have h2 := HSame.out.2.2.2.2.1; simp only [] at h2; rw [h2]; exact h
  have hr9 : 0 ≤ x9 ∧ x9 ≤ 274877906944 := by
    have h := HBP.out.shape
    have h2 := HSame.out.2.2.2.2.2.2.2.2.2.1
    simp only [] at h2
    rw [h2]
    rcases h with h | h
    · exact ⟨by have := h.2.2.1; omega, h.2.2.2⟩
    · have := h.2.1; omega
  unfold Inn at hv4
  have lB : gB < w9.heap.size := hrow.here
  have fB : ∀ i, w9.frozen? ⟨gB, i, none⟩ = false := hrow.free
  subst eoB
  clear hj hz ey hz0 hsame hrow
  have HJB : Hid (0 < P.J.length → ∀ off s, oj1 = some ⟨gB, off, s⟩ → False) := fun h0 off s e => HAj1.out (by omega) (by rw [← HE.out.2.1]; exact h0) gB _ _ _ _ rfl e
  obtain ⟨y4, ey4⟩ : ∃ z, x4 + 1 = z := ⟨_, rfl⟩
  by_cases h4 : z4 = 0
  · have hq4 : (z4 == 0) = true := by rw [h4]; rfl
    clear h4
    go_upto_region 26 with fail
    obtain ⟨WX, eWX⟩ : ∃ V, V = w9.setCell ⟨gB, j * 11 + 4, none⟩ (.int .i64 y4) := ⟨_, rfl⟩
    have kx : But (fun b => b = gB) w9 WX := by rw [eWX]; exact (But.rfl_ (fun b => b = gB) _).put (p := ⟨gB, j * 11 + 4, none⟩) (.inl rfl) _
    have HWx := hid (HW9.out.but kx (by have h := hwq.out; show ¬ gw = gB; omega))
    have HBx := hid (HB9.out.but kx (by have h := HAp.out; show ¬ g1 = gB; omega))
    have HLx := hid (HL9.out.but kx (fun b hb => by have hb : b = gB := hb; have h := hwq.out; show gw ≤ b; omega))
    have Kx : Hid (Made w.heap.size w WX) := But.made_ K9.out kx K9.out.1.size (fun b hb => by have hb : b = gB := hb; have h := hwq.out; omega)
    have hrow6 : RowL encB 11 WX gB 34 nB (e1.bs.set j (⟨x0, x1, x2, x3, y4, x5, x6, x7, x8, x9, x10, x11, x12, x13⟩ : Bd)) := by
      rw [eWX]
      refine HRW.out.part encB_len EYJ.out 4 [.int .i64 y4] (by simp) (fun b v hv => ?_)
      have hb : b < 11 := by rw [← encB_len (⟨x0, x1, x2, x3, y4, x5, x6, x7, x8, x9, x10, x11, x12, x13⟩ : Bd)]; exact (List.getElem?_eq_some_iff.1 hv).1
      match b, hb with
      | 0, _ => exact hv
      | 1, _ => exact hv
      | 2, _ => exact hv
      | 3, _ => exact hv
      | 4, _ => exact hv
      | 5, _ => exact hv
      | 6, _ => exact hv
      | 7, _ => exact hv
      | 8, _ => exact hv
      | 9, _ => exact hv
      | 10, _ => exact hv
    have HWdb : Hid (WdAt WX (some ⟨gB, 0, none⟩) (e1.bs.set j (⟨x0, x1, x2, x3, y4, x5, x6, x7, x8, x9, x10, x11, x12, x13⟩ : Bd)) oj1 P.J none []) := by
      have h := HLB9.out
      have hpB : ∀ b ∈ e1.bs, Sl WX b.ao b.n b.f := fun b hb hn => by
        obtain ⟨g', e', h1, h2, h3, h4⟩ := HM9.out b hb hn
        exact ((h.at_.sB b hb).1).but kx (fun b' off s e hx => by
          have hx : b' = gB := hx
          rw [e'] at e
          cases e
          exact h3 (.inl (by rw [hx]))) hn
      have hJ' : LsT encJ 8 WX oj1 P.J := h.at_.lJ.but' kx (fun h0 b off s e hx => by
        have hx : b = gB := hx
        subst hx
        exact HJB.out h0 _ _ e)
      refine ⟨hrow6.lsT, hJ', fun h => absurd h (by simp), fun b hb => ?_, h.at_.iJ, fun c hc => by simp at hc⟩
      rcases List.mem_or_eq_of_mem_set hb with hb | hb
      · exact ⟨hpB b hb, (h.at_.sB b hb).2⟩
      · rw [hb]
        obtain ⟨s1, s2⟩ := h.at_.sB _ (List.mem_of_getElem? EYJ.out)
        have hp := hpB _ (List.mem_of_getElem? EYJ.out)
        exact ⟨hp, ⟨s2.id, s2.x, s2.y, s2.vx, (by show I64 y4; unfold I64; omega), s2.an, s2.sp, s2.de, s2.k, s2.r, s2.f⟩⟩
    rw [← eWX]
    clear eWX kx hrow6 b0 b1 b2 b3 b4 b5 b6 b7 c0 c1 c2 c3 c4 c5 c6 c7 lw lc fc lB fB e_0 e_1 e_2 e_3 e_4 e_5 e_6 e_7 e_8 e_9 e_10
    have HSx := hid (wsame_c false 0 nb nj 0 0 0 nb nj 0 0 ob oj none (some ⟨gB, 0, none⟩) oj1 none nB cb nJ cj 0 0 nB cb1 nJ cj1 0 0 HLx.out.at_ HWdb.out ⟨HE.out.1, HE.out.2.1, rfl⟩ ⟨(by rw [List.length_set]; exact hl1.out), HE.out.2.1, rfl⟩ ⟨by omega, by omega, by omega⟩ H8.out (iff_of_false (by simp) (fun h => by have h1 := h.2.2.2.2.1.2 j _ _ HZ0.out (List.getElem?_set_self (by rw [hl1.out]; exact hjn)); have h2 := h1.2.2.1.2; have h3 := HSame.out.2.2.2.2.1; simp only [] at h2 h3; omega)))
    have HRx := hid (fun v (k : Made WX.heap.size WX v) => right_yes (P := ⟨P.nb, P.nj, P.B, P.J, []⟩) (HLx.out.kept k) OKp.out (And.intro HE.out.1 (And.intro HE.out.2.1 (And.intro rfl HE.out.2.2))) (by simp))
    have b0 := HWx.out.at_ 0
    have b1 := HWx.out.at_ 1
    have b2 := HWx.out.at_ 2
    have b3 := HWx.out.at_ 3
    have b4 := HWx.out.at_ 4
    have b5 := HWx.out.at_ 5
    have b6 := HWx.out.at_ 6
    have b7 := HWx.out.at_ 7
    simp at b0 b1 b2 b3 b4 b5 b6 b7
    have lw : gw < WX.heap.size := HWx.out.here
    have c0 := HBx.out.at_ 0
    have c1 := HBx.out.at_ 1
    have c2 := HBx.out.at_ 2
    have c3 := HBx.out.at_ 3
    have c4 := HBx.out.at_ 4
    have c5 := HBx.out.at_ 5
    have c6 := HBx.out.at_ 6
    have c7 := HBx.out.at_ 7
    simp at c0 c1 c2 c3 c4 c5 c6 c7
    have lc : g1 < WX.heap.size := HBx.out.here
    go_wp2_with fail
    refine HSx.out.mono ?_
    rintro e w11 ⟨rfl, k11⟩
    have K11 := hid (Kx.out.then_ (k11.low Kx.out.1.size))
    have HW11 := hid (HWx.out.stays k11 HWx.out.here)
    have HRy := hid (HRx.out _ k11)
    clear k11 b0 b1 b2 b3 b4 b5 b6 b7 c0 c1 c2 c3 c4 c5 c6 c7 lw lc HSx HRx
    have b0 := HW11.out.at_ 0
    have b1 := HW11.out.at_ 1
    have b2 := HW11.out.at_ 2
    have b3 := HW11.out.at_ 3
    have b4 := HW11.out.at_ 4
    have b5 := HW11.out.at_ 5
    have b6 := HW11.out.at_ 6
    have b7 := HW11.out.at_ 7
    simp at b0 b1 b2 b3 b4 b5 b6 b7
    have lw : gw < w11.heap.size := HW11.out.here
    go_wp2_with fail
    refine HRy.out.mono ?_
    rintro e w12 ⟨rfl, k12⟩
    have K12 := hid (K11.out.then_ (k12.low K11.out.1.size))
    clear k12 b0 b1 b2 b3 b4 b5 b6 b7 lw
    go_wp2_with fail
    go_ret
    exact ⟨rfl, K12.out⟩
  have hq4 : (z4 == 0) = false := by simpa using h4
  clear h4 ey4
  rcases Nat.eq_zero_or_pos x11 with hz | hz
  · have hx0 : ((x11 : Int) == 0) = true := by rw [hz]; rfl
    obtain ⟨y9, ey9⟩ : ∃ z, x9 + 1 = z := ⟨_, rfl⟩
    clear hz
    go_upto_region 26 with fail
    obtain ⟨WX, eWX⟩ : ∃ V, V = w9.setCell ⟨gB, j * 11 + 9, none⟩ (.int .i64 y9) := ⟨_, rfl⟩
    have kx : But (fun b => b = gB) w9 WX := by rw [eWX]; exact (But.rfl_ (fun b => b = gB) _).put (p := ⟨gB, j * 11 + 9, none⟩) (.inl rfl) _
    have HWx := hid (HW9.out.but kx (by have h := hwq.out; show ¬ gw = gB; omega))
    have HBx := hid (HB9.out.but kx (by have h := HAp.out; show ¬ g1 = gB; omega))
    have HLx := hid (HL9.out.but kx (fun b hb => by have hb : b = gB := hb; have h := hwq.out; show gw ≤ b; omega))
    have Kx : Hid (Made w.heap.size w WX) := But.made_ K9.out kx K9.out.1.size (fun b hb => by have hb : b = gB := hb; have h := hwq.out; omega)
    have hrow6 : RowL encB 11 WX gB 34 nB (e1.bs.set j (⟨x0, x1, x2, x3, x4, x5, x6, x7, x8, y9, x10, x11, x12, x13⟩ : Bd)) := by
      rw [eWX]
      refine HRW.out.part encB_len EYJ.out 9 [.int .i64 y9] (by simp) (fun b v hv => ?_)
      have hb : b < 11 := by rw [← encB_len (⟨x0, x1, x2, x3, x4, x5, x6, x7, x8, y9, x10, x11, x12, x13⟩ : Bd)]; exact (List.getElem?_eq_some_iff.1 hv).1
      match b, hb with
      | 0, _ => exact hv
      | 1, _ => exact hv
      | 2, _ => exact hv
      | 3, _ => exact hv
      | 4, _ => exact hv
      | 5, _ => exact hv
      | 6, _ => exact hv
      | 7, _ => exact hv
      | 8, _ => exact hv
      | 9, _ => exact hv
      | 10, _ => exact hv
    have HWdb : Hid (WdAt WX (some ⟨gB, 0, none⟩) (e1.bs.set j (⟨x0, x1, x2, x3, x4, x5, x6, x7, x8, y9, x10, x11, x12, x13⟩ : Bd)) oj1 P.J none []) := by
      have h := HLB9.out
      have hpB : ∀ b ∈ e1.bs, Sl WX b.ao b.n b.f := fun b hb hn => by
        obtain ⟨g', e', h1, h2, h3, h4⟩ := HM9.out b hb hn
        exact ((h.at_.sB b hb).1).but kx (fun b' off s e hx => by
          have hx : b' = gB := hx
          rw [e'] at e
          cases e
          exact h3 (.inl (by rw [hx]))) hn
      have hJ' : LsT encJ 8 WX oj1 P.J := h.at_.lJ.but' kx (fun h0 b off s e hx => by
        have hx : b = gB := hx
        subst hx
        exact HJB.out h0 _ _ e)
      refine ⟨hrow6.lsT, hJ', fun h => absurd h (by simp), fun b hb => ?_, h.at_.iJ, fun c hc => by simp at hc⟩
      rcases List.mem_or_eq_of_mem_set hb with hb | hb
      · exact ⟨hpB b hb, (h.at_.sB b hb).2⟩
      · rw [hb]
        obtain ⟨s1, s2⟩ := h.at_.sB _ (List.mem_of_getElem? EYJ.out)
        have hp := hpB _ (List.mem_of_getElem? EYJ.out)
        exact ⟨hp, ⟨s2.id, s2.x, s2.y, s2.vx, s2.vy, s2.an, s2.sp, s2.de, s2.k, (by show I64 y9; unfold I64; omega), s2.f⟩⟩
    rw [← eWX]
    clear eWX kx hrow6 b0 b1 b2 b3 b4 b5 b6 b7 c0 c1 c2 c3 c4 c5 c6 c7 lw lc fc lB fB e_0 e_1 e_2 e_3 e_4 e_5 e_6 e_7 e_8 e_9 e_10
    have HSx := hid (wsame_c false 0 nb nj 0 0 0 nb nj 0 0 ob oj none (some ⟨gB, 0, none⟩) oj1 none nB cb nJ cj 0 0 nB cb1 nJ cj1 0 0 HLx.out.at_ HWdb.out ⟨HE.out.1, HE.out.2.1, rfl⟩ ⟨(by rw [List.length_set]; exact hl1.out), HE.out.2.1, rfl⟩ ⟨by omega, by omega, by omega⟩ H8.out (iff_of_false (by simp) (fun h => by have h1 := h.2.2.2.2.1.2 j _ _ HZ0.out (List.getElem?_set_self (by rw [hl1.out]; exact hjn)); have h2 := h1.2.2.2.2.2.2.2.1; have h3 := HSame.out.2.2.2.2.2.2.2.2.2.1; simp only [] at h2 h3; omega)))
    have HRx := hid (fun v (k : Made WX.heap.size WX v) => right_yes (P := ⟨P.nb, P.nj, P.B, P.J, []⟩) (HLx.out.kept k) OKp.out (And.intro HE.out.1 (And.intro HE.out.2.1 (And.intro rfl HE.out.2.2))) (by simp))
    have b0 := HWx.out.at_ 0
    have b1 := HWx.out.at_ 1
    have b2 := HWx.out.at_ 2
    have b3 := HWx.out.at_ 3
    have b4 := HWx.out.at_ 4
    have b5 := HWx.out.at_ 5
    have b6 := HWx.out.at_ 6
    have b7 := HWx.out.at_ 7
    simp at b0 b1 b2 b3 b4 b5 b6 b7
    have lw : gw < WX.heap.size := HWx.out.here
    have c0 := HBx.out.at_ 0
    have c1 := HBx.out.at_ 1
    have c2 := HBx.out.at_ 2
    have c3 := HBx.out.at_ 3
    have c4 := HBx.out.at_ 4
    have c5 := HBx.out.at_ 5
    have c6 := HBx.out.at_ 6
    have c7 := HBx.out.at_ 7
    simp at c0 c1 c2 c3 c4 c5 c6 c7
    have lc : g1 < WX.heap.size := HBx.out.here
    go_wp2_with fail
    refine HSx.out.mono ?_
    rintro e w11 ⟨rfl, k11⟩
    have K11 := hid (Kx.out.then_ (k11.low Kx.out.1.size))
    have HW11 := hid (HWx.out.stays k11 HWx.out.here)
    have HRy := hid (HRx.out _ k11)
    clear k11 b0 b1 b2 b3 b4 b5 b6 b7 c0 c1 c2 c3 c4 c5 c6 c7 lw lc HSx HRx
    have b0 := HW11.out.at_ 0
    have b1 := HW11.out.at_ 1
    have b2 := HW11.out.at_ 2
    have b3 := HW11.out.at_ 3
    have b4 := HW11.out.at_ 4
    have b5 := HW11.out.at_ 5
    have b6 := HW11.out.at_ 6
    have b7 := HW11.out.at_ 7
    simp at b0 b1 b2 b3 b4 b5 b6 b7
    have lw : gw < w11.heap.size := HW11.out.here
    go_wp2_with fail
    refine HRy.out.mono ?_
    rintro e w12 ⟨rfl, k12⟩
    have K12 := hid (K11.out.then_ (k12.low K11.out.1.size))
    clear k12 b0 b1 b2 b3 b4 b5 b6 b7 lw
    go_wp2_with fail
    go_ret
    exact ⟨rfl, K12.out⟩
  have hx0 : ((x11 : Int) == 0) = false := by simp; omega
  obtain ⟨gp, ep, hp1, hp2, hp3, hrp⟩ := HMj.out hz
  have ep : x10 = some ⟨gp, 0, none⟩ := ep
  subst ep
  have hpB : ¬ gp = gB := fun e => hp3 (.inl (by rw [e]))
  have hpJ : ¬ (oj1 = some ⟨gp, 0, none⟩) := fun e => hp3 (.inr e)
  have hrp : Row w9 gp 27 x11 x13 := hrp
  have HRp := hid hrp
  have hc0 := (hrp.pts 0 hz).1
  have fp : ∀ i, w9.frozen? ⟨gp, i, none⟩ = false := by obtain ⟨A, hA, _⟩ := hrp; exact hA.free
  have lp : gp < w9.heap.size := by obtain ⟨A, hA, _⟩ := hrp; exact hA.here
  simp only [Nat.zero_add, Nat.zero_mul] at hc0
  obtain ⟨p0, ep0⟩ : ∃ z, (x13 0).1 = z := ⟨_, rfl⟩
  rw [ep0] at hc0
  have hnear : -274877906944 ≤ p0 ∧ p0 ≤ 274877906944 := by
    have h := HBP.out.shape
    have h2 := HSame.out.2.2.2.2.2.2.2.2.2.2.1
    have h3 := HSame.out.2.2.2.2.2.2.2.2.2.2.2
    simp only [] at h2 h3
    rcases h with h | h
    · omega
    · have h4 := h.2.2.2.2.1 0 (by omega)
      rw [← h3] at h4
      unfold NearP at h4
      omega
  have EP0 := hid ep0
  obtain ⟨p1, ep1⟩ : ∃ z, p0 + 1 = z := ⟨_, rfl⟩
  have HEf : Hid ((turnB (some ⟨gp, 0, none⟩) p1 (⟨x0, x1, x2, x3, x4, x5, x6, x7, x8, x9, some ⟨gp, 0, none⟩, x11, x12, x13⟩ : Bd)).f = fun i => if i = 0 then (p1, (x13 0).2) else x13 i) := if_pos ⟨rfl, hz⟩
  clear ep0 hp3 hrp
  go_upto_region 26 with fail
  obtain ⟨WX, eWX⟩ : ∃ V, V = w9.setCell ⟨gp, 0, none⟩ (.int .i64 p1) := ⟨_, rfl⟩
  have kx : But (fun b => b = gp) w9 WX := by rw [eWX]; exact (But.rfl_ (fun b => b = gp) _).put (p := ⟨gp, 0, none⟩) (.inl rfl) _
  have HWx := hid (HW9.out.but kx (by have h := hwq.out; show ¬ gw = gp; omega))
  have HBx := hid (HB9.out.but kx (by have h := HAp.out; show ¬ g1 = gp; omega))
  have HLx := hid (HL9.out.but kx (fun b hb => by have hb : b = gp := hb; have h := hwq.out; show gw ≤ b; omega))
  have Kx : Hid (Made w.heap.size w WX) := But.made_ K9.out kx K9.out.1.size (fun b hb => by have hb : b = gp := hb; have h := hwq.out; omega)
  have HPx : Hid (∀ n f, Row w9 gp 27 n f → Pts WX gp 0 n (fun i => if i = 0 then (p1, (f 0).2) else f i)) := fun n f h => by rw [eWX]; exact h.put0 p1
  have HWdb : Hid (WdAt WX (some ⟨gB, 0, none⟩) (e1.bs.map (turnB (some ⟨gp, 0, none⟩) p1)) oj1 P.J none []) := by
    have h := HLB9.out
    have lB' : LsT encB 11 WX (some ⟨gB, 0, none⟩) e1.bs := h.at_.lB.but' kx (fun h0 b off s e hx => by
      have hx : b = gp := hx
      cases e
      omega)
    have hJ' : LsT encJ 8 WX oj1 P.J := h.at_.lJ.but' kx (fun h0 b off s e hx => by
      have hx : b = gp := hx
      subst hx
      obtain ⟨g2, e2⟩ := HJn1.out h0
      rw [e] at e2
      cases e2
      exact hpJ e)
    refine ⟨lB'.map _ (fun x => rfl), hJ', fun h => absurd h (by simp), fun b hb => ?_, h.at_.iJ, fun c hc => by simp at hc⟩
    obtain ⟨b0, hb0, eb⟩ := List.mem_map.1 hb
    obtain ⟨s1, s2⟩ := h.at_.sB b0 hb0
    subst eb
    by_cases hc : b0.ao = some ⟨gp, 0, none⟩ ∧ 0 < b0.n
    · have ef : (turnB (some ⟨gp, 0, none⟩) p1 b0).f = fun i => if i = 0 then (p1, (b0.f 0).2) else b0.f i := if_pos hc
      obtain ⟨g', e', _, _, _, hr'⟩ := HM9.out b0 hb0 hc.2
      rw [hc.1] at e'
      cases e'
      refine ⟨fun hn => ⟨gp, 0, hc.1, ?_⟩, ⟨s2.id, s2.x, s2.y, s2.vx, s2.vy, s2.an, s2.sp, s2.de, s2.k, s2.r, ?_⟩⟩
      · rw [ef]; exact HPx.out _ _ hr'
      · rw [ef]
        intro i hi
        by_cases e : i = 0
        · simp only [e, if_pos]
          exact ⟨by unfold I64; omega, (s2.f 0 (by have hi : i < b0.n := hi; omega)).2⟩
        · simp only [if_neg e]
          exact s2.f i hi
    · have ef : (turnB (some ⟨gp, 0, none⟩) p1 b0).f = b0.f := if_neg hc
      refine ⟨?_, ⟨s2.id, s2.x, s2.y, s2.vx, s2.vy, s2.an, s2.sp, s2.de, s2.k, s2.r, by rw [ef]; exact s2.f⟩⟩
      rw [ef]
      intro hn
      have hn : 0 < b0.n := hn
      obtain ⟨g', e', _, _, _, hr'⟩ := HM9.out b0 hb0 hn
      exact (s1.but kx (fun b' off s e hx => by
        have hx : b' = gp := hx
        rw [e'] at e
        cases e
        exact hc ⟨by rw [e', hx], hn⟩)) hn
  rw [← eWX]
  clear eWX kx b0 b1 b2 b3 b4 b5 b6 b7 c0 c1 c2 c3 c4 c5 c6 c7 lw lc fc lB fB lp fp hc0 e_0 e_1 e_2 e_3 e_4 e_5 e_6 e_7 e_8 e_9 e_10
  have HSx := hid (wsame_c false 0 nb nj 0 0 0 nb nj 0 0 ob oj none (some ⟨gB, 0, none⟩) oj1 none nB cb nJ cj 0 0 nB cb1 nJ cj1 0 0 HLx.out.at_ HWdb.out ⟨HE.out.1, HE.out.2.1, rfl⟩ ⟨(by rw [List.length_map]; exact hl1.out), HE.out.2.1, rfl⟩ ⟨by omega, by omega, by omega⟩ H8.out (iff_of_false (by simp) (fun h => by have h1 := h.2.2.2.2.1.2 j z0 _ HZ0.out (by rw [List.getElem?_map, EYJ.out]; rfl); have h2 := h1.2.2.2.2.2.2.2.2.2 0 (by have h5 := HSame.out.2.2.2.2.2.2.2.2.2.2.1; simp only [] at h5; omega); have h3 := HSame.out.2.2.2.2.2.2.2.2.2.2.2; simp only [] at h3; have h4 := EP0.out; rw [HEf.out] at h2; simp only [if_pos] at h2; rw [← h3] at h2; rw [h2] at h4; simp only [] at h4; omega)))
  have HRx := hid (fun v (k : Made WX.heap.size WX v) => right_yes (P := ⟨P.nb, P.nj, P.B, P.J, []⟩) (HLx.out.kept k) OKp.out (And.intro HE.out.1 (And.intro HE.out.2.1 (And.intro rfl HE.out.2.2))) (by simp))
  have b0 := HWx.out.at_ 0
  have b1 := HWx.out.at_ 1
  have b2 := HWx.out.at_ 2
  have b3 := HWx.out.at_ 3
  have b4 := HWx.out.at_ 4
  have b5 := HWx.out.at_ 5
  have b6 := HWx.out.at_ 6
  have b7 := HWx.out.at_ 7
  simp at b0 b1 b2 b3 b4 b5 b6 b7
  have lw : gw < WX.heap.size := HWx.out.here
  have c0 := HBx.out.at_ 0
  have c1 := HBx.out.at_ 1
  have c2 := HBx.out.at_ 2
  have c3 := HBx.out.at_ 3
  have c4 := HBx.out.at_ 4
  have c5 := HBx.out.at_ 5
  have c6 := HBx.out.at_ 6
  have c7 := HBx.out.at_ 7
  simp at c0 c1 c2 c3 c4 c5 c6 c7
  have lc : g1 < WX.heap.size := HBx.out.here
  go_wp2_with fail
  refine HSx.out.mono ?_
  rintro e w11 ⟨rfl, k11⟩
  have K11 := hid (Kx.out.then_ (k11.low Kx.out.1.size))
  have HW11 := hid (HWx.out.stays k11 HWx.out.here)
  have HRy := hid (HRx.out _ k11)
  clear k11 b0 b1 b2 b3 b4 b5 b6 b7 c0 c1 c2 c3 c4 c5 c6 c7 lw lc HSx HRx
  have b0 := HW11.out.at_ 0
  have b1 := HW11.out.at_ 1
  have b2 := HW11.out.at_ 2
  have b3 := HW11.out.at_ 3
  have b4 := HW11.out.at_ 4
  have b5 := HW11.out.at_ 5
  have b6 := HW11.out.at_ 6
  have b7 := HW11.out.at_ 7
  simp at b0 b1 b2 b3 b4 b5 b6 b7
  have lw : gw < w11.heap.size := HW11.out.here
  go_wp2_with fail
  refine HRy.out.mono ?_
  rintro e w12 ⟨rfl, k12⟩
  have K12 := hid (K11.out.then_ (k12.low K11.out.1.size))
  clear k12 b0 b1 b2 b3 b4 b5 b6 b7 lw
  go_wp2_with fail
  go_ret
  exact ⟨rfl, K12.out⟩
end Go.Proofs.YthhoaapmfknmlaaGreat.Fx
