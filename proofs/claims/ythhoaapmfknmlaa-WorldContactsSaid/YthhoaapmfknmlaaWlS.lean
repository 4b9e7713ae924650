/- WorldContacts. -/
import Derived.Test.YthhoaapmfknmlaaWlQ
import Derived.Test.YthhoaapmfknmlaaOpD
namespace Go.Proofs.Ythhoaapmfknmlaa.Fx
open Go.ChangeShapes Go.WideShapes Go.ChangeAt Go.RowKit
set_option linter.unusedVariables false

set_option maxRecDepth 100000 in
set_option maxHeartbeats 32000000 in
theorem wcontacts_walk (l : List De) (l0 : Option Addr) (nl cl : Nat) (xs : List Ct) (c0 : Option Addr) (n cn : Nat) (id : Int) (w : World) (hnl : l.length = nl) (hD : DesAt w l0 l) (hnc : nl ≤ cl) (hcm : cl ≤ maxLen) (ho : (l0 = none ∧ nl = 0 ∧ cl = 0) ∨ ∃ a, l0 = some a) (hx : LsT encC 5 w c0 xs) (hxn : xs.length = n) (hxi : ∀ x ∈ xs, CtI x) :
    Calls Try.prog 5 #[.slice l0 nl cl, .slice c0 n cn, .int .i64 id] w fun e v => e = .returned (.bool true) ∧ Made w.heap.size w v := by
  have HMd := hid (fun v (k : Made w.heap.size w v) => made_0 10 (by omega) hnl (hD.kept k) hnc hcm ho)
  have HX := hid (fun v (k : Made w.heap.size w v) => hx.kept k)
  have HXN := hid hxn
  have HXI := hid hxi
  clear hnl hD hnc hcm ho hx hxn hxi
  by_cases h12 : 12 < n
  · go_enter Try.func5, Try.ntmps5
    go_wp2_with fail
    refine (wfit_c _).mono ?_
    rintro e w1 ⟨rfl, k1⟩
    have K1 := hid k1
    clear k1
    go_wp2_with fail
    go_ret
    exact ⟨rfl, K1.out⟩
  · go_enter Try.func5, Try.ntmps5
    go_wp2_with fail
    refine (wfit_c _).mono ?_
    rintro e w1 ⟨rfl, k1⟩
    have K1 := hid k1
    clear k1
    go_wp2_with fail
    refine (HMd.out _ K1.out).mono ?_
    rintro e w2 ⟨P, val, rfl, hval, hok, hsm, k2⟩
    have K2 := hid (K1.out.then_ (k2.low K1.out.1.size))
    have OK := hid hok
    have SM : Hid (P.C = []) := hsm.1
    clear k2 hok hsm HMd
    obtain ⟨ob, oj, cb, cj, eval, hLm⟩ := hval
    have HLm := hid hLm
    obtain ⟨nB, eB⟩ : ∃ m, P.B.length = m := ⟨_, rfl⟩
    obtain ⟨nJ, eJ⟩ : ∃ m, P.J.length = m := ⟨_, rfl⟩
    obtain ⟨nb, eb⟩ : ∃ m, P.nb = m := ⟨_, rfl⟩
    obtain ⟨nj, ej⟩ : ∃ m, P.nj = m := ⟨_, rfl⟩
    have eC : P.C.length = 0 := by rw [SM.out]; rfl
    rw [eB, eJ, eC, eb, ej] at eval
    subst eval
    have HE := hid (And.intro eB (And.intro eJ (And.intro eb ej)))
    clear hLm eB eJ eb ej eC
    obtain ⟨W3, eW3⟩ : ∃ V, V = w2.alloc (.cells #[.int .i64 0, .int .i64 nb, .int .i64 nj, .int .i64 0, .int .i64 0, .slice ob nB cb, .slice oj nJ cj, .slice none 0 0] 31) := ⟨_, rfl⟩
    have K3 : Hid (Made w.heap.size w W3) := by unfold Hid; rw [eW3]; exact K2.out.cells K2.out.1.size _ _
    have HW3 : Hid (Has W3 w2.heap.size 31 #[.int .i64 0, .int .i64 nb, .int .i64 nj, .int .i64 0, .int .i64 0, .slice ob nB cb, .slice oj nJ cj, .slice none 0 0]) := by unfold Hid; rw [eW3]; exact has_new _ _ _
    have HL3 : Hid (WLs (fun b => w2.heap.size ≤ b) W3 ob cb P.B oj cj P.J none 0 []) := by
      unfold Hid
      rw [eW3]
      have h := (HLm.out.free (Y := fun b => w2.heap.size ≤ b) (fun b hb => .inr hb)).kept ((Made.rfl_ _ _).cells (Nat.le_refl _) #[.int .i64 0, .int .i64 nb, .int .i64 nj, .int .i64 0, .int .i64 0, .slice ob nB cb, .slice oj nJ cj, .slice none 0 0] 31)
      rw [SM.out] at h
      exact h
    have hgw : w.heap.size ≤ w2.heap.size := K2.out.1.size
    obtain ⟨gw, egw⟩ : ∃ g, w2.heap.size = g := ⟨_, rfl⟩
    rw [egw] at HW3 HL3 hgw
    go_upto_region 6 with fail
    rw [← eW3]
    clear eW3 HLm
    try rw [egw]
    have b0 := HW3.out.at_ 0
    have b1 := HW3.out.at_ 1
    have b2 := HW3.out.at_ 2
    have b3 := HW3.out.at_ 3
    have b4 := HW3.out.at_ 4
    have b5 := HW3.out.at_ 5
    have b6 := HW3.out.at_ 6
    have b7 := HW3.out.at_ 7
    simp at b0 b1 b2 b3 b4 b5 b6 b7
    have lw : gw < W3.heap.size := HW3.out.here
    by_cases hB2 : nB < 2
    · go_wp2_with fail
      go_ret
      exact ⟨rfl, K3.out⟩
    obtain ⟨W4, eW4⟩ : ∃ V, V = W3.alloc (.cells #[.int .i64 0, .int .i64 0, .int .i64 0, .int .i64 0, .int .i64 0] 65) := ⟨_, rfl⟩
    have kk4 : Made W3.heap.size W3 W4 := by rw [eW4]; exact (Made.rfl_ _ _).cells (Nat.le_refl _) _ _
    have HZ4 : Hid (Has W4 W3.heap.size 65 #[.int .i64 0, .int .i64 0, .int .i64 0, .int .i64 0, .int .i64 0]) := by unfold Hid; rw [eW4]; exact has_new _ _ _
    have K4 := hid (K3.out.then_ (kk4.low K3.out.1.size))
    have HW4 := hid (HW3.out.stays kk4 HW3.out.here)
    have HL4 := hid (HL3.out.kept kk4)
    obtain ⟨gl, egl⟩ : ∃ g, W3.heap.size = g := ⟨_, rfl⟩
    have hgl : gw < gl := by omega
    rw [egl] at HZ4
    obtain ⟨bs, ebs⟩ : ∃ g, W4.heap.size = g := ⟨_, rfl⟩
    have hlb : gl < bs := by rw [← ebs]; exact HZ4.out.here
    have HO4 : Hid (W4.ownsRow bs 65 5 (.slice none 0 0) 0 (flatE encC [])) := World.ownsRow_nil _ _ _ _
    have hb4 : Hid (bs ≤ W4.heap.size) := Nat.le_of_eq ebs.symm
    clear kk4 HW3 HL3 ebs
    go_upto_region 11 with fail
    rw [← eW4]
    clear eW4 b0 b1 b2 b3 b4 b5 b6 b7 lw
    try rw [egl]
    clear egl
    go_wp2_with fail
    go_loopg [9, 11, 12, 13, 14, 15, 16, 41] n (fun gg s9 s11 s12 s13 s14 s15 s16 s41 wx => ∃ (k : Nat) (r : Bool) (ys : List Ct) (za zb zk zn zt : Int) (oc : Option Addr) (cc : Nat), k + gg = n ∧ s41 = .int .i64 (k : Nat) ∧ s9 = .bool r ∧ Hid (Made w.heap.size w wx ∧ Has wx gw 31 #[.int .i64 0, .int .i64 nb, .int .i64 nj, .int .i64 0, .int .i64 0, .slice ob nB cb, .slice oj nJ cj, .slice oc k cc] ∧ WLs (fun b => gw ≤ b) wx ob cb P.B oj cj P.J none 0 [] ∧ Has wx gl 65 #[.int .i64 za, .int .i64 zb, .int .i64 zk, .int .i64 zn, .int .i64 zt] ∧ wx.ownsRow bs 65 5 (.slice oc k cc) k (flatE encC ys) ∧ (ys.length = k ∧ PlainC P.B ys ∧ (r = true ↔ GoodC ys) ∧ (ys ≠ [] → ys.getLast? = some ⟨za, zb, zk, zn, zt⟩)) ∧ bs ≤ wx.heap.size))
    case atStart => exact ⟨0, true, [], 0, 0, 0, 0, 0, none, 0, by omega, rfl, rfl, K4.out, HW4.out, HL4.out, HZ4.out, HO4.out, ⟨rfl, fun y hy => by simp at hy, ⟨fun _ => ⟨fun y hy => by simp at hy, List.Pairwise.nil⟩, fun _ => rfl⟩, fun h => absurd rfl h⟩, hb4.out⟩
    case round =>
      obtain ⟨k, r, ys, za, zb, zk, zn, zt, oc, cc, hk, rfl, rfl, HB⟩ := hrel
      have KB := hid HB.out.1
      have HWB := hid HB.out.2.1
      have HLB := hid HB.out.2.2.1
      have HZB := hid HB.out.2.2.2.1
      have HOB := hid HB.out.2.2.2.2.1
      have HP := hid HB.out.2.2.2.2.2.1
      have hbB := hid HB.out.2.2.2.2.2.2
      clear HB K4 HW4 HL4 HZ4 HO4 hb4
      by_cases hlt : k < n
      · obtain ⟨x, ex⟩ : ∃ a, xs[k]? = some a := ⟨_, List.getElem?_eq_getElem (by rw [HXN.out]; exact hlt)⟩
        have hci := HXI.out x (List.mem_of_getElem? ex)
        obtain ⟨bx, ox, rfl, hbx, hLx⟩ := (HX.out _ KB.out) (by rw [HXN.out]; omega)
        have q5 := (hLx k _ ex).c5
        obtain ⟨xa, xb, xk, xn, xt⟩ := x
        obtain ⟨q0, q1, q2, q3, q4⟩ := q5
        simp only [] at q0 q1 q2 q3 q4
        have HCI := hid hci
        clear ex hLx hci
        obtain ⟨W5, eW5⟩ : ∃ V, V = wr.alloc (.cells #[.int .i64 xa, .int .i64 xb, .int .i64 xk, .int .i64 xn, .int .i64 xt] 65) := ⟨_, rfl⟩
        have kk5 : Made wr.heap.size wr W5 := by rw [eW5]; exact (Made.rfl_ _ _).cells (Nat.le_refl _) _ _
        have HX5 : Hid (Has W5 wr.heap.size 65 #[.int .i64 xa, .int .i64 xb, .int .i64 xk, .int .i64 xn, .int .i64 xt]) := by unfold Hid; rw [eW5]; exact has_new _ _ _
        obtain ⟨gx, egx⟩ : ∃ g, wr.heap.size = g := ⟨_, rfl⟩
        rw [egx] at HX5
        have K5 := hid (KB.out.then_ (kk5.low KB.out.1.size))
        have HW5 := hid (HWB.out.stays kk5 HWB.out.here)
        have HZ5 := hid (HZB.out.stays kk5 HZB.out.here)
        have HO5 := hid (own_below (B := 0) HOB.out kk5.1)
        have HL5 := hid (HLB.out.kept kk5)
        have hb5 : Hid (bs ≤ _) := Nat.le_trans hbB.out kk5.1.size
        clear HWB HZB HOB HLB hbB
        clear kk5
        go_upto_region 14 with fail
        rw [← eW5]
        clear eW5 q0 q1 q2 q3 q4 hbx
        try rw [egx]
        clear egx
        -- the two bodies' numbers
        obtain ⟨A0, eA0⟩ : ∃ z, xa % 256 = z := ⟨_, rfl⟩
        have aA := (and255 xa).trans eA0
        have hA0 : 0 ≤ A0 := by omega
        obtain ⟨B0, eB0⟩ : ∃ z, xb % 256 = z := ⟨_, rfl⟩
        have aB := (and255 xb).trans eB0
        have hB0 : 0 ≤ B0 := by omega
        clear eA0 eB0
        obtain ⟨ja, eja, hja⟩ := tmod_nat (n := nB) hA0 (by omega)
        obtain ⟨jb, ejb, hjb⟩ := tmod_nat (n := nB) hB0 (by omega)
        obtain ⟨ya, eya⟩ : ∃ a, P.B[ja]? = some a := ⟨_, List.getElem?_eq_getElem (by rw [HE.out.1]; exact hja)⟩
        obtain ⟨yb, eyb⟩ : ∃ a, P.B[jb]? = some a := ⟨_, List.getElem?_eq_getElem (by rw [HE.out.1]; exact hjb)⟩
        obtain ⟨bb, off, eob, hbl, hLBl⟩ := HL5.out.at_.lB (by rw [HE.out.1]; omega)
        subst eob
        have hia := (hLBl ja _ eya).b11.1
        have hib := (hLBl jb _ eyb).b11.1
        obtain ⟨ia, eia⟩ : ∃ z, ya.id = z := ⟨_, rfl⟩
        obtain ⟨ib, eib⟩ : ∃ z, yb.id = z := ⟨_, rfl⟩
        rw [eia] at hia
        rw [eib] at hib
        have HMa : Hid (ia ∈ ids P.B) := List.mem_map.2 ⟨ya, List.mem_of_getElem? eya, eia⟩
        have HMb : Hid (ib ∈ ids P.B) := List.mem_map.2 ⟨yb, List.mem_of_getElem? eyb, eib⟩
        have HIa : Hid (I64 ia) := eia ▸ (HL5.out.at_.sB ya (List.mem_of_getElem? eya)).2.id
        have HIb : Hid (I64 ib) := eib ▸ (HL5.out.at_.sB yb (List.mem_of_getElem? eyb)).2.id
        have hnBm : nB ≤ 1073741824 := by have := OK.out.hB.len; have := HE.out.1; omega
        have hne0 : ((nB : Int) == 0) = false := by simp; omega
        clear eya eyb eia eib hLBl
        have b5 := HW5.out.at_ 5
        have x0 := HX5.out.at_ 0
        have x1 := HX5.out.at_ 1
        simp at b5 x0 x1
        have lw : gw < W5.heap.size := HW5.out.here
        have lx : gx < W5.heap.size := HX5.out.here
        refine reg_made (by kernel_rfl) (by kernel_rfl) ?_
        intro Ty hT fw hf
        have z5 := Class.reads hf b5
        have y0 := Class.reads hf x0
        have y1 := Class.reads hf x1
        have u0 := Class.reads hf hia
        have u1 := Class.reads hf hib
        repeat (go_big_quiet_step (fail))
        refine wpQuiet_nil ?_
        intro w6 h6
        have k6 := hf.here h6
        have HX6 := hid (HX5.out.stays k6 HX5.out.here)
        have K6 := hid (K5.out.then_ (k6.low K5.out.1.size))
        have HW6 := hid (HW5.out.stays k6 HW5.out.here)
        have HZ6 := hid (HZ5.out.stays k6 HZ5.out.here)
        have HO6 := hid (own_below (B := 0) HO5.out k6.1)
        have HL6 := hid (HL5.out.kept k6)
        have hb6 : Hid (bs ≤ _) := Nat.le_trans hb5.out k6.1.size
        clear HW5 HZ5 HO5 HL5 hb5
        clear k6 h6 hf z5 y0 y1 u0 u1 hia hib b5 x0 x1 lw lx HX5 hbl eja ejb aA aB hja hjb hne0
        -- the contact
        obtain ⟨m1, em1⟩ : ∃ z, min ia ib = z := ⟨_, rfl⟩
        obtain ⟨m2, em2⟩ : ∃ z, max ia ib = z := ⟨_, rfl⟩
        obtain ⟨K7, eK7⟩ : ∃ z, xk % 8 = z := ⟨_, rfl⟩
        have aK := (and7 xk).trans eK7
        have HK7 : Hid (0 ≤ K7 ∧ K7 < 8) := by unfold Hid; omega
        clear eK7
        have x0 := HX6.out.at_ 0
        have x1 := HX6.out.at_ 1
        have x2 := HX6.out.at_ 2
        have x3 := HX6.out.at_ 3
        have x4 := HX6.out.at_ 4
        simp at x0 x1 x2 x3 x4
        have lx : gx < w6.heap.size := HX6.out.here
        obtain ⟨W7, eW7⟩ : ∃ V, V = w6.alloc (.cells #[.int .i64 m1, .int .i64 m2, .int .i64 K7, .int .i64 xn, .int .i64 xt] 65) := ⟨_, rfl⟩
        have kk7 : Made w6.heap.size w6 W7 := by rw [eW7]; exact (Made.rfl_ _ _).cells (Nat.le_refl _) _ _
        have HY7 : Hid (Has W7 w6.heap.size 65 #[.int .i64 m1, .int .i64 m2, .int .i64 K7, .int .i64 xn, .int .i64 xt]) := by unfold Hid; rw [eW7]; exact has_new _ _ _
        have HX7 := hid (HX6.out.stays kk7 HX6.out.here)
        obtain ⟨gy, egy⟩ : ∃ g, w6.heap.size = g := ⟨_, rfl⟩
        rw [egy] at HY7
        have HGy : Hid (gl < gy) := by unfold Hid; have := HZ6.out.here; omega
        have KW7 := hid (K6.out.then_ (kk7.low K6.out.1.size))
        have HW7 := hid (HW6.out.stays kk7 HW6.out.here)
        have HZ7 := hid (HZ6.out.stays kk7 HZ6.out.here)
        have HO7 := hid (own_below (B := 0) HO6.out kk7.1)
        have HL7 := hid (HL6.out.kept kk7)
        have hb7 : Hid (bs ≤ _) := Nat.le_trans hb6.out kk7.1.size
        clear HW6 HZ6 HO6 HL6 hb6
        clear kk7
        go_upto_region 16 with fail
        rw [← eW7]
        clear eW7 x0 x1 x2 x3 x4 lx HX6
        try rw [egy]
        clear egy
        have HM12 := hid (And.intro em1 em2)
        clear em1 em2 aK
        --PHASE1
        have z0 := HZ7.out.at_ 0
        have z1 := HZ7.out.at_ 1
        have z2 := HZ7.out.at_ 2
        have z3 := HZ7.out.at_ 3
        have z4 := HZ7.out.at_ 4
        simp at z0 z1 z2 z3 z4
        have lz : gl < W7.heap.size := HZ7.out.here
        have y0 := HY7.out.at_ 0
        have y1 := HY7.out.at_ 1
        have y2 := HY7.out.at_ 2
        have y3 := HY7.out.at_ 3
        have y4 := HY7.out.at_ 4
        simp at y0 y1 y2 y3 y4
        have ly : gy < W7.heap.size := HY7.out.here
        have x0 := HX7.out.at_ 0
        have x1 := HX7.out.at_ 1
        have x2 := HX7.out.at_ 2
        have x3 := HX7.out.at_ 3
        have x4 := HX7.out.at_ 4
        simp at x0 x1 x2 x3 x4
        have lx : gx < W7.heap.size := HX7.out.here
        obtain ⟨up, hup⟩ := a_bool (ys = [] ∨ LtC ⟨za, zb, zk, zn, zt⟩ ⟨m1, m2, K7, xn, xt⟩)
        have HUP := hid hup
        clear hup
        have hys : ys = [] ↔ k = 0 := ⟨fun e => by have h := HP.out.1; rw [e] at h; exact h.symm, fun e => List.length_eq_zero_iff.1 (HP.out.1.trans e)⟩
        have HYS := hid hys
        clear hys
        go_cut [16] (fun s16 wx => s16 = .bool up ∧ W7 = wx)
        case first =>
          by_cases hk0 : k = 0
          · have hu : up = true := HUP.out.2 (.inl (HYS.out.2 hk0))
            have hq : ((k : Int) == 0) = true := by rw [hk0]; rfl
            subst hu
            clear hk0
            go_wp2_with fail
            go_meet
            exact ⟨rfl, rfl⟩
          · have hq : ((k : Int) == 0) = false := by simp; omega
            have hu : up = true ↔ (za < m1 ∨ za = m1 ∧ (zb < m2 ∨ zb = m2 ∧ zk < K7)) := by
              rw [HUP.out]
              exact ⟨fun h => h.elim (fun e => absurd (HYS.out.1 e) hk0) (fun h => h), fun h => .inr h⟩
            have HU := hid hu
            clear hk0 hu
            by_cases h1 : za < m1
            · have hu : up = true := HU.out.2 (.inl h1)
              have g1 : decide (za < m1) = true := by simpa using h1
              subst hu
              clear h1
              go_wp2_with fail
              go_meet
              exact ⟨rfl, rfl⟩
            have g1 : decide (za < m1) = false := by simpa using h1
            by_cases h2 : za = m1
            · have g2 : (za == m1) = true := by simpa using h2
              by_cases h3 : zb < m2
              · have hu : up = true := HU.out.2 (.inr ⟨h2, .inl h3⟩)
                have g3 : decide (zb < m2) = true := by simpa using h3
                subst hu
                clear h1 h2 h3
                go_wp2_with fail
                go_meet
                exact ⟨rfl, rfl⟩
              have g3 : decide (zb < m2) = false := by simpa using h3
              by_cases h4 : zb = m2
              · have g4 : (zb == m2) = true := by simpa using h4
                by_cases h5 : zk < K7
                · have hu : up = true := HU.out.2 (.inr ⟨h2, .inr ⟨h4, h5⟩⟩)
                  have g5 : decide (zk < K7) = true := by simpa using h5
                  subst hu
                  clear h1 h2 h3 h4 h5
                  go_wp2_with fail
                  go_meet
                  exact ⟨rfl, rfl⟩
                · have hu : up = false := Bool.eq_false_iff.2 fun e => by have := HU.out.1 e; omega
                  have g5 : decide (zk < K7) = false := by simpa using h5
                  subst hu
                  clear h1 h2 h3 h4 h5
                  go_wp2_with fail
                  go_meet
                  exact ⟨rfl, rfl⟩
              · have hu : up = false := Bool.eq_false_iff.2 fun e => by have := HU.out.1 e; omega
                have g4 : (zb == m2) = false := by simpa using h4
                subst hu
                clear h1 h2 h3 h4
                go_wp2_with fail
                go_meet
                exact ⟨rfl, rfl⟩
            · have hu : up = false := Bool.eq_false_iff.2 fun e => by have := HU.out.1 e; omega
              have g2 : (za == m1) = false := by simpa using h2
              subst hu
              clear h1 h2
              go_wp2_with fail
              go_meet
              exact ⟨rfl, rfl⟩
        obtain ⟨rfl, rfl⟩ := hcut
        obtain ⟨r', hr'⟩ := a_bool (((r = true ∧ ia ≠ ib) ∧ 0 ≤ xn) ∧ up = true)
        have HR := hid hr'
        clear hr'
        --PHASE2
        go_upto_region 17 with fail
        go_cut [9] (fun s9 wx => s9 = .bool r' ∧ W7 = wx)
        case first =>
          cases r with
          | false =>
            have hu : r' = false := Bool.eq_false_iff.2 fun e => by have := HR.out.1 e; simp at this
            subst hu
            go_wp2_with fail
            go_meet
            exact ⟨rfl, rfl⟩
          | true =>
            by_cases h1 : ia = ib
            · have hu : r' = false := Bool.eq_false_iff.2 fun e => (HR.out.1 e).1.1.2 h1
              have g1 : (ia != ib) = false := by simpa using h1
              subst hu
              clear h1
              go_wp2_with fail
              go_meet
              exact ⟨rfl, rfl⟩
            have g1 : (ia != ib) = true := by simpa using h1
            by_cases h2 : 0 ≤ xn
            · have g2 : decide (0 ≤ xn) = true := by simpa using h2
              cases up with
              | false =>
                have hu : r' = false := Bool.eq_false_iff.2 fun e => by have := HR.out.1 e; simp at this
                subst hu
                clear h1 h2
                go_wp2_with fail
                go_meet
                exact ⟨rfl, rfl⟩
              | true =>
                have hu : r' = true := HR.out.2 ⟨⟨⟨rfl, h1⟩, h2⟩, rfl⟩
                subst hu
                clear h1 h2
                go_wp2_with fail
                go_meet
                exact ⟨rfl, rfl⟩
            · have hu : r' = false := Bool.eq_false_iff.2 fun e => h2 (HR.out.1 e).1.2
              have g2 : decide (0 ≤ xn) = false := by simpa using h2
              subst hu
              clear h1 h2
              go_wp2_with fail
              go_meet
              exact ⟨rfl, rfl⟩
        obtain ⟨rfl, rfl⟩ := hcut
        --PHASE3
        have fz : ∀ i, W7.frozen? ⟨gl, i, none⟩ = false := HZ7.out.free
        have hlny : ¬ gy = gl := by have := HGy.out; omega
        have hgwl : ¬ gw = gl := by omega
        obtain ⟨W8, eW8⟩ : ∃ V, V = ((((W7.setCell ⟨gl, 0, none⟩ (.int .i64 m1)).setCell ⟨gl, 1, none⟩ (.int .i64 m2)).setCell ⟨gl, 2, none⟩ (.int .i64 K7)).setCell ⟨gl, 3, none⟩ (.int .i64 xn)).setCell ⟨gl, 4, none⟩ (.int .i64 xt) := ⟨_, rfl⟩
        have k8 : But (fun b => b = gl) W7 W8 := by rw [eW8]; exact (But.rfl_ (fun b => b = gl) _).put5 (.inl rfl) _ _ _ _ _
        have HZ8 : Hid (Has W8 gl 65 #[.int .i64 m1, .int .i64 m2, .int .i64 K7, .int .i64 xn, .int .i64 xt]) := by unfold Hid; rw [eW8]; exact HZ7.out.put5 _ _ _ _ _
        have K8 : Hid (Made w.heap.size w W8) := But.made_ KW7.out k8 KW7.out.1.size (fun b hb => by have hb : b = gl := hb; omega)
        have HW8 := hid (HW7.out.but k8 hgwl)
        have HY8 := hid (HY7.out.but k8 hlny)
        have HO8 := hid (own_but HO7.out k8 (fun g e hg => by have hg : g = gl := hg; have := own_from HO7.out e.symm; omega) (Nat.le_refl _))
        have HL8 := hid (HL7.out.but k8 (fun b hb => by have hb : b = gl := hb; show gw ≤ b; omega))
        have hb8 : Hid (bs ≤ W8.heap.size) := Nat.le_trans hb7.out k8.size
        go_upto_region 19 with fail
        rw [← eW8]
        clear eW8 k8 fz z0 z1 z2 z3 z4 y0 y1 y2 y3 y4 x0 x1 x2 x3 x4 lz ly lx HZ7 HY7 HX7 HW7 HO7 HL7 hb7
        have b0 := HW8.out.at_ 0
        have b1 := HW8.out.at_ 1
        have b2 := HW8.out.at_ 2
        have b3 := HW8.out.at_ 3
        have b4 := HW8.out.at_ 4
        have b5 := HW8.out.at_ 5
        have b6 := HW8.out.at_ 6
        have b7 := HW8.out.at_ 7
        simp at b0 b1 b2 b3 b4 b5 b6 b7
        have lw : gw < W8.heap.size := HW8.out.here
        have y0 := HY8.out.at_ 0
        have y1 := HY8.out.at_ 1
        have y2 := HY8.out.at_ 2
        have y3 := HY8.out.at_ 3
        have y4 := HY8.out.at_ 4
        simp at y0 y1 y2 y3 y4
        have ly : gy < W8.heap.size := HY8.out.here
        obtain ⟨i0, hi, hz0, hz1, hz2⟩ := info_parts infoC
        have iHi := hid hi; have iH0 := hid hz0; have iH1 := hid hz1; have iH2 := hid hz2
        clear hi hz0 hz1 hz2
        go_wp2_with (at_builtin; refine wpList_append_made _ rfl _ _ 29 rfl bs 65 i0 (.agg #[.int .i64 0, .int .i64 0, .int .i64 0, .int .i64 0, .int .i64 0]) 5 40 Try.underlying29 iHi.out iH0.out iH1.out iH2.out rfl (by decide) (.slice oc k cc) k (flatE encC ys) rfl (own_below (B := 0) HO8.out ((Made.rfl_ _ _).cells (Nat.le_refl _) _ _).1) ⟨W8.heap.size, 0, none⟩ 1 1 (encC ⟨m1, m2, K7, xn, xt⟩) rfl rfl (has_news (has_new _ _ _)) (encC_one _) (by unfold maxLen; omega) (by omega) (Nat.le_trans hb8.out (by simp)) (by omega) ?_)
        intro v' wk hown hgr hfr
        have HCw : Hid (Has wk gw 31 #[.int .i64 0, .int .i64 nb, .int .i64 nj, .int .i64 0, .int .i64 0, .slice (some ⟨bb, off, none⟩) nB cb, .slice oj nJ cj, .slice oc k cc]) := (HW8.out.more _).app hgr (own_apart HO8.out HW8.out (by decide))
        have HZw : Hid (Has wk gl 65 #[.int .i64 m1, .int .i64 m2, .int .i64 K7, .int .i64 xn, .int .i64 xt]) := (HZ8.out.more _).app hgr (fun e => by have := own_from HO8.out e; omega)
        have kB : But (fun b => gw ≤ b) W8 wk := ((But.rfl_ _ W8).alloc _ _).then_ ⟨hgr.os, hgr.tape, hgr.output, hgr.size, fun b hb hx => hgr.block b hb (fun e => hx (by have := own_from HO8.out e; show gw ≤ b; omega)), hfr⟩
        have hag := own_apart hown HCw.out (by decide)
        obtain ⟨oc', cc', ev⟩ : ∃ oc' cc', v' = .slice oc' (k + 1) cc' := by
          rcases hown.2 with ⟨_, h0⟩ | ⟨g, cap, cur, e, _⟩
          · omega
          · exact ⟨_, _, e⟩
        subst ev
        have HOW := hid (And.intro hown hag)
        have KB' := hid kB
        clear hown hag kB hgr hfr b0 b1 b2 b3 b4 b5 b6 b7 y0 y1 y2 y3 y4 lw ly
        have b0 := HCw.out.at_ 0
        have b1 := HCw.out.at_ 1
        have b2 := HCw.out.at_ 2
        have b3 := HCw.out.at_ 3
        have b4 := HCw.out.at_ 4
        have b5 := HCw.out.at_ 5
        have b6 := HCw.out.at_ 6
        have b7 := HCw.out.at_ 7
        simp at b0 b1 b2 b3 b4 b5 b6 b7
        have lw : gw < wk.heap.size := HCw.out.here
        have fw : ∀ i, wk.frozen? ⟨gw, i, none⟩ = false := HCw.out.free
        obtain ⟨W9, eW9⟩ : ∃ V, V = wk.setCell ⟨gw, 7, none⟩ (.slice oc' (k + 1) cc') := ⟨_, rfl⟩
        have k9 : But (fun b => gw ≤ b) W8 W9 := by rw [eW9]; exact KB'.out.put (p := ⟨gw, 7, none⟩) (.inl (Nat.le_refl _)) _
        have HW9 : Hid (Has W9 gw 31 #[.int .i64 0, .int .i64 nb, .int .i64 nj, .int .i64 0, .int .i64 0, .slice (some ⟨bb, off, none⟩) nB cb, .slice oj nJ cj, .slice oc' (k + 1) cc']) := by unfold Hid; rw [eW9]; exact HCw.out.put 7 _
        have HZ9 : Hid (Has W9 gl 65 #[.int .i64 m1, .int .i64 m2, .int .i64 K7, .int .i64 xn, .int .i64 xt]) := by unfold Hid; rw [eW9]; exact HZw.out.other ⟨gw, 7, none⟩ (fun e => hgwl e.symm) _
        have HO9 : Hid (W9.ownsRow bs 65 5 (.slice oc' (k + 1) cc') (k + 1) (flatE encC (ys ++ [⟨m1, m2, K7, xn, xt⟩]))) := by
          unfold Hid
          rw [eW9, ← flatE_snoc]
          exact own_other' HOW.out.1 (p := ⟨gw, 7, none⟩) (fun e => HOW.out.2 e.symm) _
        have K9 : Hid (Made w.heap.size w W9) := But.made_ K8.out k9 K8.out.1.size (fun b hb => Nat.le_trans hgw hb)
        have HL9 := hid (HL8.out.but k9 (fun b hb => hb))
        have hb9 : Hid (bs ≤ W9.heap.size) := Nat.le_trans hb8.out k9.size
        have HP9 : Hid ((ys ++ [(⟨m1, m2, K7, xn, xt⟩ : Ct)]).length = k + 1 ∧ PlainC P.B (ys ++ [⟨m1, m2, K7, xn, xt⟩]) ∧ (r' = true ↔ GoodC (ys ++ [⟨m1, m2, K7, xn, xt⟩])) ∧ (ys ++ [(⟨m1, m2, K7, xn, xt⟩ : Ct)] ≠ [] → (ys ++ [(⟨m1, m2, K7, xn, xt⟩ : Ct)]).getLast? = some ⟨m1, m2, K7, xn, xt⟩)) := by
          obtain ⟨p1, p2, p3, p4⟩ := HP.out
          have hm : (m1 = ia ∧ m2 = ib ∨ m1 = ib ∧ m2 = ia) ∧ (m1 < m2 ↔ ia ≠ ib) := by have := HM12.out; omega
          refine ⟨by rw [List.length_append, p1]; rfl, p2.snoc ⟨?_, HK7.out.1, ?_, ?_⟩, ?_, fun _ => by simp⟩
          · have h1 := HIa.out; have h2 := HIb.out; have h3 := HCI.out; have h4 := HK7.out
            refine ⟨?_, ?_, ?_, h3.2.2.2.1, h3.2.2.2.2⟩
            · show I64 m1; rcases hm.1 with ⟨e, _⟩ | ⟨e, _⟩ <;> rw [e] <;> assumption
            · show I64 m2; rcases hm.1 with ⟨_, e⟩ | ⟨_, e⟩ <;> rw [e] <;> assumption
            · show I64 K7; unfold I64; omega
          · show m1 ∈ _; rcases hm.1 with ⟨e, _⟩ | ⟨e, _⟩ <;> rw [e] <;> first | exact HMa.out | exact HMb.out
          · show m2 ∈ _; rcases hm.1 with ⟨_, e⟩ | ⟨_, e⟩ <;> rw [e] <;> first | exact HMa.out | exact HMb.out
          · rw [good_snoc p4, HR.out, p3, HUP.out]
            show _ ↔ GoodC ys ∧ (m1 < m2 ∧ 0 ≤ xn) ∧ _
            rw [hm.2]
            exact ⟨fun ⟨⟨⟨a, b⟩, c⟩, d⟩ => ⟨a, ⟨b, c⟩, d⟩, fun ⟨a, ⟨b, c⟩, d⟩ => ⟨⟨⟨a, b⟩, c⟩, d⟩⟩
        go_wp2_with fail
        rw [← eW9]
        go_roundg (n - (k + 1))
        case measure => omega
        case rel => exact ⟨k + 1, r', ys ++ [⟨m1, m2, K7, xn, xt⟩], m1, m2, K7, xn, xt, oc', cc', by omega, by go_num, rfl, K9.out, HW9.out, HL9.out, HZ9.out, HO9.out, HP9.out, hb9.out⟩
      · have ek : k = n := by omega
        subst ek
        --PHASE4
        obtain ⟨Q, eQ⟩ : ∃ Q : PW, (⟨P.nb, P.nj, P.B, P.J, ys⟩ : PW) = Q := ⟨_, rfl⟩
        have HWd : Hid (WdAt wr ob P.B oj P.J oc ys) := ⟨HLB.out.at_.lB, HLB.out.at_.lJ, own_LsT encC_len HOB.out HP.out.1, HLB.out.at_.sB, HLB.out.at_.iJ, fun c hc => (HP.out.2.1 c hc).1⟩
        have HRt := hid (wright_c 0 nb nj 0 0 ob oj oc nB cb nJ cj k cc r HE.out.1 (by have := OK.out.hB.len; have := HE.out.1; omega) HE.out.2.1 (by have := OK.out.hJ.len; have := HE.out.2.1; omega) HP.out.1 (by omega) HWd.out i64_0 i64_0 (HP.out.2.2.1.trans (good_world OK.out HE.out.2.2.1 HE.out.2.2.2 HP.out.2.1).symm))
        have HVQ : Hid (WV (fun b => b = gw) wr gw Q) := by
          unfold Hid
          rw [← eQ]
          obtain ⟨e1, e2, e3, e4⟩ := HE.out
          have e5 := HP.out.1
          have h := HLB.out
          refine ⟨ob, oj, oc, cb, cj, cc, ?_, HWd.out, h.okB, h.okJ, by show SlOk oc ys.length cc; rw [e5]; exact own_SlOk HOB.out, fun hn b off s e hx => h.offB hn b off s e (by have hx : b = gw := hx; show gw ≤ b; omega), fun hn b off s e hx => h.offJ hn b off s e (by have hx : b = gw := hx; show gw ≤ b; omega), fun hn b off s e hx => ?_, fun x hx hn b off s e hb => h.offP x hx hn b off s e (by have hb : b = gw := hb; show gw ≤ b; omega), h.okP⟩
          · show Has wr gw _ #[_, .int .i64 P.nb, .int .i64 P.nj, _, _, .slice ob P.B.length cb, .slice oj P.J.length cj, .slice oc ys.length cc]
            rw [e1, e2, e3, e4, e5]
            exact HWB.out
          · have hx : b = gw := hx
            have := own_from HOB.out (g := b) (by rw [e]; rfl)
            omega
        have b0 := HWB.out.at_ 0
        have b1 := HWB.out.at_ 1
        have b2 := HWB.out.at_ 2
        have b3 := HWB.out.at_ 3
        have b4 := HWB.out.at_ 4
        have b5 := HWB.out.at_ 5
        have b6 := HWB.out.at_ 6
        have b7 := HWB.out.at_ 7
        simp at b0 b1 b2 b3 b4 b5 b6 b7
        have lw : gw < wr.heap.size := HWB.out.here
        cases r with
        | false =>
          go_wp2_with fail
          refine HRt.out.mono ?_
          rintro e w5 ⟨rfl, k5⟩
          have K5 := hid (KB.out.then_ (k5.low KB.out.1.size))
          clear k5 b0 b1 b2 b3 b4 b5 b6 b7 lw
          go_wp2_with fail
          go_ret
          exact ⟨rfl, K5.out⟩
        | true =>
          go_wp2_with fail
          refine HRt.out.mono ?_
          rintro e w5 ⟨rfl, k5⟩
          have K5 := hid (KB.out.then_ (k5.low KB.out.1.size))
          have HV5 := hid (WVar.kept HVQ.out k5)
          have hG : GoodC ys := by have h := HP.out.2.2.1; first | exact h.1 trivial | exact h.1 rfl | exact h
          have OKQ : Hid (POk Q) := by unfold Hid; rw [← eQ]; exact ⟨OK.out.hB, OK.out.hJ, (good_ok HP.out.2.1).2 hG⟩
          have HQC : Hid (Q.C.length = k ∧ Q.B.length = nB ∧ Q.nb = nb) := by unfold Hid; rw [← eQ]; exact ⟨HP.out.1, HE.out.1, HE.out.2.2.1⟩
          clear k5 b0 b1 b2 b3 b4 b5 b6 b7 lw hG eQ HVQ HRt HWd HWB HLB HZB HOB HP hbB KB OK HE
          --PHASE5
          obtain ⟨ob5, oj5, oc5, cb5, cj5, cc5, hH5, hL5⟩ := HV5.out
          have HL5 := hid hL5
          have HH5 := hid hH5
          obtain ⟨nB5, eB5⟩ : ∃ m, (Q).B.length = m := ⟨_, rfl⟩
          obtain ⟨nJ5, eJ5⟩ : ∃ m, (Q).J.length = m := ⟨_, rfl⟩
          obtain ⟨nC5, eC5⟩ : ∃ m, (Q).C.length = m := ⟨_, rfl⟩
          obtain ⟨nb5, eb5⟩ : ∃ m, (Q).nb = m := ⟨_, rfl⟩
          obtain ⟨nj5, ej5⟩ : ∃ m, (Q).nj = m := ⟨_, rfl⟩
          rw [eB5, eJ5, eC5, eb5, ej5] at HH5
          have HE5 := hid (And.intro eB5 (And.intro eJ5 (And.intro eC5 (And.intro eb5 ej5))))
          clear hH5 hL5 eB5 eJ5 eC5 eb5 ej5
          have b0 := HH5.out.at_ 0
          have b1 := HH5.out.at_ 1
          have b2 := HH5.out.at_ 2
          have b3 := HH5.out.at_ 3
          have b4 := HH5.out.at_ 4
          have b5 := HH5.out.at_ 5
          have b6 := HH5.out.at_ 6
          have b7 := HH5.out.at_ 7
          simp at b0 b1 b2 b3 b4 b5 b6 b7
          have lt5 : gw < w5.heap.size := HH5.out.here
          have hnC : nC5 ≤ 12 := by have := HE5.out.2.2.1; have := HQC.out.1; omega
          have hnB : 2 ≤ nB5 := by have := HE5.out.1; have := HQC.out.2.1; omega
          have hnB' : nB5 = nB := by have := HE5.out.1; have := HQC.out.2.1; omega
          subst hnB'
          go_upto_region 25 with fail
          go_wp2_with fail
          go_loopg [18, 19, 20, 148] nC5 (fun gg s18 s19 s20 s148 wx => ∃ j : Nat, j + gg = nC5 ∧ s148 = .int .i64 (j : Nat) ∧ Hid (Made w5.heap.size w5 wx))
          case atStart => exact ⟨0, by omega, rfl, Made.rfl_ _ _⟩
          case round =>
            obtain ⟨j, hj, rfl, HB⟩ := hrel
            have HHj := hid (HH5.out.stays HB.out HH5.out.here)
            have HLj := hid (HL5.out.kept HB.out)
            clear b0 b1 b2 b3 b4 b5 b6 b7 lt5
            by_cases hlt : j < nC5
            · obtain ⟨y, ey⟩ : ∃ a, Q.C[j]? = some a := ⟨_, List.getElem?_eq_getElem (by rw [HE5.out.2.2.1]; exact hlt)⟩
              have HYm := hid (List.mem_of_getElem? ey)
              obtain ⟨bc, oc5', eoc, hbc, hLc⟩ := HLj.out.at_.lC (by rw [HE5.out.2.2.1]; omega)
              subst eoc
              have q5 := (hLc j _ ey).c5
              obtain ⟨ya, yb, yk, yn, yt⟩ := y
              obtain ⟨q0, q1, q2, q3, q4⟩ := q5
              simp only [] at q0 q1 q2 q3 q4
              clear ey hLc
              obtain ⟨W6, eW6⟩ : ∃ V, V = wr.alloc (.cells #[.int .i64 ya, .int .i64 yb, .int .i64 yk, .int .i64 yn, .int .i64 yt] 65) := ⟨_, rfl⟩
              have kk6 : Made wr.heap.size wr W6 := by rw [eW6]; exact (Made.rfl_ _ _).cells (Nat.le_refl _) _ _
              have HY6 : Hid (Has W6 wr.heap.size 65 #[.int .i64 ya, .int .i64 yb, .int .i64 yk, .int .i64 yn, .int .i64 yt]) := by unfold Hid; rw [eW6]; exact has_new _ _ _
              obtain ⟨gy, egy⟩ : ∃ g, wr.heap.size = g := ⟨_, rfl⟩
              rw [egy] at HY6
              have HH6 := hid (HHj.out.stays kk6 HHj.out.here)
              have HL6 := hid (HLj.out.kept kk6)
              have KL6 := hid (HB.out.then_ (kk6.low HB.out.1.size))
              clear kk6
              go_upto_region 28 with fail
              rw [← eW6]
              clear eW6 q0 q1 q2 q3 q4 hbc
              try rw [egy]
              clear egy
              have b0 := HH6.out.at_ 0
              have b1 := HH6.out.at_ 1
              have b2 := HH6.out.at_ 2
              have b3 := HH6.out.at_ 3
              have b4 := HH6.out.at_ 4
              have b5 := HH6.out.at_ 5
              have b6 := HH6.out.at_ 6
              have b7 := HH6.out.at_ 7
              simp at b0 b1 b2 b3 b4 b5 b6 b7
              have lw : gw < W6.heap.size := HH6.out.here
              have y0 := HY6.out.at_ 0
              have y1 := HY6.out.at_ 1
              have y2 := HY6.out.at_ 2
              have y3 := HY6.out.at_ 3
              have y4 := HY6.out.at_ 4
              simp at y0 y1 y2 y3 y4
              have ly : gy < W6.heap.size := HY6.out.here
              have HCt := hid (wcontact_c 0 nb5 nj5 0 0 ob5 oj5 nB5 cb5 nJ5 cj5 (c := cc5) ya yb yk HE5.out.2.2.1 (by omega) HL6.out.at_.lC OKQ.out.hC.up)
              go_wp2_with fail
              refine HCt.out.mono ?_
              rintro e w7 ⟨x, rr, rfl, k7, h1, h2⟩
              have hrr : rr = true := by
                cases rr with
                | true => rfl
                | false => exact absurd ⟨rfl, rfl, rfl⟩ ((h2 rfl).2 _ HYm.out)
              subst hrr
              have hxe : x = ⟨ya, yb, yk, yn, yt⟩ := pair_same OKQ.out.hC.up (h1 rfl).1 HYm.out (h1 rfl).2
              subst hxe
              have KL7 := hid (KL6.out.then_ (k7.low KL6.out.1.size))
              have HY7 := hid (HY6.out.stays k7 HY6.out.here)
              clear h1 h2 k7 b0 b1 b2 b3 b4 b5 b6 b7 y0 y1 y2 y3 y4 lw ly HCt HY6
              have y0 := HY7.out.at_ 0
              have y1 := HY7.out.at_ 1
              have y2 := HY7.out.at_ 2
              have y3 := HY7.out.at_ 3
              have y4 := HY7.out.at_ 4
              simp at y0 y1 y2 y3 y4
              have ly : gy < w7.heap.size := HY7.out.here
              have hq := cneq ya yb yk yn yt
              have KM : Hid (Made w5.heap.size w5 (w7.alloc (.cells #[.int .i64 ya, .int .i64 yb, .int .i64 yk, .int .i64 yn, .int .i64 yt] 65))) := KL7.out.cells KL7.out.1.size _ _
              go_wp2_with fail
              go_roundg (nC5 - (j + 1))
              case measure => omega
              case rel => exact ⟨j + 1, by omega, by go_num, KM.out⟩
            · have ej : j = nC5 := by omega
              subst ej
              --PHASE6
              have K6 := hid (K5.out.then_ (HB.out.low K5.out.1.size))
              have HV6 := hid (WVar.kept HV5.out HB.out)
              clear HHj HLj HH5 HL5 HV5 HB K5
              obtain ⟨ob6, oj6, oc6, cb6, cj6, cc6, hH6, hL6⟩ := HV6.out
              have HL6 := hid hL6
              have HH6 := hid hH6
              obtain ⟨nB6, eB6⟩ : ∃ m, (Q).B.length = m := ⟨_, rfl⟩
              obtain ⟨nJ6, eJ6⟩ : ∃ m, (Q).J.length = m := ⟨_, rfl⟩
              obtain ⟨nC6, eC6⟩ : ∃ m, (Q).C.length = m := ⟨_, rfl⟩
              obtain ⟨nb6, eb6⟩ : ∃ m, (Q).nb = m := ⟨_, rfl⟩
              obtain ⟨nj6, ej6⟩ : ∃ m, (Q).nj = m := ⟨_, rfl⟩
              rw [eB6, eJ6, eC6, eb6, ej6] at HH6
              have HE6 := hid (And.intro eB6 (And.intro eJ6 (And.intro eC6 (And.intro eb6 ej6))))
              clear hH6 hL6 eB6 eJ6 eC6 eb6 ej6
              have b0 := HH6.out.at_ 0
              have b1 := HH6.out.at_ 1
              have b2 := HH6.out.at_ 2
              have b3 := HH6.out.at_ 3
              have b4 := HH6.out.at_ 4
              have b5 := HH6.out.at_ 5
              have b6 := HH6.out.at_ 6
              have b7 := HH6.out.at_ 7
              simp at b0 b1 b2 b3 b4 b5 b6 b7
              have lt6 : gw < wr.heap.size := HH6.out.here
              have hB6 : nB6 = nB5 := by have := HE5.out.1; have := HE6.out.1; omega
              have hC6 : nC6 = j := by have := HE5.out.2.2.1; have := HE6.out.2.2.1; omega
              subst hB6
              subst hC6
              have hnb := OKQ.out.hB.num
              rw [HE6.out.2.2.2.1] at hnb
              have HNb : Hid (NumP (ids Q.B) nb6) := hnb
              have hnb0 := hnb.1
              have hnb1 := hnb.2.1
              clear hnb
              obtain ⟨nbp, enbp⟩ : ∃ z, nb6 + 1 = z := ⟨_, rfl⟩
              have HCt := hid (wcontact_c 0 nb6 nj6 0 0 ob6 oj6 nB6 cb6 nJ6 cj6 (c := cc6) nb6 nbp 0 HE6.out.2.2.1 (by omega) HL6.out.at_.lC OKQ.out.hC.up)
              go_wp2_with fail
              refine HCt.out.mono ?_
              rintro e w7 ⟨x, rr, rfl, k7, h1, h2⟩
              have hrr : rr = false := by
                cases rr with
                | false => rfl
                | true =>
                  obtain ⟨hx1, hx2, _⟩ := h1 rfl
                  have h3 := (OKQ.out.hC.all x hx1).2.2.2.1
                  have h4 := (HNb.out.2.2.2 x.a h3).2
                  omega
              subst hrr
              have hxe : x = ⟨0, 0, 0, 0, 0⟩ := (h2 rfl).1
              subst hxe
              have K7 := hid (K6.out.then_ (k7.low K6.out.1.size))
              have HV7 := hid (WVar.kept HV6.out k7)
              clear h1 h2 k7 b0 b1 b2 b3 b4 b5 b6 b7 lt6 HCt HL6 HH6 HV6 K6 enbp
              obtain ⟨W8, eW8⟩ : ∃ V, V = w7.alloc (.cells #[.int .i64 0, .int .i64 0, .int .i64 0, .int .i64 0, .int .i64 0] 65) := ⟨_, rfl⟩
              have kk8 : Made w7.heap.size w7 W8 := by rw [eW8]; exact (Made.rfl_ _ _).cells (Nat.le_refl _) _ _
              have K8 := hid (K7.out.then_ (kk8.low K7.out.1.size))
              have HV8 := hid (WVar.kept HV7.out kk8)
              have HT8 : Hid (Has W8 w7.heap.size 65 #[.int .i64 0, .int .i64 0, .int .i64 0, .int .i64 0, .int .i64 0]) := by unfold Hid; rw [eW8]; exact has_new _ _ _
              obtain ⟨gt, egt⟩ : ∃ g, w7.heap.size = g := ⟨_, rfl⟩
              rw [egt] at HT8
              clear kk8 HV7 K7
              go_upto_region 33 with fail
              rw [← eW8]
              clear eW8
              try rw [egt]
              clear egt
              have hq := cneq 0 0 0 0 0
              have t0 := HT8.out.at_ 0
              have t1 := HT8.out.at_ 1
              have t2 := HT8.out.at_ 2
              have t3 := HT8.out.at_ 3
              have t4 := HT8.out.at_ 4
              simp at t0 t1 t2 t3 t4
              have lt8 : gt < W8.heap.size := HT8.out.here
              go_upto_region 35 with fail
              clear t0 t1 t2 t3 t4 lt8 HT8
              --PHASE7
              obtain ⟨ob8, oj8, oc8, cb8, cj8, cc8, hH8, hL8⟩ := HV8.out
              have HL8 := hid hL8
              have HH8 := hid hH8
              obtain ⟨nB8, eB8⟩ : ∃ m, (Q).B.length = m := ⟨_, rfl⟩
              obtain ⟨nJ8, eJ8⟩ : ∃ m, (Q).J.length = m := ⟨_, rfl⟩
              obtain ⟨nC8, eC8⟩ : ∃ m, (Q).C.length = m := ⟨_, rfl⟩
              obtain ⟨nb8, eb8⟩ : ∃ m, (Q).nb = m := ⟨_, rfl⟩
              obtain ⟨nj8, ej8⟩ : ∃ m, (Q).nj = m := ⟨_, rfl⟩
              rw [eB8, eJ8, eC8, eb8, ej8] at HH8
              have HE8 := hid (And.intro eB8 (And.intro eJ8 (And.intro eC8 (And.intro eb8 ej8))))
              clear hH8 hL8 eB8 eJ8 eC8 eb8 ej8
              have b0 := HH8.out.at_ 0
              have b1 := HH8.out.at_ 1
              have b2 := HH8.out.at_ 2
              have b3 := HH8.out.at_ 3
              have b4 := HH8.out.at_ 4
              have b5 := HH8.out.at_ 5
              have b6 := HH8.out.at_ 6
              have b7 := HH8.out.at_ 7
              simp at b0 b1 b2 b3 b4 b5 b6 b7
              have lt8 : gw < W8.heap.size := HH8.out.here
              have hB8 : nB8 = nB6 := by have := HE8.out.1; have := HE6.out.1; omega
              have hC8 : nC8 = nC6 := by have := HE8.out.2.2.1; have := HE6.out.2.2.1; omega
              subst hB8
              subst hC8
              obtain ⟨A0, eA0⟩ : ∃ z, id % 256 = z := ⟨_, rfl⟩
              have aA := (and255 id).trans eA0
              have hA0 : 0 ≤ A0 := by omega
              clear eA0
              obtain ⟨ja, eja, hja⟩ := tmod_nat (n := nB8) hA0 (by omega)
              obtain ⟨ya, eya⟩ : ∃ a, Q.B[ja]? = some a := ⟨_, List.getElem?_eq_getElem (by rw [HE8.out.1]; exact hja)⟩
              obtain ⟨bb, off, eob, hbl, hLBl⟩ := HL8.out.at_.lB (by rw [HE8.out.1]; omega)
              subst eob
              have hia := (hLBl ja _ eya).b11.1
              obtain ⟨ia, eia⟩ : ∃ z, ya.id = z := ⟨_, rfl⟩
              rw [eia] at hia
              have HMa : Hid (ia ∈ ids Q.B) := List.mem_map.2 ⟨ya, List.mem_of_getElem? eya, eia⟩
              have hnBm : nB8 ≤ 1073741824 := by have := OKQ.out.hB.len; have := HE8.out.1; omega
              have hne0 : ((nB8 : Int) == 0) = false := by simp; omega
              clear eya eia hLBl
              refine reg_made (by kernel_rfl) (by kernel_rfl) ?_
              intro Ty hT fw hf
              have z5 := Class.reads hf b5
              have u0 := Class.reads hf hia
              repeat (go_big_quiet_step (fail))
              refine wpQuiet_nil ?_
              intro w9 h9
              have k9 := hf.here h9
              have K9 := hid (K8.out.then_ (k9.low K8.out.1.size))
              have HV9 := hid (WVar.kept HV8.out k9)
              clear k9 h9 hf z5 u0 b0 b1 b2 b3 b4 b5 b6 b7 lt8 hia hbl eja aA hja hne0 HL8 HH8 HV8
              obtain ⟨ob9, oj9, oc9, cb9, cj9, cc9, hH9, hL9⟩ := HV9.out
              have HL9 := hid hL9
              have HH9 := hid hH9
              obtain ⟨nB9, eB9⟩ : ∃ m, (Q).B.length = m := ⟨_, rfl⟩
              obtain ⟨nJ9, eJ9⟩ : ∃ m, (Q).J.length = m := ⟨_, rfl⟩
              obtain ⟨nC9, eC9⟩ : ∃ m, (Q).C.length = m := ⟨_, rfl⟩
              obtain ⟨nb9, eb9⟩ : ∃ m, (Q).nb = m := ⟨_, rfl⟩
              obtain ⟨nj9, ej9⟩ : ∃ m, (Q).nj = m := ⟨_, rfl⟩
              rw [eB9, eJ9, eC9, eb9, ej9] at HH9
              have HE9 := hid (And.intro eB9 (And.intro eJ9 (And.intro eC9 (And.intro eb9 ej9))))
              clear hH9 hL9 eB9 eJ9 eC9 eb9 ej9
              have b0 := HH9.out.at_ 0
              have b1 := HH9.out.at_ 1
              have b2 := HH9.out.at_ 2
              have b3 := HH9.out.at_ 3
              have b4 := HH9.out.at_ 4
              have b5 := HH9.out.at_ 5
              have b6 := HH9.out.at_ 6
              have b7 := HH9.out.at_ 7
              simp at b0 b1 b2 b3 b4 b5 b6 b7
              have lt9 : gw < w9.heap.size := HH9.out.here
              have hB9 : nB9 = nB8 := by have := HE8.out.1; have := HE9.out.1; omega
              have hC9 : nC9 = nC8 := by have := HE8.out.2.2.1; have := HE9.out.2.2.1; omega
              subst hB9
              subst hC9
              obtain ⟨pg, epg⟩ : ∃ p : Ct → Bool, p = fun x => !goneC ia x := ⟨_, rfl⟩
              go_wp2_with fail
              go_loopg [24, 26, 199] nC9 (fun gg s24 s26 s199 wx => ∃ j : Nat, j + gg = nC9 ∧ s199 = .int .i64 (j : Nat) ∧ s24 = .int .i64 (((Q.C.take j).filter pg).length : Nat) ∧ Hid (Made w9.heap.size w9 wx))
              case atStart => exact ⟨0, by omega, rfl, by simp, Made.rfl_ _ _⟩
              case round =>
                obtain ⟨j, hj, rfl, rfl, HB⟩ := hrel
                have HLj := hid (HL9.out.kept HB.out)
                clear b0 b1 b2 b3 b4 b5 b6 b7 lt9
                by_cases hlt : j < nC9
                · obtain ⟨y, ey⟩ : ∃ a, Q.C[j]? = some a := ⟨_, List.getElem?_eq_getElem (by rw [HE9.out.2.2.1]; exact hlt)⟩
                  obtain ⟨bc, oc9', eoc, hbc, hLc⟩ := HLj.out.at_.lC (by rw [HE9.out.2.2.1]; omega)
                  subst eoc
                  have q5 := (hLc j _ ey).c5
                  have HTF := hid (take_filter pg Q.C j ey)
                  obtain ⟨ya, yb, yk, yn, yt⟩ := y
                  obtain ⟨q0, q1, q2, q3, q4⟩ := q5
                  simp only [] at q0 q1 q2 q3 q4
                  obtain ⟨cn0, ecn⟩ : ∃ z, ((Q.C.take j).filter pg).length = z := ⟨_, rfl⟩
                  rw [ecn] at HTF
                  have hcn : cn0 ≤ 12 := by have h := List.length_filter_le pg (Q.C.take j); rw [List.length_take] at h; omega
                  rw [ecn]
                  have HP1 : Hid (pg ⟨ya, yb, yk, yn, yt⟩ = !(ya == ia || yb == ia)) := by unfold Hid; rw [epg]; rfl
                  clear ey hLc ecn
                  have KM : Hid (Made w9.heap.size w9 (wr.alloc (.cells #[.int .i64 ya, .int .i64 yb, .int .i64 yk, .int .i64 yn, .int .i64 yt] 65))) := HB.out.cells HB.out.1.size _ _
                  by_cases h1 : ya = ia
                  · have g1 : (ya != ia) = false := by simpa using h1
                    have HT : Hid (((Q.C.take (j + 1)).filter pg).length = cn0) := by
                      unfold Hid
                      have h2 := HP1.out
                      rw [HTF.out, h2, h1]; simp
                    clear h1
                    go_wp2_with fail
                    go_roundg (nC9 - (j + 1))
                    case measure => omega
                    case rel => exact ⟨j + 1, by omega, by go_num, by rw [HT.out], KM.out⟩
                  · have g1 : (ya != ia) = true := by simpa using h1
                    by_cases h2 : yb = ia
                    · have g2 : (yb != ia) = false := by simpa using h2
                      have HT : Hid (((Q.C.take (j + 1)).filter pg).length = cn0) := by
                        unfold Hid
                        have h3 := HP1.out
                        rw [HTF.out, h3, h2]; simp
                      clear h1 h2
                      go_wp2_with fail
                      go_roundg (nC9 - (j + 1))
                      case measure => omega
                      case rel => exact ⟨j + 1, by omega, by go_num, by rw [HT.out], KM.out⟩
                    · have g2 : (yb != ia) = true := by simpa using h2
                      have HT : Hid (((Q.C.take (j + 1)).filter pg).length = cn0 + 1) := by
                        unfold Hid
                        have h3 := HP1.out
                        rw [HTF.out, h3]; simp [h1, h2]
                      clear h1 h2
                      go_wp2_with fail
                      go_roundg (nC9 - (j + 1))
                      case measure => omega
                      case rel => exact ⟨j + 1, by omega, by go_num, by rw [HT.out]; rfl, KM.out⟩
                · have ej : j = nC9 := by omega
                  subst ej
                  have HCnt : Hid (((Q.C.take j).filter pg).length = (remB Q ia).C.length) := by
                    unfold Hid
                    rw [List.take_of_length_le (by rw [HE9.out.2.2.1]; exact Nat.le_refl _), epg]
                    rfl
                  obtain ⟨cn0, ecn⟩ : ∃ z, ((Q.C.take j).filter pg).length = z := ⟨_, rfl⟩
                  rw [ecn] at HCnt
                  rw [ecn]
                  clear ecn epg
                  have K10 := hid (K9.out.then_ (HB.out.low K9.out.1.size))
                  have HV10 := hid (WVar.kept HV9.out HB.out)
                  clear HLj HL9 HH9 HV9 HB K9
                  have HRm := hid (remB_w ia HV10.out OKQ.out rfl (fun b hb => by have hb : b = gw := hb; rw [hb]; exact WVar.here HV10.out) (by have := HE9.out.2.2.1; omega))
                  go_wp2_with fail
                  refine HRm.out.mono ?_
                  rintro e w11 ⟨gone, P1, rfl, hR, hv, kb⟩
                  have hgone : gone = true ∧ P1 = remB Q ia := by
                    rcases hR with ⟨a, _⟩ | ⟨_, a, b⟩
                    · exact absurd HMa.out a
                    · exact ⟨a, b⟩
                  obtain ⟨rfl, rfl⟩ := hgone
                  have K11 : Hid (Made w.heap.size w w11) := But.made_ K10.out kb K10.out.1.size (fun b hb => by have hb : b = gw := hb; omega)
                  have HV11 := hid hv
                  have OK11 := hid (remB_ok (id := ia) OKQ.out)
                  have HC12 : Hid ((remB Q ia).C.length ≤ 12) := by unfold Hid; have h := List.length_filter_le (fun x => !goneC ia x) Q.C; have h2 := HE9.out.2.2.1; show (Q.C.filter _).length ≤ _; omega
                  obtain ⟨R1, eR1⟩ : ∃ R, remB Q ia = R := ⟨_, rfl⟩
                  rw [eR1] at HV11 OK11 HCnt HC12
                  clear hR hv kb HRm HV10 eR1 OKQ
                  obtain ⟨ob7, oj7, oc7, cb7, cj7, cc7, hH7, hL7⟩ := HV11.out
                  have HL7 := hid hL7
                  have HH7 := hid hH7
                  obtain ⟨nB7, eB7⟩ : ∃ m, (R1).B.length = m := ⟨_, rfl⟩
                  obtain ⟨nJ7, eJ7⟩ : ∃ m, (R1).J.length = m := ⟨_, rfl⟩
                  obtain ⟨nC7, eC7⟩ : ∃ m, (R1).C.length = m := ⟨_, rfl⟩
                  obtain ⟨nb7, eb7⟩ : ∃ m, (R1).nb = m := ⟨_, rfl⟩
                  obtain ⟨nj7, ej7⟩ : ∃ m, (R1).nj = m := ⟨_, rfl⟩
                  rw [eB7, eJ7, eC7, eb7, ej7] at HH7
                  have HE7 := hid (And.intro eB7 (And.intro eJ7 (And.intro eC7 (And.intro eb7 ej7))))
                  clear hH7 hL7 eB7 eJ7 eC7 eb7 ej7
                  have b0 := HH7.out.at_ 0
                  have b1 := HH7.out.at_ 1
                  have b2 := HH7.out.at_ 2
                  have b3 := HH7.out.at_ 3
                  have b4 := HH7.out.at_ 4
                  have b5 := HH7.out.at_ 5
                  have b6 := HH7.out.at_ 6
                  have b7 := HH7.out.at_ 7
                  simp at b0 b1 b2 b3 b4 b5 b6 b7
                  have lt7 : gw < w11.heap.size := HH7.out.here
                  have hcnt : cn0 = nC7 := HCnt.out.trans HE7.out.2.2.1
                  subst hcnt
                  have HRt := hid (right_yes HL7.out OK11.out HE7.out (by have := HC12.out; omega))
                  have hqq : ((cn0 : Int) == (cn0 : Int)) = true := by simp
                  go_wp2_with fail
                  refine HRt.out.mono ?_
                  rintro e w12 ⟨rfl, k12⟩
                  have K12 := hid (K11.out.then_ (k12.low K11.out.1.size))
                  clear k12 b0 b1 b2 b3 b4 b5 b6 b7 lt7
                  go_wp2_with fail
                  go_ret
                  exact ⟨rfl, K12.out⟩
end Go.Proofs.Ythhoaapmfknmlaa.Fx
