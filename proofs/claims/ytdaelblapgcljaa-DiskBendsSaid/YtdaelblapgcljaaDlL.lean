/- Layer 17: DiskBends. -/
import Derived.Test.YtdaelblapgcljaaDlK
namespace Go.Proofs.Ytdaelblapgcljaa.Fx
open Go.ChangeShapes Go.WideShapes Go.ChangeAt Go.RowKit Go.Maps Go.Sort
set_option linter.unusedVariables false

theorem bn1 : (createD (newD 1048576) sA).1 = ⟨1048576, 1, -1, -1, false, [fl1 [] 0], [⟨sA, 1⟩], [], [g1], 1⟩ := by rfl
abbrev dB (b : List Nat) : Dsk := ⟨1048576, 2, -1, -1, false, [fl1 b 0], [⟨sA, 1⟩], [], [g1], 1⟩
theorem bn2 (b : List Nat) (h : b.length ≤ 500) : appendD ⟨1048576, 1, -1, -1, false, [fl1 [] 0], [⟨sA, 1⟩], [], [g1], 1⟩ sA b = (dB b, 0) := by
  rw [appendD_yes (n := ⟨sA, 1⟩) (by rfl) (by rfl) (by show ¬ (1048576 : Int) < ((0 : Nat) : Int) + (b.length : Int); omega)]
  rfl
theorem bn3 (b : List Nat) (g : List Nat → List Nat) : bendD (dB b) sA g = (dB (g b), true) := by
  rw [bendD_yes (n := ⟨sA, 1⟩) g (by rfl)]
  rfl
theorem bn4 (b : List Nat) (g : List Nat → List Nat) : bendD (dB b) sB g = (dB b, false) := bendD_no g (by rfl)
theorem bn5 (b : List Nat) : readD (dB b) sA = (⟨1048576, 3, -1, -1, false, [fl1 b 0], [⟨sA, 1⟩], [], [g1], 1⟩, 0, b) := by
  rw [readD_yes (n := ⟨sA, 1⟩) (f := fl1 b 0) (by rfl) (by rfl) (by rfl)]
  rfl
theorem bn6 (b : List Nat) : sizeD ⟨1048576, 3, -1, -1, false, [fl1 b 0], [⟨sA, 1⟩], [], [g1], 1⟩ = b.length := by
  show b.length + 0 = _
  rfl
theorem dB_ok {b : List Nat} (h : b.length ≤ 500) (h8 : ∀ x ∈ b, x < 256) : DOl (dB b) ∧ BudD (dB b) 502 := by
  have h1 := (new_ol 1048576).create sA
  have h2 := (new_bud 1048576 (by omega) 0).create sA
  have h3 := h1.append sA h8
  have h4 := h2.append h1 sA b
  rw [bn1, bn2 b h] at h3 h4
  exact ⟨h3, h4.up (by omega)⟩
theorem bend_8 (at_ : Int) (mask : Nat) {l : List Nat} (h : ∀ x ∈ l, x < 256) : ∀ x ∈ bendL at_ mask l, x < 256 := rowB_8 (fun i => bendB_lt (gb_lt h) at_ mask 32 i) _
def alBn (B n : Nat) (f : Nat → Nat) (i : Nat) (v : World) (g : Nat) (e : MB.Ex) : Prop := OB v B e.v n f
theorem alBn_lasts (B n : Nat) (f : Nat → Nat) : MB.Lasts (alBn B n f) := fun i u v g e h hh k => h.tn (Below.tn (X := NilB) k) (fun b hb h => h)
def valBn (i g : Nat) (e : MB.Ex) : Value := e.v
set_option maxRecDepth 100000 in
set_option maxHeartbeats 8000000 in
theorem dbends_walk {c mask : Nat} {b : List Nat} {ao : Option Addr} {at_ : Int} {w : World} (hB : By w ao b.length (gb b)) (b8 : ∀ x ∈ b, x < 256) (hm : mask < 4294967296) (ln : b.length ≤ 140737488351232) :
    Calls Try.prog 5 #[.slice ao b.length c, .int .i64 at_, .int .u32 (mask : Nat)] w fun e w' => e = .returned (.bool true) ∧ Below w.heap.size w w' := by
  have HB := hid hB; have B8 := hid b8; have HM := hid hm
  have LB : Hid (0 < b.length → ∀ x off, ao = some ⟨x, off, none⟩ → x < w.heap.size) := fun h0 x off e => by
    obtain ⟨y, o, e2, hy⟩ := hB.below h0
    rw [e] at e2; cases e2; exact hy
  clear hB b8 hm
  go_enter Try.func5, Try.ntmps5
  go_wp2_with fail
  refine dfit_c.mono ?_
  rintro e w1 ⟨rfl, hb1⟩
  have HB1 := hid hb1
  clear hb1
  by_cases hl : 500 < b.length
  · have q1 : decide ((500 : Int) < (b.length : Int)) = true := decide_eq_true (by omega)
    go_wp2_with fail
    go_ret
    exact ⟨rfl, HB1.out⟩
  have q1 : decide ((500 : Int) < (b.length : Int)) = false := decide_eq_false (by omega)
  by_cases ha : at_ < -1099511627776
  · have q2 : decide (at_ < -1099511627776) = true := decide_eq_true ha
    go_wp2_with fail
    go_ret
    exact ⟨rfl, HB1.out⟩
  have q2 : decide (at_ < -1099511627776) = false := decide_eq_false ha
  by_cases hc : 1099511627776 < at_
  · have q3 : decide ((1099511627776 : Int) < at_) = true := decide_eq_true hc
    go_wp2_with fail
    go_ret
    exact ⟨rfl, HB1.out⟩
  have q3 : decide ((1099511627776 : Int) < at_) = false := decide_eq_false hc
  have HL : Hid (b.length ≤ 500 ∧ -2305843009213693952 ≤ at_ ∧ at_ ≤ 2305843009213693952) := by unfold Hid; omega
  clear hl ha hc
  go_wp2_with fail
  refine (oNew (room := 1048576) (by omega) (by omega) HB1.out HB1.out.size).mono ?_
  rintro e w2 ⟨p, rfl, h2, _, _⟩
  have h2 := hid h2
  clear HB1
  go_wp2_with fail
  refine (oCreate h2.out (s := sA) (by omega) (by decide)).mono ?_
  rintro e w3 ⟨rfl, h3, _⟩
  rw [bn1] at h3
  have h3 := hid h3
  clear h2
  go_wp2_with fail
  refine (oAppend h3.out (s := sA) (by decide) (b := b) (cb := c) (by have := HL.out; omega) (HB.out.bel (by have := h3.out.below; exact this)) (fun h0 x off e => .inr (LB.out h0 x off e)) B8.out).mono ?_
  rintro e w4 ⟨rfl, h4, _⟩
  rw [bn2 b HL.out.1] at h4
  obtain ⟨k, ep, hk⟩ := h4
  have hcopy := hid (dcopy_c hk.at_ hk.ol (hk.bud.sm (by have := HL.out; omega)))
  rw [ep] at hcopy
  have EP := hid ep
  have HK := hid hk
  clear h3 hk ep
  go_wp2_with fail
  refine hcopy.out.mono ?_
  rintro e w5 ⟨k', rfl, hA', hF, hB5⟩
  obtain ⟨p', ep'⟩ : ∃ p', k'.p = p' := ⟨_, rfl⟩
  rw [ep']
  have EP' := hid ep'
  have HT := hid (Two.mk' HK.out hB5 hA' hF)
  have hbend := hid (dbend_c HT.out.one.at_ HT.out.one.ol (HT.out.one.bud.sm (by have := HL.out; omega)) (s := sA) (by decide) HM.out HL.out.2.1 HL.out.2.2)
  rw [EP.out, bn3] at hbend
  clear hcopy hA' hF hB5 ep' HK
  go_wp2_with fail
  refine hbend.out.mono ?_
  rintro e w6 ⟨rfl, k2, hR⟩
  have bl5 : (bendL at_ mask b).length ≤ 500 := by rw [bendL_len]; exact HL.out.1
  have ok := dB_ok bl5 (bend_8 at_ mask B8.out)
  have HT2 := hid (HT.out.step hR ok.1 ok.2)
  have EP2 : Hid (k2.p = p) := hR.p.trans EP.out
  have hbend2 := hid (dbend_c HT2.out.one.at_ HT2.out.one.ol (HT2.out.one.bud.sm (by omega)) (s := sB) (by decide) HM.out HL.out.2.1 HL.out.2.2)
  rw [EP2.out, bn4] at hbend2
  clear hbend HT hR ok
  go_wp2_with fail
  refine hbend2.out.mono ?_
  rintro e w7 ⟨rfl, k3, hR⟩
  have HT3 := hid (HT2.out.step hR HT2.out.one.ol HT2.out.one.bud)
  have EP3 : Hid (k3.p = p) := hR.p.trans EP2.out
  have hread := hid (dread_c HT3.out.one.at_ HT3.out.one.ol (HT3.out.one.bud.sm (by omega)) (by show (2 : Int) + 1 ≤ _; omega) (s := sA) (by decide))
  rw [EP3.out, bn5] at hread
  clear hbend2 HT2 hR
  go_wp2_with fail
  refine hread.out.mono ?_
  rintro e w8 ⟨v, rfl, hO, hge, k4, hR, hnf⟩
  have okr := HT3.out.one.ol.read sA
  have bur := HT3.out.one.bud.read sA
  rw [bn5] at okr bur
  have hO : OB w8 w7.heap.size v (bendL at_ mask b).length (gb (bendL at_ mask b)) := hO
  rw [bendL_len] at hO
  have HT4 := hid (HT3.out.step hR okr bur)
  have EP4 : Hid (k4.p = p) := hR.p.trans EP3.out
  have hread2 := hid (dread_c HT4.out.swap.one.at_ HT4.out.swap.one.ol (HT4.out.swap.one.bud.sm (by have := HL.out; omega)) (by show (2 : Int) + 1 ≤ _; omega) (s := sA) (by decide))
  rw [EP'.out, bn5] at hread2
  have hfar : ∀ g, v.ownBlock = some g → ¬ Foot k' (dB b) g := fun g hg hf => by
    have h1 := hge g hg
    have h2 := HT3.out.two.at_.lt hf
    omega
  obtain ⟨ax, cx, ev, _⟩ := hO.shape
  subst ev
  have HO := hid hO
  have HFR := hid hfar
  clear hread HT3 hR okr bur hge hnf hO hfar
  go_wp2_with fail
  refine hread2.out.mono ?_
  rintro e w9 ⟨v, rfl, hO2, _, k5, hR, _⟩
  have okr := HT4.out.two.ol.read sA
  have bur := HT4.out.two.bud.read sA
  rw [bn5] at okr bur
  have hO2 : OB w9 w8.heap.size v b.length (gb b) := hO2
  have HX := hid (HO.out.tn hR.tn HFR.out)
  have HT5 := hid (HT4.out.swap.step hR okr bur)
  obtain ⟨ay, cy, ev, _⟩ := hO2.shape
  subst ev
  have HY := hid hO2
  have HBW : Hid (Below w.heap.size w w9) := HT5.out.one.bel
  have HBB := hid (HB.out.bel HBW.out)
  have HSZ := hid (fun (u : World) (hu : Below w9.heap.size w9 u) => dsize_c (DRes.below HT5.out.two.at_ hu).at_ HT5.out.two.ol (HT5.out.two.bud.sm (by omega)))
  rw [EP4.out] at HSZ
  have HCB := hid (fun (u : World) (hu : Below w9.heap.size w9 u) => cbend_c (c := c) (f := gb b) (gb_lt B8.out) (HBB.out.bel hu) (by have := HL.out; omega) HM.out HL.out.2.1 HL.out.2.2)
  obtain ⟨n, en⟩ : ∃ n, b.length = n := ⟨_, rfl⟩
  obtain ⟨XS, eX⟩ : ∃ X, strB (gb (bendL at_ mask b)) n = X := ⟨_, rfl⟩
  obtain ⟨YS, eY⟩ : ∃ X, strB (gb b) n = X := ⟨_, rfl⟩
  have hbs : strB (bendB (gb b) at_ mask 32) n = XS := by
    rw [← eX]
    refine (strB_ext (fun i => bendB_lt (gb_lt B8.out) at_ mask 32 i) (gb_lt (bend_8 at_ mask B8.out)) n).2 fun i hi => ?_
    unfold bendL
    rw [rowB_gb _ _ _ (by rw [en]; exact hi)]
  rw [en] at HX HY HBB HCB ⊢
  have EX := hid eX; have EY := hid eY; have HBS := hid hbs; have HLN := hid (And.intro HL.out.1 en)
  have EN := hid en
  clear hread2 HT4 hR okr bur hO2 HO HFR eX eY hbs en
  go_upto_region 13 with fail
  refine MB.reg_mk (alBn w9.heap.size n (bendB (gb b) at_ mask 32)) 22 [0, 1, 2, 3, 4, 5, 6, 7, 8, 9, 10, 11, 12, 13, 14, 15, 16, 17, 18, 19, 20, 21] [0, 1, 2, 3, 4, 6, 7, 8, 9, 10, 11, 12, 13, 14, 15, 16, 17, 18, 19, 20, 21] [5] [] (fun i => if i = 6 then [5] else []) (val := valBn) (by kernel_rfl) (by kernel_rfl) (fun p hp => absurd hp (by simp)) ?_
  refine MB.can_class (rest := [5, 6, 7, 8, 9, 10, 11, 12, 13, 14, 15, 16, 17, 18, 19, 20, 21]) [0, 1, 2, 3, 4] [] 77 (alBn_lasts _ _ _) (MB.any_class _) (by kernel_rfl) rfl (by kernel_rfl) (by kernel_rfl) ?_
  apply Exists.intro
  refine ⟨?r1, ?r2⟩
  case r1 =>
    intro Ty hTT fw hf _
    have hq5 : ∀ x, (convert 29 9 (.slice ax n cx)).run Try.prog (fw x) = .ok (.string XS) (fw x) := fun x => by
      rw [← EX.out]
      exact conv_by (HX.out.by_.bel (hf.1 x))
    change wpQuiet _ _ _ _ [_, _, _, _, _] _
    repeat (go_big_quiet_step (rfl))
    exact wpQuiet_nil rfl
  refine MB.can_mk 5 60 _ rfl rfl rfl (by rfl) ?m2 fun q2 e2 => ?n2
  case m2 =>
    intro G' u _ hu
    rw [show (execOp _ _).run Try.prog u = .ok (.enter 25 #[.slice ao n c, .int .i64 at_, .int .u32 (mask : Nat)]) u by kernel_rfl]
    show Calls _ _ _ _ _
    refine (HCB.out u hu.1).mono ?_
    rintro e v ⟨x, rfl, h1, h2⟩
    exact ⟨u.heap.size, ⟨v.heap.size, x⟩, rfl, hu.next (alBn_lasts _ _ _) h2.1 (Nat.le_refl _) h2.1.size (Nat.le_refl _) (h1.low hu.1.size)⟩
  rw [show valBn 5 q2 e2 = e2.v from rfl]
  simp only [Act.put, List.setIfInBounds_toArray, List.set_cons_succ, List.set_cons_zero]
  refine MB.can_one 6 61 _ (.string XS) [5] (alBn_lasts _ _ _) (by kernel_rfl) rfl rfl (of_decide_eq_true rfl) (by kernel_rfl) ?r3 ?r4
  case r3 =>
    intro Ty hTT fw hf hmm
    try simp only [List.getElem_toArray, List.getElem_cons_succ, List.getElem_cons_zero]
    have hm2 := fun x => (hmm 5 (by simp) (q2, e2) (by unfold MB.upd; simp) x).2.2.2
    obtain ⟨x0⟩ := hTT
    have hx0 : OB (fw x0) w9.heap.size e2.v n (bendB (gb b) at_ mask 32) := hm2 x0
    obtain ⟨ao5, c5, ev5, _⟩ := hx0.shape
    have hq6 : ∀ x, (convert 29 9 (.slice ao5 n c5)).run Try.prog (fw x) = .ok (.string XS) (fw x) := fun x => by
      have h : OB (fw x) w9.heap.size e2.v n (bendB (gb b) at_ mask 32) := hm2 x
      rw [ev5] at h
      rw [← HBS.out]
      exact conv_by h.by_
    rw [ev5]
    clear hmm hm2 hx0
    repeat (go_big_quiet_step (rfl))
    exact wpQuiet_nil rfl
  simp only [Act.put, List.setIfInBounds_toArray, List.set_cons_succ, List.set_cons_zero]
  refine MB.can_class (rest := []) [7, 8, 9, 10, 11, 12, 13, 14, 15, 16, 17, 18, 19, 20, 21] [] 77 (alBn_lasts _ _ _) (MB.any_class _) (by kernel_rfl) rfl (by kernel_rfl) (by kernel_rfl) ?_
  apply Exists.intro
  refine ⟨?r5, ?r6⟩
  case r5 =>
    intro Ty hTT fw hf _
    have hjj : (XS.toList == XS.toList) = true := by simp
    have hkk : (YS.toList == YS.toList) = true := by simp
    have hnn : ((n : Int) == (n : Int)) = true := by simp
    have hq7 : ∀ x, (convert 29 9 (.slice ay n cy)).run Try.prog (fw x) = .ok (.string YS) (fw x) := fun x => by
      rw [← EY.out]
      exact conv_by (HY.out.by_.bel (hf.1 x))
    have hq8 : ∀ x, (convert 29 9 (.slice ao n c)).run Try.prog (fw x) = .ok (.string YS) (fw x) := fun x => by
      rw [← EY.out]
      exact conv_by (HBB.out.bel (hf.1 x))
    have hz := fun t => hf.below (x := t) (v := .int .i64 (n : Nat)) (by
      have := HSZ.out (fw t) (hf.1 t)
      rw [bn6, bendL_len, EN.out] at this
      exact this)
    have HZ := hid hz
    clear hz
    change wpQuiet _ _ _ _ [_, _, _, _, _, _, _, _, _, _, _, _, _, _, _] _
    repeat (go_big_quiet_step ((go_at_call 21; with_reducible exact HZ.out _)))
    exact wpQuiet_nil rfl
  intro W hu
  have HBF : Hid (Below w.heap.size w W) := HBW.out.trans (hu.1.mono HBW.out.size)
  clear hu
  simp only [List.drop_succ_cons, List.drop_zero]
  go_wp2_with fail
  refine NoPanic.normal ?_
  go_wp2_with fail
  go_ret
  exact ⟨rfl, HBF.out⟩
/-- as the seat asks it -/
theorem dbends_i {n c : Nat} {f : Nat → Nat} {ao : Option Addr} {at_ m : Int} {w : World} (hA : ByIn w ao n c f) (h2 : (Lit.int .u32 m).wf = true) :
    Calls Try.prog 5 #[.slice ao n c, .int .i64 at_, .int .u32 m] w fun e w' => e = .returned (.bool true) ∧ Below w.heap.size w w' := by
  have b1 := bounds_u32 h2
  obtain ⟨y, rfl⟩ : ∃ y : Nat, m = (y : Int) := ⟨m.toNat, by omega⟩
  have h := dbends_walk (c := c) (mask := y) (at_ := at_) (rowB_row hA.1) (rowB_8 hA.2.1 n) (by omega) (by rw [rowB_len]; exact hA.2.2.2)
  rw [rowB_len] at h
  exact h
end Go.Proofs.Ytdaelblapgcljaa.Fx
