/- CoM CoL1 -/
import Derived.Test.YtgdcphmmehedoaaGreatCb21
set_option maxRecDepth 100000
set_option maxHeartbeats 64000000
/- Package codec: orders are read. -/
namespace Go.Proofs.YtgdcphmmehedoaaGreat.Fx
open Go.ChangeShapes Go.WideShapes Go.ChangeAt Go.RowKit
set_option linter.unusedVariables false
theorem encO_oneQ (o : Or) : ∀ v ∈ encO o, v.oneCell' = true := by
 intro v hv
 simp only [encO, List.mem_cons, List.not_mem_nil, or_false] at hv
 rcases hv with rfl | rfl | rfl | rfl | rfl | rfl | rfl | rfl | rfl | rfl | rfl | rfl | rfl | rfl | rfl <;> rfl
theorem i64_z : I64 0 := by unfold I64; omega
theorem dRead_all {α : Type} {one : Rs → α × Rs} {Q : α → Prop} (h1 : ∀ s, RsOk s → RsOk (one s).2) (hq : ∀ s, RsOk s → Q (one s).1) : ∀ n s, RsOk s → ∀ d ∈ (dRead one n s).1, Q d
 | 0, s, h, d, hd => by cases hd
 | n + 1, none, h, d, hd => by rw [dRead_none] at hd; cases hd
 | n + 1, some l, h, d, hd => by
  rw [dRead_some] at hd
  rcases List.mem_cons.1 hd with rfl | hd
  ·exact hq _ h
  ·exact dRead_all h1 hq n _ (h1 _ h) d hd
theorem dS_i {s : Rs} (h : RsOk s) : I64 (dS s).1.k ∧ I64 (dS s).1.r ∧ (∀ p ∈ (dS s).1.p, I64 p.1 ∧ I64 p.2) ∧ (dS s).1.p.length ≤ 255 := by
 by_cases h1 : (dN 1 s).1 = 1
 ·unfold dS
  rw [if_pos h1]
  exact ⟨by show I64 1; unfold I64; omega, dN_i (dN_ok h) (by omega), fun p hp => (by cases hp), Nat.zero_le _⟩
 ·by_cases h2 : (dN 1 s).1 = 2
  ·unfold dS
   rw [if_neg h1, if_pos h2]
   refine ⟨by show I64 2; unfold I64; omega, i64_z, dRead_all (fun _ => dV_ok) (fun _ => dV_i) _ _ (dN_ok (dN_ok h)), ?_⟩
   have h3 := dRead_len dV (dN 1 (dN 1 s).2).1.toNat (dN 1 (dN 1 s).2).2
   have h4 := (dN_lt (m := 1) (dN_ok (m := 1) h) (by omega)).2
   have h5 := (dN_lt (m := 1) (dN_ok (m := 1) h) (by omega)).1
   simp only []
   omega
  ·unfold dS
   rw [if_neg h1, if_neg h2]
   exact ⟨dN_i h (by omega), i64_z, fun p hp => (by cases hp), Nat.zero_le _⟩
theorem dO_i {s : Rs} (h : RsOk s) : OrI (dO s).1 ∧ (dO s).1.n ≤ 255 ∧ (dO s).1.ao = none ∧ (dO s).1.c = 0 := by
 have h0 : RsOk (dN 1 s).2 := dN_ok h
 have hk : I64 (dN 1 s).1 := dN_i h (by omega)
 have cz : Cin (fun _ => ((0 : Int), (0 : Int))) 0 := fun i hi => absurd hi (Nat.not_lt_zero _)
 have z := i64_z
 by_cases h1 : (dN 1 s).1 = 1
 ·unfold dO
  rw [if_pos h1]
  have e1 := dV_i h0
  have e2 := dV_i (dV_ok h0)
  have e3 := dN_i (m := 8) (dV_ok (dV_ok h0)) (by omega)
  have e4 := dN_i (m := 8) (dN_ok (m := 8) (dV_ok (dV_ok h0))) (by omega)
  have e5 := dN_i (m := 8) (dN_ok (m := 8) (dN_ok (m := 8) (dV_ok (dV_ok h0)))) (by omega)
  have e6 := dS_i (dN_ok (m := 8) (dN_ok (m := 8) (dN_ok (m := 8) (dV_ok (dV_ok h0)))))
  exact ⟨⟨by show I64 1; unfold I64; omega, z, z, z, e1.1, e1.2, e2.1, e2.2, e3, e4, e5, z, e6.1, e6.2.1, gP_i e6.2.2.1⟩, e6.2.2.2, rfl, rfl⟩
 by_cases h2 : (dN 1 s).1 = 2 ∨ (dN 1 s).1 = 4
 ·unfold dO
  rw [if_neg h1, if_pos h2]
  exact ⟨⟨hk, dN_i h0 (by omega), z, z, z, z, z, z, z, z, z, z, z, z, cz⟩, Nat.zero_le _, rfl, rfl⟩
 by_cases h3 : (dN 1 s).1 = 3
 ·unfold dO
  rw [if_neg h1, if_neg h2, if_pos h3]
  have e1 := dN_i (m := 8) h0 (by omega)
  have e2 := dN_i (m := 8) (dN_ok (m := 8) h0) (by omega)
  have e3 := dV_i (dN_ok (m := 8) (dN_ok (m := 8) h0))
  have e4 := dV_i (dV_ok (dN_ok (m := 8) (dN_ok (m := 8) h0)))
  have e5 := dN_i (m := 8) (dV_ok (dV_ok (dN_ok (m := 8) (dN_ok (m := 8) h0)))) (by omega)
  exact ⟨⟨by show I64 3; unfold I64; omega, z, e1, e2, e3.1, e3.2, e4.1, e4.2, z, z, z, e5, z, z, cz⟩, Nat.zero_le _, rfl, rfl⟩
 by_cases h5 : (dN 1 s).1 = 5
 ·unfold dO
  rw [if_neg h1, if_neg h2, if_neg h3, if_pos h5]
  have e1 := dN_i (m := 8) h0 (by omega)
  have e2 := dV_i (dN_ok (m := 8) h0)
  have e3 := dN_i (m := 8) (dV_ok (dN_ok (m := 8) h0)) (by omega)
  exact ⟨⟨by show I64 5; unfold I64; omega, e1, z, z, z, z, e2.1, e2.2, z, e3, z, z, z, z, cz⟩, Nat.zero_le _, rfl, rfl⟩
 by_cases h6 : (dN 1 s).1 = 6
 ·unfold dO
  rw [if_neg h1, if_neg h2, if_neg h3, if_neg h5, if_pos h6]
  have e2 := dV_i h0
  exact ⟨⟨by show I64 6; unfold I64; omega, z, z, z, z, z, e2.1, e2.2, z, z, z, z, z, z, cz⟩, Nat.zero_le _, rfl, rfl⟩
 ·unfold dO
  rw [if_neg h1, if_neg h2, if_neg h3, if_neg h5, if_neg h6]
  exact ⟨⟨hk, z, z, z, z, z, z, z, z, z, z, z, z, z, cz⟩, Nat.zero_le _, rfl, rfl⟩
theorem infoQ : (Tryz.prog.info? 49).map (fun i => (i.zero, i.size, i.bytes)) = some (some (.agg #[.int .i64 0, .int .i64 0, .int .i64 0, .int .i64 0, .int .i64 0, .int .i64 0, .int .i64 0, .int .i64 0, .int .i64 0, .int .i64 0, .int .i64 0, .int .i64 0, .int .i64 0, .int .i64 0, .slice none 0 0]), 15, 136) := by kernel_rfl
def bare (o : Or) : Or := { o with ao := none, c := 0 }
def OrIn (g : Nat) (x : Value) (w : World) (o : Or) : Prop := Sl w o.ao o.n o.f ∧ ((o.ao = none ∧ o.n = 0 ∧ o.c = 0) ∨ ∃ a, o.ao = some a) ∧ ∀ b off q, o.ao = some ⟨b, off, q⟩ → g ≤ b ∧ (0 < o.n → some b ≠ x.ownBlock)
theorem OrIn.but {g : Nat} {x : Value} {w u : World} {o : Or} {X : Nat → Prop} (h : OrIn g x w o) (k : But X w u) (hx : ∀ b, g ≤ b → (0 < o.n → some b ≠ x.ownBlock) → ¬ X b) : OrIn g x u o :=
 ⟨Sl.but h.1 k (fun b off s e => hx b (h.2.2 b off s e).1 (h.2.2 b off s e).2), h.2⟩
abbrev OneOrder (pb B : Nat) : Prop := ∀ (s : Rs) (w : World), Rd w pb B s → RsOk s → B ≤ w.heap.size → Calls Tryz.prog 30 #[rdV pb] w fun e w' => ∃ x, e = .returned x ∧ OrAt w w' x (dO s).1 ∧ Rd w' pb B (dO s).2 ∧ But (fun b => b = pb) w w'
theorem rreadO_c {pb B N : Nat} {s : Rs} {w : World} (h1 : OneOrder pb B) (h : Rd w pb B s) (hs : RsOk s) (hB : B ≤ w.heap.size) (hN : N ≤ 1000000) :
  Calls Tryz.prog 28 #[rdV pb, .int .i64 (N : Nat), .func (.func 30) #[] #[]] w fun e w' => ∃ x L, e = .returned x ∧ w'.ownsRow w.heap.size 49 15 x L.length (flatE encO L) ∧ (∀ o ∈ L, OrIn w.heap.size x w' o) ∧ L.map bare = (dRead dO N s).1 ∧ Rd w' pb B (dRead dO N s).2 ∧ But (fun b => b = pb) w w' := by
 have HO := hid h1
 have HB := hid hB
 have KA : Hid (Made w.heap.size w (w.alloc (.cells #[.pointer (some ⟨pb, 0, none⟩)] 88))) := (Made.rfl_ _ _).cells (Nat.le_refl _) _ _
 have HR := hid (h.kept KA.out)
 have HS := hid hs
 have HP := hid h.1
 obtain ⟨g1, eg1⟩ : ∃ g, w.heap.size = g := ⟨_, rfl⟩
 have HG1 := hid eg1
 obtain ⟨W, eW⟩ : ∃ W, W = w.alloc (.cells #[.pointer (some ⟨pb, 0, none⟩)] 88) := ⟨_, rfl⟩
 have HH : Hid (Has W g1 88 #[.pointer (some ⟨pb, 0, none⟩)]) := by unfold Hid; rw [eW, ← eg1]; exact has_new _ _ _
 rw [← eW] at KA HR
 obtain ⟨iO, hiO, hz0, hz1, hz2⟩ := info_parts infoQ
 have iHi := hid hiO; have iH0 := hid hz0; have iH1 := hid hz1; have iH2 := hid hz2
 clear h hs hB hiO hz0 hz1 hz2 h1
 go_enter Tryz.func28, Tryz.ntmps28
 go_upto_region 1 with fail
 rw [← eW]
 clear eW
 try rw [eg1]
 clear eg1
 go_wp2_with fail
 go_loopg [7] N (fun gg s7 wx => ∃ (L : List Or) (s1 : Rs), L.length + gg = N ∧ Hid (wx.ownsRow g1 49 15 s7 L.length (flatE encO L)) ∧ Hid (∀ o ∈ L, OrIn g1 s7 wx o) ∧ Hid (Rd wx pb B s1) ∧ Hid (RsOk s1) ∧ Hid (dRead dO N s = (L.map bare ++ (dRead dO (N - L.length) s1).1, (dRead dO (N - L.length) s1).2)) ∧ Hid (But (fun b => b = pb) w wx) ∧ Hid (Has wx g1 88 #[.pointer (some ⟨pb, 0, none⟩)]) ∧ Hid (g1 ≤ wx.heap.size))
 case atStart => exact ⟨[], s, by simp, World.ownsRow_nil _ _ _ _, fun o ho => (by cases ho), HR.out, HS.out, by simp [Hid], Made.but (by rw [HG1.out] at *; exact KA.out), HH.out, by have := HH.out.here; unfold Hid; omega⟩
 case round =>
  obtain ⟨L, s1, hk, HW, HC, HR1, HS1, HD, HM, HH1, HZ⟩ := hrel
  obtain ⟨ao, c, e7, hkc, _, _⟩ := LsT.of_own (enc := encO) (k := 15) (l := L) (fun _ => rfl) HW.out
  subst e7
  obtain ⟨k, ek⟩ : ∃ k, L.length = k := ⟨_, rfl⟩
  rw [ek] at hk HW HC
  rw [ek]
  have EK := hid ek
  clear ek hkc
  have p0 : wr.cell? ⟨g1, 0, none⟩ = some (.pointer (some ⟨pb, 0, none⟩)) := HH1.out.at_ 0
  by_cases hkm : k < N
  ·have hlt : decide ((k : Int) < (N : Int)) = true := decide_eq_true (by omega)
   have HBad := hid (rB_c HR1.out)
   cases s1 with
   | none =>
    go_wp2_with fail
    refine HBad.out.mono ?_
    rintro e w1 ⟨rfl, rfl⟩
    go_wp2_with fail
    go_ret
    have e := HD.out
    rw [dRead_none, List.append_nil] at e
    rw [e, HG1.out]
    exact ⟨_, L, rfl, by rw [EK.out]; exact HW.out, HC.out, rfl, HR1.out, HM.out⟩
   | some l1 =>
    have HV := hid (HO.out (some l1) wr HR1.out HS1.out (by have := HM.out.size; have := HB.out; omega))
    go_wp2_with fail
    refine HBad.out.mono ?_
    rintro e w1 ⟨rfl, rfl⟩
    go_wp2_with fail
    obtain ⟨p, ep⟩ : ∃ p, (dO (some l1)).1 = p := ⟨_, rfl⟩
    obtain ⟨s2, es2⟩ : ∃ z, (dO (some l1)).2 = z := ⟨_, rfl⟩
    have HIp := hid (dO_i HS1.out)
    have HS2 := hid (dO_ok HS1.out)
    have HD2 : Hid (dRead dO N s = ((L.map bare ++ [p]) ++ (dRead dO (N - (k + 1)) s2).1, (dRead dO (N - (k + 1)) s2).2)) := by
     have e := HD.out
     rw [EK.out, show N - k = (N - (k + 1)) + 1 by omega, dRead_some, ep, es2] at e
     unfold Hid
     rw [e, List.append_assoc]
     rfl
    rw [ep] at HIp
    rw [es2] at HS2
    rw [ep, es2] at HV
    clear ep es2
    refine HV.out.mono ?_
    rintro e w3 ⟨x, rfl, hx, hR3, hM3⟩
    obtain ⟨xo, xc, exv, hsx, hlx, hox⟩ := hx
    obtain ⟨xkd, xid, xa, xb, xx, xy, xvx, xvy, xan, xsp, xde, xln, xk, xr, xo0, xn, xc0, xf⟩ := p
    have e0 : xo0 = none := HIp.out.2.2.1
    have e1 : xc0 = 0 := HIp.out.2.2.2
    subst e0
    subst e1
    have exv1 : x = .agg #[.int .i64 xkd, .int .i64 xid, .int .i64 xa, .int .i64 xb, .int .i64 xx, .int .i64 xy, .int .i64 xvx, .int .i64 xvy, .int .i64 xan, .int .i64 xsp, .int .i64 xde, .int .i64 xln, .int .i64 xk, .int .i64 xr, .slice xo xn xc] := exv
    subst exv1
    have HR3 := hid hR3
    have HM3 := hid (HM.out.then_ hM3)
    have hpg : ¬ g1 = pb := by have := HP.out; have := HB.out; have := HG1.out; omega
    have HH3 := hid (HH1.out.but hM3 hpg)
    have hnb : ∀ b, some b = (Value.slice ao k c).ownBlock → g1 ≤ b ∧ b < wr.heap.size := fun b e => by have := HW.out.lt b e.symm; omega
    have HW3 := hid (own_butK HW.out hM3 (fun b hb e => by have := hnb b hb; have := HP.out; have := HB.out; have := HG1.out; have : b = pb := e; omega))
    have HZ3 : Hid (g1 ≤ w3.heap.size) := Nat.le_trans HZ.out hM3.size
    have HC3 : Hid (∀ o ∈ L, OrIn g1 (.slice ao k c) w3 o) := fun o ho => (HC.out o ho).but hM3 (fun b hb _ e => by have := HP.out; have := HB.out; have := HG1.out; have : b = pb := e; omega)
    have HN3 : Hid (OrIn g1 (.slice ao k c) w3 (⟨xkd, xid, xa, xb, xx, xy, xvx, xvy, xan, xsp, xde, xln, xk, xr, xo, xn, xc, xf⟩ : Or)) := ⟨hsx, hox, fun b off q e => by
     have h1 := hlx b off q e
     exact ⟨by have := HZ.out; omega, fun _ hb => by have := hnb b hb; omega⟩⟩
    clear hR3 hM3 exv hsx hlx hox hnb
    have HOw : Hid ((w3.alloc (.cells #[.int .i64 xkd, .int .i64 xid, .int .i64 xa, .int .i64 xb, .int .i64 xx, .int .i64 xy, .int .i64 xvx, .int .i64 xvy, .int .i64 xan, .int .i64 xsp, .int .i64 xde, .int .i64 xln, .int .i64 xk, .int .i64 xr, .slice xo xn xc] 49)).ownsRow g1 49 15 (.slice ao k c) k (flatE encO L)) := HW3.out.alloc _
    have HNb : Hid (Has (w3.alloc (.cells #[.int .i64 xkd, .int .i64 xid, .int .i64 xa, .int .i64 xb, .int .i64 xx, .int .i64 xy, .int .i64 xvx, .int .i64 xvy, .int .i64 xan, .int .i64 xsp, .int .i64 xde, .int .i64 xln, .int .i64 xk, .int .i64 xr, .slice xo xn xc] 49)) w3.heap.size 49 #[.int .i64 xkd, .int .i64 xid, .int .i64 xa, .int .i64 xb, .int .i64 xx, .int .i64 xy, .int .i64 xvx, .int .i64 xvy, .int .i64 xan, .int .i64 xsp, .int .i64 xde, .int .i64 xln, .int .i64 xk, .int .i64 xr, .slice xo xn xc]) := has_new _ _ _
    have hz3 : g1 ≤ (w3.alloc (.cells #[.int .i64 xkd, .int .i64 xid, .int .i64 xa, .int .i64 xb, .int .i64 xx, .int .i64 xy, .int .i64 xvx, .int .i64 xvy, .int .i64 xan, .int .i64 xsp, .int .i64 xde, .int .i64 xln, .int .i64 xk, .int .i64 xr, .slice xo xn xc] 49)).heap.size := by have := HZ3.out; simp; omega
    go_wp2_with (at_builtin; refine wpList_append_at rfl (.tmp 18) (.tmp 22) 38 rfl g1 49 iO (.agg #[.int .i64 0, .int .i64 0, .int .i64 0, .int .i64 0, .int .i64 0, .int .i64 0, .int .i64 0, .int .i64 0, .int .i64 0, .int .i64 0, .int .i64 0, .int .i64 0, .int .i64 0, .int .i64 0, .slice none 0 0]) 15 136 Tryz.underlying38 iHi.out iH0.out iH1.out iH2.out rfl (by decide) (.slice ao k c) k (flatE encO L) rfl HOw.out ⟨w3.heap.size, 0, none⟩ 1 1 [.int .i64 xkd, .int .i64 xid, .int .i64 xa, .int .i64 xb, .int .i64 xx, .int .i64 xy, .int .i64 xvx, .int .i64 xvy, .int .i64 xan, .int .i64 xsp, .int .i64 xde, .int .i64 xln, .int .i64 xk, .int .i64 xr, .slice xo xn xc] rfl rfl (has_news HNb.out) (encO_oneQ (⟨xkd, xid, xa, xb, xx, xy, xvx, xvy, xan, xsp, xde, xln, xk, xr, xo, xn, xc, xf⟩ : Or)) (by unfold maxLen; omega) (by omega) hz3 (by omega) ?_)
    intro v6 w6 hown hbt hnx
    have kb : But (fun b => some b = (Value.slice ao k c).ownBlock) w3 w6 := (Made.but ((Made.rfl_ w3.heap.size w3).cells (Nat.le_refl _) _ _)).then_ hbt
    have hlow : ∀ b, some b = (Value.slice ao k c).ownBlock → g1 ≤ b := fun b hb => (HW3.out.lt b hb.symm).1
    have HW6 : Hid (w6.ownsRow g1 49 15 v6 (k + 1) (flatE encO (L ++ [(⟨xkd, xid, xa, xb, xx, xy, xvx, xvy, xan, xsp, xde, xln, xk, xr, xo, xn, xc, xf⟩ : Or)]))) := by
     unfold Hid
     rw [← flatE_snoc]
     exact hown
    have hnx' : v6.ownBlock = (Value.slice ao k c).ownBlock ∨ v6.ownBlock = some (w3.heap.size + 1) := by simpa using hnx
    have hmv : ∀ o, OrIn g1 (.slice ao k c) w3 o → OrIn g1 v6 w6 o := fun o h => by
     refine ⟨?_, h.2.1, fun b off q e => ⟨(h.2.2 b off q e).1, fun hn hb => ?_⟩⟩
     ·intro hn
      obtain ⟨b, off, e, hp⟩ := h.1 hn
      exact ⟨b, off, e, hp.but kb ((h.2.2 b off none e).2 hn)⟩
     ·rcases hnx' with h9 | h9
      ·exact (h.2.2 b off q e).2 hn (hb.trans h9)
      ·obtain ⟨b', off', e', hp⟩ := h.1 hn
       rw [e] at e'
       cases e'
       have h3 := World.block_lt_of_cell? _ _ (hp 0 hn).1
       rw [h9] at hb
       have h4 := Option.some.inj hb
       have h3 : b < w3.heap.size := h3
       omega
    have HC6 : Hid (∀ o ∈ L ++ [(⟨xkd, xid, xa, xb, xx, xy, xvx, xvy, xan, xsp, xde, xln, xk, xr, xo, xn, xc, xf⟩ : Or)], OrIn g1 v6 w6 o) := fun o ho => by
     rcases List.mem_append.1 ho with ho | ho
     ·exact hmv o (HC3.out o ho)
     ·rw [List.mem_singleton.1 ho]; exact hmv _ HN3.out
    have HR6 := hid (HR3.out.but kb (fun b hb => by have := hlow b hb; have := HB.out; have := HG1.out; omega))
    have HM6 : Hid (But (fun b => b = pb) w w6) := HM3.out.then_' kb (fun b hb => .inr (by have := hlow b hb; have := HG1.out; omega))
    have HH6 : Hid (Has w6 g1 88 #[.pointer (some ⟨pb, 0, none⟩)]) := HH3.out.but kb (own_apart HW3.out HH3.out (by decide))
    have HZ6 : Hid (g1 ≤ w6.heap.size) := Nat.le_trans HZ3.out kb.size
    clear hown hbt hnx hnx' hmv kb hlow
    go_wp2_with fail
    go_roundg (N - (k + 1))
    case measure => omega
    case rel => exact ⟨L ++ [(⟨xkd, xid, xa, xb, xx, xy, xvx, xvy, xan, xsp, xde, xln, xk, xr, xo, xn, xc, xf⟩ : Or)], s2, by rw [List.length_append, EK.out]; simp; omega, by rw [List.length_append, EK.out]; exact HW6.out, HC6.out, HR6.out, HS2.out, by rw [List.length_append, EK.out, List.map_append]; exact HD2.out, HM6.out, HH6.out, HZ6.out⟩
  ·have hlt : decide ((k : Int) < (N : Int)) = false := decide_eq_false (by omega)
   go_wp2_with fail
   go_ret
   have e := HD.out
   rw [EK.out, show N - k = 0 by omega, show dRead dO 0 s1 = ([], s1) from rfl, List.append_nil] at e
   rw [e, HG1.out]
   exact ⟨_, L, rfl, by rw [EK.out]; exact HW.out, HC.out, rfl, HR1.out, HM.out⟩
theorem rwrong_c (q : Bool) (o : Or) {w : World} (hmx : o.n ≤ 1073741824) (hi : OrI o) (hs : Sl w o.ao o.n o.f) (hq : q = true ↔ OrderP o) : Calls Tryz.prog 33 #[orV o] w fun e v => e = .returned (.bool (!q)) ∧ Made w.heap.size w v := by
 have HC := hid (fun v (k : Made w.heap.size w v) => oright_c q o (w := v) hmx hi (fun hn => by obtain ⟨b, off, e, hp⟩ := hs hn; exact ⟨b, off, e, hp.kept k⟩) hq)
 clear hmx hi hs hq
 obtain ⟨kd, id, a, b, x, y, vx, vy, an, sp, de, ln, k, r, ao, n, c, f⟩ := o
 obtain ⟨W, eW⟩ : ∃ W, W = w.alloc (.cells #[.int .i64 kd, .int .i64 id, .int .i64 a, .int .i64 b, .int .i64 x, .int .i64 y, .int .i64 vx, .int .i64 vy, .int .i64 an, .int .i64 sp, .int .i64 de, .int .i64 ln, .int .i64 k, .int .i64 r, .slice ao n c] 49) := ⟨_, rfl⟩
 have KW : Hid (Made w.heap.size w W) := by unfold Hid; rw [eW]; exact (Made.rfl_ _ _).cells (Nat.le_refl _) _ _
 have HB : Hid (Has W w.heap.size 49 #[.int .i64 kd, .int .i64 id, .int .i64 a, .int .i64 b, .int .i64 x, .int .i64 y, .int .i64 vx, .int .i64 vy, .int .i64 an, .int .i64 sp, .int .i64 de, .int .i64 ln, .int .i64 k, .int .i64 r, .slice ao n c]) := by unfold Hid; rw [eW]; exact has_new _ _ _
 obtain ⟨g1, eg1⟩ : ∃ g, w.heap.size = g := ⟨_, rfl⟩
 have HG1 := hid eg1
 rw [eg1] at HB
 have b0 := HB.out.at_ 0
 have b1 := HB.out.at_ 1
 have b2 := HB.out.at_ 2
 have b3 := HB.out.at_ 3
 have b4 := HB.out.at_ 4
 have b5 := HB.out.at_ 5
 have b6 := HB.out.at_ 6
 have b7 := HB.out.at_ 7
 have b8 := HB.out.at_ 8
 have b9 := HB.out.at_ 9
 have b10 := HB.out.at_ 10
 have b11 := HB.out.at_ 11
 have b12 := HB.out.at_ 12
 have b13 := HB.out.at_ 13
 have b14 := HB.out.at_ 14
 simp at b0 b1 b2 b3 b4 b5 b6 b7 b8 b9 b10 b11 b12 b13 b14
 have l1 : g1 < W.heap.size := HB.out.here
 go_enter Tryz.func33, Tryz.ntmps33
 go_upto_region 1 with fail
 rw [← eW]
 clear eW
 try rw [eg1]
 clear eg1
 go_wp2_with fail
 refine (HC.out _ KW.out).mono ?_
 rintro e w1 ⟨rfl, k1⟩
 have K1 := hid (KW.out.then_ (k1.low KW.out.1.size))
 clear k1 b0 b1 b2 b3 b4 b5 b6 b7 b8 b9 b10 b11 b12 b13 b14 l1
 go_wp2_with fail
 go_ret
 exact ⟨rfl, K1.out⟩
theorem ranyWrong_c {l : List Or} {ao : Option Addr} {n c : Nat} {w : World} (hn : l.length = n) (hmx : n ≤ 4611686018427387904) (hl : OrsAt w ao l) :
  Calls Tryz.prog 32 #[.slice ao n c, .func (.func 33) #[] #[]] w fun e v => ∃ r, e = .returned (.bool r) ∧ Made w.heap.size w v ∧ (r = true ↔ ∃ o ∈ l, ¬ OrderP o) := by
 have hdec : ∀ i : Nat, ∃ t : Bool, t = true ↔ ∃ o, l[i]? = some o ∧ ¬ OrderP o := fun (i : Nat) => a_bool (∃ o, l[i]? = some o ∧ ¬ OrderP o)
 refine (containsO_c 33 #[] (by intro args w; rfl) Nil0 (fun _ _ => True) (fun i => Classical.choose (hdec i)) (c := c) (w := w) hn hmx hl.1 (fun _ => Offs.nil _) trivial (fun i x u hx hB _ => ?_)).mono ?_
 ·obtain ⟨h1, h2, h3⟩ := (hl.kept hB.made).2 x (List.mem_of_getElem? hx)
  obtain ⟨q, hq⟩ := a_bool (OrderP x)
  refine (rwrong_c q x h2 h1 h3 hq).mono ?_
  rintro e v ⟨rfl, k⟩
  refine ⟨?_, Made.but k, trivial⟩
  have hc := Classical.choose_spec (hdec i)
  have h4 : Classical.choose (hdec i) = !q := by
   cases q with
   | true =>
    have hx' := hq.1 rfl
    rw [Bool.not_true]
    exact Bool.eq_false_iff.2 fun h => by
     obtain ⟨o, ho, hno⟩ := hc.1 h
     rw [hx] at ho
     cases ho
     exact hno hx'
   | false =>
    rw [Bool.not_false]
    exact hc.2 ⟨x, hx, fun h => by have := hq.2 h; cases this⟩
  rw [h4]
 ·rintro e v ⟨r, rfl, k, h⟩
  refine ⟨r, rfl, k.made, ?_⟩
  rcases h with ⟨rfl, h1, _⟩ | ⟨rfl, i, hi, h1⟩
  ·refine ⟨fun e => (by cases e), fun ⟨o, ho, hno⟩ => ?_⟩
   obtain ⟨i, hi⟩ := List.mem_iff_getElem?.1 ho
   have h2 := h1 i (by rw [← hn]; exact (List.getElem?_eq_some_iff.1 hi).1)
   have h3 := (Classical.choose_spec (hdec i)).2 ⟨o, hi, hno⟩
   rw [h2] at h3
   cases h3
  ·obtain ⟨o, ho, hno⟩ := (Classical.choose_spec (hdec i)).1 h1
   exact ⟨fun _ => ⟨o, List.mem_of_getElem? ho, hno⟩, fun _ => rfl⟩
theorem rFail_c {pb B : Nat} {s : Rs} {w : World} (h : Rd w pb B s) : Calls Tryz.prog 72 #[.pointer (some ⟨pb, 0, none⟩)] w fun e w' => e = .returned (.tuple #[]) ∧ Rd w' pb B none ∧ But (fun b => b = pb) w w' := by
 obtain ⟨hp, h⟩ := h
 cases s with
 | none =>
  refine (rfailx_c h).mono ?_
  rintro e w' ⟨rfl, h1, h2⟩
  exact ⟨rfl, ⟨hp, h1⟩, h2.but⟩
 | some l =>
  obtain ⟨ao, c, h2, h3⟩ : ∃ ao c, Re w pb ao l.length c (gl l) ∧ (0 < l.length → ∀ b off, ao = some ⟨b, off, none⟩ → b < B) := h
  refine (rfail_c h2).mono ?_
  rintro e w' ⟨rfl, h1, h2⟩
  exact ⟨rfl, ⟨hp, h1⟩, h2.but⟩
theorem rC_c {pb B : Nat} {s : Rs} {w : World} {most : Int} (h : Rd w pb B s) (hs : RsOk s) : Calls Tryz.prog 29 #[.pointer (some ⟨pb, 0, none⟩), .int .i64 most] w fun e w' => e = .returned (.int .i64 (dC most s).1) ∧ Rd w' pb B (dC most s).2 ∧ But (fun b => b = pb) w w' := by
 have H := hid (rN_c (m := 2) h hs (by omega) (by omega))
 obtain ⟨n, en⟩ : ∃ n, (dN 2 s).1 = n := ⟨_, rfl⟩
 have HD : Hid (dC most s = if most < n then (0, none) else dN 2 s) := by unfold Hid dC; rw [en]
 rw [en] at H
 have EN := hid en
 clear h hs en
 by_cases hm : most < n
 ·have e1 : decide (n > most) = true := decide_eq_true hm
  go_enter Tryz.func29, Tryz.ntmps29
  go_wp2_with fail
  refine H.out.mono ?_
  rintro e w1 ⟨rfl, h1, k1⟩
  have H2 := hid (rFail_c h1)
  have K1 := hid k1
  clear h1 k1
  go_wp2_with fail
  refine H2.out.mono ?_
  rintro e w2 ⟨rfl, h2, k2⟩
  have R2 := hid h2
  have K2 := hid (K1.out.then_ k2)
  clear h2 k2
  go_wp2_with fail
  go_ret
  rw [HD.out, if_pos hm]
  exact ⟨rfl, R2.out, K2.out⟩
 ·have e1 : decide (n > most) = false := decide_eq_false hm
  go_enter Tryz.func29, Tryz.ntmps29
  go_wp2_with fail
  refine H.out.mono ?_
  rintro e w1 ⟨rfl, h1, k1⟩
  have R1 := hid h1
  have K1 := hid k1
  clear h1 k1
  go_wp2_with fail
  go_ret
  rw [HD.out, if_neg (by omega)]
  exact ⟨by rw [EN.out]; rfl, R1.out, K1.out⟩
end Go.Proofs.YtgdcphmmehedoaaGreat.Fx
/- Package codec: an order is read. -/
namespace Go.Proofs.YtgdcphmmehedoaaGreat.Fx
open Go.ChangeShapes Go.WideShapes Go.ChangeAt Go.RowKit
set_option linter.unusedVariables false
theorem rorder1_c {pb B : Nat} {s : Rs} {w : World} (h : Rd w pb B s) (hs : RsOk s) (hB : B ≤ w.heap.size) (ek : (dN 1 s).1 = 1) :
  Calls Tryz.prog 30 #[rdV pb] w fun e w' => ∃ x, e = .returned x ∧ OrAt w w' x (dO s).1 ∧ Rd w' pb B (dO s).2 ∧ But (fun b => b = pb) w w' := by
 have HB := hid hB
 have HP := hid h.1
 have HS := hid hs
 obtain ⟨s1, es1⟩ : ∃ z, (dN 1 s).2 = z := ⟨_, rfl⟩
 have HS1 := hid (dN_ok (m := 1) hs)
 rw [es1] at HS1
 have ES1 := hid es1
 have EK := hid ek
 obtain ⟨W, eW⟩ : ∃ W, W = (w.alloc (.cells #[.pointer (some ⟨pb, 0, none⟩)] 88)).alloc (.cells #[.int .i64 0, .int .i64 0, .int .i64 0, .int .i64 0, .int .i64 0, .int .i64 0, .int .i64 0, .int .i64 0, .int .i64 0, .int .i64 0, .int .i64 0, .int .i64 0, .int .i64 0, .int .i64 0, .slice none 0 0] 49) := ⟨_, rfl⟩
 have KA : Hid (Made w.heap.size w W) := by unfold Hid; rw [eW]; exact ((Made.rfl_ _ _).cells (Nat.le_refl _) _ _).cells (by simp) _ _
 obtain ⟨g1, eg1⟩ : ∃ g, w.heap.size = g := ⟨_, rfl⟩
 obtain ⟨g2, eg2⟩ : ∃ g, (w.alloc (.cells #[.pointer (some ⟨pb, 0, none⟩)] 88)).heap.size = g := ⟨_, rfl⟩
 have HG1 := hid eg1
 have HG2 : Hid (g2 = g1 + 1) := by unfold Hid; rw [← eg2, ← eg1]; simp
 have HH1 : Hid (Has W g1 88 #[.pointer (some ⟨pb, 0, none⟩)]) := by unfold Hid; rw [eW, ← eg1]; exact (has_new _ _ _).more _
 have HH2 : Hid (Has W g2 49 #[.int .i64 0, .int .i64 0, .int .i64 0, .int .i64 0, .int .i64 0, .int .i64 0, .int .i64 0, .int .i64 0, .int .i64 0, .int .i64 0, .int .i64 0, .int .i64 0, .int .i64 0, .int .i64 0, .slice none 0 0]) := by unfold Hid; rw [eW, ← eg2]; exact has_new _ _ _
 have H1 := hid (rN_c (m := 1) (h.kept KA.out) hs (by omega) (by omega))
 rw [ek, es1] at H1
 have p0 : W.cell? ⟨g1, 0, none⟩ = some (.pointer (some ⟨pb, 0, none⟩)) := HH1.out.at_ 0
 clear h hs hB ek es1
 go_enter Tryz.func30, Tryz.ntmps30
 go_upto_region 1 with fail
 first | rw [← eW] | (rw [eg1] at *; rw [← eW])
 clear eW
 try rw [eg2]
 clear eg2
 try rw [eg1]
 clear eg1
 go_wp2_with fail
 refine H1.out.mono ?_
 rintro e w1 ⟨rfl, hR1, hM1⟩
 have hp1 : ¬ g1 = pb := by have := HP.out; have := HB.out; have := HG1.out; omega
 have hp2 : ¬ g2 = pb := by have := HP.out; have := HB.out; have := HG1.out; have := HG2.out; omega
 have KB := hid ((Made.but KA.out : But (fun b => b = pb) w W).then_ hM1)
 have HHa := hid (HH1.out.but hM1 hp1)
 have HHb := hid (HH2.out.but hM1 hp2)
 have HR1 := hid hR1
 clear hR1 hM1 p0 HH1 HH2
 obtain ⟨W2, eW2⟩ : ∃ V, V = w1.alloc (.cells #[.int .i64 1, .int .i64 0, .int .i64 0, .int .i64 0, .int .i64 0, .int .i64 0, .int .i64 0, .int .i64 0, .int .i64 0, .int .i64 0, .int .i64 0, .int .i64 0, .int .i64 0, .int .i64 0, .slice none 0 0] 49) := ⟨_, rfl⟩
 have K2 : Hid (Made w1.heap.size w1 W2) := by unfold Hid; rw [eW2]; exact (Made.rfl_ _ _).cells (Nat.le_refl _) _ _
 obtain ⟨g3, eg3⟩ : ∃ g, w1.heap.size = g := ⟨_, rfl⟩
 have hl1 := HHa.out.here
 have hl2 := HHb.out.here
 have HH3 : Hid (Has W2 g3 49 #[.int .i64 1, .int .i64 0, .int .i64 0, .int .i64 0, .int .i64 0, .int .i64 0, .int .i64 0, .int .i64 0, .int .i64 0, .int .i64 0, .int .i64 0, .int .i64 0, .int .i64 0, .int .i64 0, .slice none 0 0]) := by unfold Hid; rw [eW2, ← eg3]; exact has_new _ _ _
 have HH1 : Hid (Has W2 g1 88 #[.pointer (some ⟨pb, 0, none⟩)]) := HHa.out.stays K2.out hl1
 have HH2 : Hid (Has W2 g2 49 #[.int .i64 0, .int .i64 0, .int .i64 0, .int .i64 0, .int .i64 0, .int .i64 0, .int .i64 0, .int .i64 0, .int .i64 0, .int .i64 0, .int .i64 0, .int .i64 0, .int .i64 0, .int .i64 0, .slice none 0 0]) := HHb.out.stays K2.out hl2
 have HR2 := hid (HR1.out.kept K2.out)
 have KC := hid (KB.out.via K2.out)
 have HLT : Hid (g1 < g3 ∧ g2 < g3) := by unfold Hid; omega
 have p0 : W2.cell? ⟨g1, 0, none⟩ = some (.pointer (some ⟨pb, 0, none⟩)) := HH1.out.at_ 0
 have d0 : W2.cell? ⟨g3, 0, none⟩ = some (.int .i64 1) := HH3.out.at_ 0
 have hp3 : ¬ g3 = pb := by have := HP.out; have := HB.out; have := HG1.out; have := HLT.out.1; omega
 have HBW : Hid (B ≤ W2.heap.size) := by unfold Hid; have := KC.out.size; have := HB.out; omega
 clear HHa HHb hl1 hl2 HR1
 go_upto_region 2 with fail
 rw [← eW2]
 clear eW2
 try rw [eg3]
 clear eg3
 have HC0 := hid (rVq_c (pb := pb) (B := B) HS1.out)
 obtain ⟨y0, ey0⟩ : ∃ r, (dV s1).1 = r := ⟨_, rfl⟩
 obtain ⟨s2, es0⟩ : ∃ r, (dV s1).2 = r := ⟨_, rfl⟩
 have HS2 := hid (dV_ok HS1.out)
 rw [es0] at HS2
 rw [ey0, es0] at HC0
 have EY0 := hid ey0
 have EZ0 := hid es0
 clear ey0 es0
 obtain ⟨x, y⟩ := y0
 have HC1 := hid (rVq_c (pb := pb) (B := B) HS2.out)
 obtain ⟨y1, ey1⟩ : ∃ r, (dV s2).1 = r := ⟨_, rfl⟩
 obtain ⟨s3, es1⟩ : ∃ r, (dV s2).2 = r := ⟨_, rfl⟩
 have HS3 := hid (dV_ok HS2.out)
 rw [es1] at HS3
 rw [ey1, es1] at HC1
 have EY1 := hid ey1
 have EZ1 := hid es1
 clear ey1 es1
 obtain ⟨vx, vy⟩ := y1
 have HC2 := hid (rFq_c (pb := pb) (B := B) HS3.out)
 obtain ⟨y2, ey2⟩ : ∃ r, (dN 8 s3).1 = r := ⟨_, rfl⟩
 obtain ⟨s4, es2⟩ : ∃ r, (dN 8 s3).2 = r := ⟨_, rfl⟩
 have HS4 := hid (dN_ok (m := 8) HS3.out)
 rw [es2] at HS4
 rw [ey2, es2] at HC2
 have EY2 := hid ey2
 have EZ2 := hid es2
 clear ey2 es2
 have HC3 := hid (rFq_c (pb := pb) (B := B) HS4.out)
 obtain ⟨y3, ey3⟩ : ∃ r, (dN 8 s4).1 = r := ⟨_, rfl⟩
 obtain ⟨s5, es3⟩ : ∃ r, (dN 8 s4).2 = r := ⟨_, rfl⟩
 have HS5 := hid (dN_ok (m := 8) HS4.out)
 rw [es3] at HS5
 rw [ey3, es3] at HC3
 have EY3 := hid ey3
 have EZ3 := hid es3
 clear ey3 es3
 have HC4 := hid (rFq_c (pb := pb) (B := B) HS5.out)
 obtain ⟨y4, ey4⟩ : ∃ r, (dN 8 s5).1 = r := ⟨_, rfl⟩
 obtain ⟨s6, es4⟩ : ∃ r, (dN 8 s5).2 = r := ⟨_, rfl⟩
 have HS6 := hid (dN_ok (m := 8) HS5.out)
 rw [es4] at HS6
 rw [ey4, es4] at HC4
 have EY4 := hid ey4
 have EZ4 := hid es4
 clear ey4 es4
 have HC5 := hid (rSq_c (pb := pb) (B := B) HS6.out)
 obtain ⟨y5, ey5⟩ : ∃ r, (dS s6).1 = r := ⟨_, rfl⟩
 obtain ⟨s7, es5⟩ : ∃ r, (dS s6).2 = r := ⟨_, rfl⟩
 have HS7 := hid (dS_ok HS6.out)
 rw [es5] at HS7
 rw [ey5, es5] at HC5
 have EY5 := hid ey5
 have EZ5 := hid es5
 clear ey5 es5
 obtain ⟨k, r, pp⟩ := y5
 go_upto_region 4 with fail
 refine RF.reg_flow (fun s G u => Rd u pb B ([s1, s2, s3, s4, s5, s6, s7].getD (s 0) none) ∧ But (fun b => b = pb ∨ b = g3) W2 u ∧ (s 1 ≤ 5 → Has u g3 49 (([#[.int .i64 1, .int .i64 0, .int .i64 0, .int .i64 0, .int .i64 0, .int .i64 0, .int .i64 0, .int .i64 0, .int .i64 0, .int .i64 0, .int .i64 0, .int .i64 0, .int .i64 0, .int .i64 0, .slice none 0 0], ((#[.int .i64 1, .int .i64 0, .int .i64 0, .int .i64 0, .int .i64 0, .int .i64 0, .int .i64 0, .int .i64 0, .int .i64 0, .int .i64 0, .int .i64 0, .int .i64 0, .int .i64 0, .int .i64 0, .slice none 0 0].setIfInBounds 4 (.int .i64 x)).setIfInBounds 5 (.int .i64 y)), ((((#[.int .i64 1, .int .i64 0, .int .i64 0, .int .i64 0, .int .i64 0, .int .i64 0, .int .i64 0, .int .i64 0, .int .i64 0, .int .i64 0, .int .i64 0, .int .i64 0, .int .i64 0, .int .i64 0, .slice none 0 0].setIfInBounds 4 (.int .i64 x)).setIfInBounds 5 (.int .i64 y)).setIfInBounds 6 (.int .i64 vx)).setIfInBounds 7 (.int .i64 vy)), (((((#[.int .i64 1, .int .i64 0, .int .i64 0, .int .i64 0, .int .i64 0, .int .i64 0, .int .i64 0, .int .i64 0, .int .i64 0, .int .i64 0, .int .i64 0, .int .i64 0, .int .i64 0, .int .i64 0, .slice none 0 0].setIfInBounds 4 (.int .i64 x)).setIfInBounds 5 (.int .i64 y)).setIfInBounds 6 (.int .i64 vx)).setIfInBounds 7 (.int .i64 vy)).setIfInBounds 8 (.int .i64 y2)), ((((((#[.int .i64 1, .int .i64 0, .int .i64 0, .int .i64 0, .int .i64 0, .int .i64 0, .int .i64 0, .int .i64 0, .int .i64 0, .int .i64 0, .int .i64 0, .int .i64 0, .int .i64 0, .int .i64 0, .slice none 0 0].setIfInBounds 4 (.int .i64 x)).setIfInBounds 5 (.int .i64 y)).setIfInBounds 6 (.int .i64 vx)).setIfInBounds 7 (.int .i64 vy)).setIfInBounds 8 (.int .i64 y2)).setIfInBounds 9 (.int .i64 y3)), (((((((#[.int .i64 1, .int .i64 0, .int .i64 0, .int .i64 0, .int .i64 0, .int .i64 0, .int .i64 0, .int .i64 0, .int .i64 0, .int .i64 0, .int .i64 0, .int .i64 0, .int .i64 0, .int .i64 0, .slice none 0 0].setIfInBounds 4 (.int .i64 x)).setIfInBounds 5 (.int .i64 y)).setIfInBounds 6 (.int .i64 vx)).setIfInBounds 7 (.int .i64 vy)).setIfInBounds 8 (.int .i64 y2)).setIfInBounds 9 (.int .i64 y3)).setIfInBounds 10 (.int .i64 y4))] : List (Array Value)).getD (s 1) #[])) ∧ (6 ≤ s 1 → 6 ≤ s 0 ∧ ∃ ao c, G 16 = .agg #[.int .i64 k, .int .i64 r, .slice ao pp.length c] ∧ Has u g3 49 ((((((((((#[.int .i64 1, .int .i64 0, .int .i64 0, .int .i64 0, .int .i64 0, .int .i64 0, .int .i64 0, .int .i64 0, .int .i64 0, .int .i64 0, .int .i64 0, .int .i64 0, .int .i64 0, .int .i64 0, .slice none 0 0].setIfInBounds 4 (.int .i64 x)).setIfInBounds 5 (.int .i64 y)).setIfInBounds 6 (.int .i64 vx)).setIfInBounds 7 (.int .i64 vy)).setIfInBounds 8 (.int .i64 y2)).setIfInBounds 9 (.int .i64 y3)).setIfInBounds 10 (.int .i64 y4)).setIfInBounds 12 (.int .i64 k)).setIfInBounds 13 (.int .i64 r)).setIfInBounds 14 (.slice ao pp.length c))) ∧ (6 ≤ s 0 → ShAt W2 u (G 16) ⟨k, r, pp⟩)) [[2, 5, 8, 11, 14, 16], [18, 20, 22, 24, 26, 28]] [(16, 28)] [0, 1, 3, 4, 6, 7, 9, 10, 12, 13, 15, 17, 19, 21, 23, 25, 27] [(14, paV (x, y)), (17, paV (vx, vy)), (20, .int .i64 y2), (23, .int .i64 y3), (26, .int .i64 y4)] 85 (by kernel_rfl) ⟨HR2.out.kept (made_draw _), Made.but (made_draw _), fun _ => HH3.out, fun h => absurd h (by decide), fun h => absurd h (by decide)⟩ (by kernel_rfl) rfl (by kernel_rfl) (by kernel_rfl) ?_
 apply Exists.intro
 refine ⟨?qa, ?qb, ?qc⟩
 case qa =>
  intro s G Ty hT f hf
  have z0 : ∀ x, (f x).cell? ⟨g1, 0, none⟩ = some (.pointer (some ⟨pb, 0, none⟩)) := fun x => ((hf (f x)).2 ⟨x, rfl⟩).2.1.cell p0 (fun e => by have := HLT.out.1; have := HP.out; have := HB.out; have := HG1.out; have e : g1 = pb ∨ g1 = g3 := e; rcases e with e | e <;> omega)
  clear hf
  simp only [RF.putF, Act.put, List.setIfInBounds_toArray, List.set_cons_succ, List.set_cons_zero]
  change wpQuiet _ _ _ _ [_, _, _, _, _, _, _, _, _, _, _, _, _, _, _, _, _] _
  repeat (go_big_quiet_step (fail))
  exact wpQuiet_nil rfl
 case qb =>
  refine ⟨⟨?_, ?_, ?_, ?_, ?_, ?_, trivial⟩, ⟨?_, ?_, ?_, ?_, ?_, ?_, trivial⟩, trivial⟩
  ·intro s G u hC hk hw
   rw [show (execOp _ _).run Tryz.prog u = .ok (.enter 61 #[.pointer (some ⟨pb, 0, none⟩)]) u by kernel_rfl]
   obtain ⟨hR, hM, hH, hF, hX⟩ := hC
   rw [hk] at hR
   refine (HC0.out u hR (Nat.le_trans HBW.out hM.size)).mono ?_
   rintro e u' ⟨rfl, h1, h2⟩
   refine ⟨_, rfl, ⟨?_, hM.then_ (h2.up fun b _ e => .inl e), fun h => ?_, fun h => ?_, fun h => ?_⟩, .inr fun d e => by cases e; rfl⟩
   ·rw [RF.upd_same]; exact h1
   ·rw [RF.upd_else _ _ (show (1 : Nat) ≠ 0 by decide)] at h ⊢; exact (hH h).but h2 hp3
   ·rw [RF.upd_else _ _ (show (1 : Nat) ≠ 0 by decide)] at h
    have := (hF h).1
    omega
   ·rw [RF.upd_same] at h; exact absurd h (by decide)
  ·intro s G u hC hk hw
   rw [show (execOp _ _).run Tryz.prog u = .ok (.enter 61 #[.pointer (some ⟨pb, 0, none⟩)]) u by kernel_rfl]
   obtain ⟨hR, hM, hH, hF, hX⟩ := hC
   rw [hk] at hR
   refine (HC1.out u hR (Nat.le_trans HBW.out hM.size)).mono ?_
   rintro e u' ⟨rfl, h1, h2⟩
   refine ⟨_, rfl, ⟨?_, hM.then_ (h2.up fun b _ e => .inl e), fun h => ?_, fun h => ?_, fun h => ?_⟩, .inr fun d e => by cases e; rfl⟩
   ·rw [RF.upd_same]; exact h1
   ·rw [RF.upd_else _ _ (show (1 : Nat) ≠ 0 by decide)] at h ⊢; exact (hH h).but h2 hp3
   ·rw [RF.upd_else _ _ (show (1 : Nat) ≠ 0 by decide)] at h
    have := (hF h).1
    omega
   ·rw [RF.upd_same] at h; exact absurd h (by decide)
  ·intro s G u hC hk hw
   rw [show (execOp _ _).run Tryz.prog u = .ok (.enter 73 #[.pointer (some ⟨pb, 0, none⟩)]) u by kernel_rfl]
   obtain ⟨hR, hM, hH, hF, hX⟩ := hC
   rw [hk] at hR
   refine (HC2.out u hR (Nat.le_trans HBW.out hM.size)).mono ?_
   rintro e u' ⟨rfl, h1, h2⟩
   refine ⟨_, rfl, ⟨?_, hM.then_ (h2.up fun b _ e => .inl e), fun h => ?_, fun h => ?_, fun h => ?_⟩, .inr fun d e => by cases e; rfl⟩
   ·rw [RF.upd_same]; exact h1
   ·rw [RF.upd_else _ _ (show (1 : Nat) ≠ 0 by decide)] at h ⊢; exact (hH h).but h2 hp3
   ·rw [RF.upd_else _ _ (show (1 : Nat) ≠ 0 by decide)] at h
    have := (hF h).1
    omega
   ·rw [RF.upd_same] at h; exact absurd h (by decide)
  ·intro s G u hC hk hw
   rw [show (execOp _ _).run Tryz.prog u = .ok (.enter 73 #[.pointer (some ⟨pb, 0, none⟩)]) u by kernel_rfl]
   obtain ⟨hR, hM, hH, hF, hX⟩ := hC
   rw [hk] at hR
   refine (HC3.out u hR (Nat.le_trans HBW.out hM.size)).mono ?_
   rintro e u' ⟨rfl, h1, h2⟩
   refine ⟨_, rfl, ⟨?_, hM.then_ (h2.up fun b _ e => .inl e), fun h => ?_, fun h => ?_, fun h => ?_⟩, .inr fun d e => by cases e; rfl⟩
   ·rw [RF.upd_same]; exact h1
   ·rw [RF.upd_else _ _ (show (1 : Nat) ≠ 0 by decide)] at h ⊢; exact (hH h).but h2 hp3
   ·rw [RF.upd_else _ _ (show (1 : Nat) ≠ 0 by decide)] at h
    have := (hF h).1
    omega
   ·rw [RF.upd_same] at h; exact absurd h (by decide)
  ·intro s G u hC hk hw
   rw [show (execOp _ _).run Tryz.prog u = .ok (.enter 73 #[.pointer (some ⟨pb, 0, none⟩)]) u by kernel_rfl]
   obtain ⟨hR, hM, hH, hF, hX⟩ := hC
   rw [hk] at hR
   refine (HC4.out u hR (Nat.le_trans HBW.out hM.size)).mono ?_
   rintro e u' ⟨rfl, h1, h2⟩
   refine ⟨_, rfl, ⟨?_, hM.then_ (h2.up fun b _ e => .inl e), fun h => ?_, fun h => ?_, fun h => ?_⟩, .inr fun d e => by cases e; rfl⟩
   ·rw [RF.upd_same]; exact h1
   ·rw [RF.upd_else _ _ (show (1 : Nat) ≠ 0 by decide)] at h ⊢; exact (hH h).but h2 hp3
   ·rw [RF.upd_else _ _ (show (1 : Nat) ≠ 0 by decide)] at h
    have := (hF h).1
    omega
   ·rw [RF.upd_same] at h; exact absurd h (by decide)
  ·intro s G u hC hk hw
   rw [show (execOp _ _).run Tryz.prog u = .ok (.enter 74 #[rdV pb]) u by kernel_rfl]
   obtain ⟨hR, hM, hH, hF, hX⟩ := hC
   rw [hk] at hR
   refine (HC5.out u hR (Nat.le_trans HBW.out hM.size)).mono ?_
   rintro e u' ⟨x, rfl, h0, h1, h2⟩
   refine ⟨_, rfl, ⟨?_, hM.then_ (h2.up fun b _ e => .inl e), fun h => ?_, fun h => ?_, fun h => ?_⟩, .inl rfl⟩
   ·rw [RF.upd_same]; exact h1
   ·rw [RF.upd_else _ _ (show (1 : Nat) ≠ 0 by decide)] at h ⊢; exact (hH h).but h2 hp3
   ·rw [RF.upd_else _ _ (show (1 : Nat) ≠ 0 by decide)] at h
    have := (hF h).1
    omega
   ·show ShAt W2 u' (RF.upd G 16 x 16) ⟨k, r, pp⟩
    rw [RF.upd_same]
    obtain ⟨ao, c, e1, e2, e3, e4⟩ := h0
    exact ⟨ao, c, e1, e2, fun b off q e => Nat.le_trans hM.size (e3 b off q e), e4⟩
  ·intro s G u hC hk hw
   obtain ⟨hR, hM, hH, hF, hX⟩ := hC
   have hH' := hH (by rw [hk]; decide)
   rw [hk] at hH'
   have lu := hH'.here
   have q4 : u.cell? ⟨g3, 4, none⟩ = some (.int .i64 0) := (hH'.at_ 4).trans (by rfl)
   have zz4 := hH'.free 4
   have q5 : u.cell? ⟨g3, 5, none⟩ = some (.int .i64 0) := (hH'.at_ 5).trans (by rfl)
   have zz5 := hH'.free 5
   rw [show (execOp _ _).run Tryz.prog u = .ok .skip ((u.setCell ⟨g3, 4, none⟩ (.int .i64 x)).setCell ⟨g3, 5, none⟩ (.int .i64 y)) by
    simp only [RF.AG, Act.put, List.setIfInBounds_toArray, List.set_cons_succ, List.set_cons_zero]
    go_simp]
   have kr : But (fun b => b = g3) u ((u.setCell ⟨g3, 4, none⟩ (.int .i64 x)).setCell ⟨g3, 5, none⟩ (.int .i64 y)) := (((But.rfl_ (fun b => b = g3) _).put (p := ⟨g3, 4, none⟩) (.inl rfl) _).put (p := ⟨g3, 5, none⟩) (.inl rfl) _)
   refine ⟨rfl, ⟨?_, ((hM.put (p := ⟨g3, 4, none⟩) (.inl (.inr rfl)) _).put (p := ⟨g3, 5, none⟩) (.inl (.inr rfl)) _), ?_, fun h => ?_, fun h => ?_⟩⟩
   ·rw [RF.upd_else _ _ (show (0 : Nat) ≠ 1 by decide)]
    exact hR.but kr (fun b e => by have : b = g3 := e; have := HB.out; have := HG1.out; have := HLT.out.1; omega)
   ·intro _; rw [RF.upd_same]
    exact ((hH'.put 4 _).put 5 _)
   ·rw [RF.upd_same] at h; exact absurd h (by decide)
   ·rw [RF.upd_else _ _ (show (0 : Nat) ≠ 1 by decide)] at h
    obtain ⟨ao, c, e1, e2, e3, e4⟩ := hX h
    exact ⟨ao, c, e1, Sl.but e2 kr (fun b off s e he => by have he : b = g3 := he; have := e3 b off s e; have := HH3.out.here; omega), e3, e4⟩
  ·intro s G u hC hk hw
   obtain ⟨hR, hM, hH, hF, hX⟩ := hC
   have hH' := hH (by rw [hk]; decide)
   rw [hk] at hH'
   have lu := hH'.here
   have q6 : u.cell? ⟨g3, 6, none⟩ = some (.int .i64 0) := (hH'.at_ 6).trans (by rfl)
   have zz6 := hH'.free 6
   have q7 : u.cell? ⟨g3, 7, none⟩ = some (.int .i64 0) := (hH'.at_ 7).trans (by rfl)
   have zz7 := hH'.free 7
   rw [show (execOp _ _).run Tryz.prog u = .ok .skip ((u.setCell ⟨g3, 6, none⟩ (.int .i64 vx)).setCell ⟨g3, 7, none⟩ (.int .i64 vy)) by
    simp only [RF.AG, Act.put, List.setIfInBounds_toArray, List.set_cons_succ, List.set_cons_zero]
    go_simp]
   have kr : But (fun b => b = g3) u ((u.setCell ⟨g3, 6, none⟩ (.int .i64 vx)).setCell ⟨g3, 7, none⟩ (.int .i64 vy)) := (((But.rfl_ (fun b => b = g3) _).put (p := ⟨g3, 6, none⟩) (.inl rfl) _).put (p := ⟨g3, 7, none⟩) (.inl rfl) _)
   refine ⟨rfl, ⟨?_, ((hM.put (p := ⟨g3, 6, none⟩) (.inl (.inr rfl)) _).put (p := ⟨g3, 7, none⟩) (.inl (.inr rfl)) _), ?_, fun h => ?_, fun h => ?_⟩⟩
   ·rw [RF.upd_else _ _ (show (0 : Nat) ≠ 1 by decide)]
    exact hR.but kr (fun b e => by have : b = g3 := e; have := HB.out; have := HG1.out; have := HLT.out.1; omega)
   ·intro _; rw [RF.upd_same]
    exact ((hH'.put 6 _).put 7 _)
   ·rw [RF.upd_same] at h; exact absurd h (by decide)
   ·rw [RF.upd_else _ _ (show (0 : Nat) ≠ 1 by decide)] at h
    obtain ⟨ao, c, e1, e2, e3, e4⟩ := hX h
    exact ⟨ao, c, e1, Sl.but e2 kr (fun b off s e he => by have he : b = g3 := he; have := e3 b off s e; have := HH3.out.here; omega), e3, e4⟩
  ·intro s G u hC hk hw
   obtain ⟨hR, hM, hH, hF, hX⟩ := hC
   have hH' := hH (by rw [hk]; decide)
   rw [hk] at hH'
   have lu := hH'.here
   have q8 : u.cell? ⟨g3, 8, none⟩ = some (.int .i64 0) := (hH'.at_ 8).trans (by rfl)
   have zz8 := hH'.free 8
   rw [show (execOp _ _).run Tryz.prog u = .ok .skip (u.setCell ⟨g3, 8, none⟩ (.int .i64 y2)) by
    simp only [RF.AG, Act.put, List.setIfInBounds_toArray, List.set_cons_succ, List.set_cons_zero]
    go_simp]
   have kr : But (fun b => b = g3) u (u.setCell ⟨g3, 8, none⟩ (.int .i64 y2)) := ((But.rfl_ (fun b => b = g3) _).put (p := ⟨g3, 8, none⟩) (.inl rfl) _)
   refine ⟨rfl, ⟨?_, (hM.put (p := ⟨g3, 8, none⟩) (.inl (.inr rfl)) _), ?_, fun h => ?_, fun h => ?_⟩⟩
   ·rw [RF.upd_else _ _ (show (0 : Nat) ≠ 1 by decide)]
    exact hR.but kr (fun b e => by have : b = g3 := e; have := HB.out; have := HG1.out; have := HLT.out.1; omega)
   ·intro _; rw [RF.upd_same]
    exact (hH'.put 8 _)
   ·rw [RF.upd_same] at h; exact absurd h (by decide)
   ·rw [RF.upd_else _ _ (show (0 : Nat) ≠ 1 by decide)] at h
    obtain ⟨ao, c, e1, e2, e3, e4⟩ := hX h
    exact ⟨ao, c, e1, Sl.but e2 kr (fun b off s e he => by have he : b = g3 := he; have := e3 b off s e; have := HH3.out.here; omega), e3, e4⟩
  ·intro s G u hC hk hw
   obtain ⟨hR, hM, hH, hF, hX⟩ := hC
   have hH' := hH (by rw [hk]; decide)
   rw [hk] at hH'
   have lu := hH'.here
   have q9 : u.cell? ⟨g3, 9, none⟩ = some (.int .i64 0) := (hH'.at_ 9).trans (by rfl)
   have zz9 := hH'.free 9
   rw [show (execOp _ _).run Tryz.prog u = .ok .skip (u.setCell ⟨g3, 9, none⟩ (.int .i64 y3)) by
    simp only [RF.AG, Act.put, List.setIfInBounds_toArray, List.set_cons_succ, List.set_cons_zero]
    go_simp]
   have kr : But (fun b => b = g3) u (u.setCell ⟨g3, 9, none⟩ (.int .i64 y3)) := ((But.rfl_ (fun b => b = g3) _).put (p := ⟨g3, 9, none⟩) (.inl rfl) _)
   refine ⟨rfl, ⟨?_, (hM.put (p := ⟨g3, 9, none⟩) (.inl (.inr rfl)) _), ?_, fun h => ?_, fun h => ?_⟩⟩
   ·rw [RF.upd_else _ _ (show (0 : Nat) ≠ 1 by decide)]
    exact hR.but kr (fun b e => by have : b = g3 := e; have := HB.out; have := HG1.out; have := HLT.out.1; omega)
   ·intro _; rw [RF.upd_same]
    exact (hH'.put 9 _)
   ·rw [RF.upd_same] at h; exact absurd h (by decide)
   ·rw [RF.upd_else _ _ (show (0 : Nat) ≠ 1 by decide)] at h
    obtain ⟨ao, c, e1, e2, e3, e4⟩ := hX h
    exact ⟨ao, c, e1, Sl.but e2 kr (fun b off s e he => by have he : b = g3 := he; have := e3 b off s e; have := HH3.out.here; omega), e3, e4⟩
  ·intro s G u hC hk hw
   obtain ⟨hR, hM, hH, hF, hX⟩ := hC
   have hH' := hH (by rw [hk]; decide)
   rw [hk] at hH'
   have lu := hH'.here
   have q10 : u.cell? ⟨g3, 10, none⟩ = some (.int .i64 0) := (hH'.at_ 10).trans (by rfl)
   have zz10 := hH'.free 10
   rw [show (execOp _ _).run Tryz.prog u = .ok .skip (u.setCell ⟨g3, 10, none⟩ (.int .i64 y4)) by
    simp only [RF.AG, Act.put, List.setIfInBounds_toArray, List.set_cons_succ, List.set_cons_zero]
    go_simp]
   have kr : But (fun b => b = g3) u (u.setCell ⟨g3, 10, none⟩ (.int .i64 y4)) := ((But.rfl_ (fun b => b = g3) _).put (p := ⟨g3, 10, none⟩) (.inl rfl) _)
   refine ⟨rfl, ⟨?_, (hM.put (p := ⟨g3, 10, none⟩) (.inl (.inr rfl)) _), ?_, fun h => ?_, fun h => ?_⟩⟩
   ·rw [RF.upd_else _ _ (show (0 : Nat) ≠ 1 by decide)]
    exact hR.but kr (fun b e => by have : b = g3 := e; have := HB.out; have := HG1.out; have := HLT.out.1; omega)
   ·intro _; rw [RF.upd_same]
    exact (hH'.put 10 _)
   ·rw [RF.upd_same] at h; exact absurd h (by decide)
   ·rw [RF.upd_else _ _ (show (0 : Nat) ≠ 1 by decide)] at h
    obtain ⟨ao, c, e1, e2, e3, e4⟩ := hX h
    exact ⟨ao, c, e1, Sl.but e2 kr (fun b off s e he => by have he : b = g3 := he; have := e3 b off s e; have := HH3.out.here; omega), e3, e4⟩
  ·intro s G u hC hk hw
   obtain ⟨hR, hM, hH, hF, hX⟩ := hC
   have h6 : 5 < s 0 := hw 0 5 16 rfl (by kernel_rfl)
   obtain ⟨ao, c, e7, e2, e3, e4⟩ := hX h6
   have hH' := hH (by rw [hk]; decide)
   rw [hk] at hH'
   have lu := hH'.here
   have q12 : u.cell? ⟨g3, 12, none⟩ = some (.int .i64 0) := (hH'.at_ 12).trans (by rfl)
   have zz12 := hH'.free 12
   have q13 : u.cell? ⟨g3, 13, none⟩ = some (.int .i64 0) := (hH'.at_ 13).trans (by rfl)
   have zz13 := hH'.free 13
   have q14 : u.cell? ⟨g3, 14, none⟩ = some (.slice none 0 0) := (hH'.at_ 14).trans (by rfl)
   have zz14 := hH'.free 14
   have e7 : G 16 = .agg #[.int .i64 k, .int .i64 r, .slice ao pp.length c] := e7
   rw [show (execOp _ _).run Tryz.prog u = .ok .skip (((u.setCell ⟨g3, 12, none⟩ (.int .i64 k)).setCell ⟨g3, 13, none⟩ (.int .i64 r)).setCell ⟨g3, 14, none⟩ (.slice ao pp.length c)) by
    simp only [RF.AG, Act.put, List.setIfInBounds_toArray, List.set_cons_succ, List.set_cons_zero]
    rw [e7]
    go_simp]
   have kr : But (fun b => b = g3) u (((u.setCell ⟨g3, 12, none⟩ (.int .i64 k)).setCell ⟨g3, 13, none⟩ (.int .i64 r)).setCell ⟨g3, 14, none⟩ (.slice ao pp.length c)) := (((But.rfl_ (fun b => b = g3) _).put (p := ⟨g3, 12, none⟩) (.inl rfl) _).put (p := ⟨g3, 13, none⟩) (.inl rfl) _).put (p := ⟨g3, 14, none⟩) (.inl rfl) _
   refine ⟨rfl, ⟨?_, hM.then_ (kr.up fun b _ e => .inr e), fun h => ?_, fun h => ?_, fun h => ?_⟩⟩
   ·rw [RF.upd_else _ _ (show (0 : Nat) ≠ 1 by decide)]
    exact hR.but kr (fun b e => by have : b = g3 := e; have := HB.out; have := HG1.out; have := HLT.out.1; omega)
   ·rw [RF.upd_same] at h; exact absurd h (by decide)
   ·rw [RF.upd_else _ _ (show (0 : Nat) ≠ 1 by decide)]
    exact ⟨h6, ao, c, e7, ((hH'.put 12 _).put 13 _).put 14 _⟩
   ·exact ⟨ao, c, e7, Sl.but e2 kr (fun b off s e he => by have he : b = g3 := he; have := e3 b off s e; have := HH3.out.here; omega), e3, e4⟩
 case qc =>
  intro G u hu
  obtain ⟨hR, hM, _, hF, hX⟩ := hu
  have HR3 : Hid (Rd u pb B s7) := hR
  obtain ⟨_, ao, c, e7, hH⟩ := hF (Nat.le_refl _)
  obtain ⟨ao2, c2, e8, e2, e3, e4⟩ := hX (Nat.le_refl _)
  rw [e7] at e8
  have e8' : ao = ao2 ∧ c = c2 := by simpa using e8
  obtain ⟨rfl, rfl⟩ := e8'
  obtain ⟨q, eq⟩ : ∃ q, pp.length = q := ⟨_, rfl⟩
  rw [eq] at hH
  have EQ := hid eq
  simp only [List.setIfInBounds_toArray, List.set_cons_succ, List.set_cons_zero] at hH
  have HHs : Hid (Has u g3 49 #[.int .i64 1, .int .i64 0, .int .i64 0, .int .i64 0, .int .i64 x, .int .i64 y, .int .i64 vx, .int .i64 vy, .int .i64 y2, .int .i64 y3, .int .i64 y4, .int .i64 0, .int .i64 k, .int .i64 r, .slice ao q c]) := hH
  have HSh : Hid (Sl u ao q (gP pp)) := by unfold Hid; rw [← eq]; exact e2
  have HLow : Hid (∀ b off z, ao = some ⟨b, off, z⟩ → W2.heap.size ≤ b) := e3
  have HAny : Hid ((ao = none ∧ q = 0 ∧ c = 0) ∨ ∃ a, ao = some a) := by unfold Hid; rw [← eq]; exact e4
  have HD : Hid (dO s = ((⟨1, 0, 0, 0, x, y, vx, vy, y2, y3, y4, 0, k, r, none, q, 0, gP pp⟩ : Or), s7)) := by
   unfold Hid dO
   rw [EK.out, ES1.out, if_pos rfl]
   unfold dO1
   simp only []
   rw [EY0.out, EZ0.out, EY1.out, EZ1.out, EY2.out, EZ2.out, EY3.out, EZ3.out, EY4.out, EZ4.out, EY5.out, EZ5.out, EQ.out]
  clear e2 e3 e4 e8 e7 eq hF hX
  have HHr : Hid (Has u g2 49 #[.int .i64 0, .int .i64 0, .int .i64 0, .int .i64 0, .int .i64 0, .int .i64 0, .int .i64 0, .int .i64 0, .int .i64 0, .int .i64 0, .int .i64 0, .int .i64 0, .int .i64 0, .int .i64 0, .slice none 0 0]) := HH2.out.but hM (fun e => by have := HLT.out.2; have e : g2 = pb ∨ g2 = g3 := e; rcases e with e | e <;> omega)
  have K4 : Hid (But (fun b => b = pb) w u) := KC.out.then_' hM (fun b e => by have e : b = pb ∨ b = g3 := e; rcases e with e | e; exact .inl e; exact .inr (by have := HG1.out; have := HLT.out.1; omega))
  simp only [RF.AG, Act.put, List.setIfInBounds_toArray, List.set_cons_succ, List.set_cons_zero]
  clear hR hM hH p0 d0
  go_wp2_with (first
   | refine wpList_load_row rfl 49 (.tmp 3) rfl g3 rfl 49 _ (0, 0) _ HHs.out Tryz.underlying49 rfl (by kernel_rfl) ?_
   | refine wpList_store_row rfl 49 (.tmp 2) (.tmp 84) rfl g2 #[.int .i64 1, .int .i64 0, .int .i64 0, .int .i64 0, .int .i64 x, .int .i64 y, .int .i64 vx, .int .i64 vy, .int .i64 y2, .int .i64 y3, .int .i64 y4, .int .i64 0, .int .i64 k, .int .i64 r, .slice ao q c] rfl rfl 49 _ HHr.out (by kernel_rfl) rfl (by simp [Value.oneCell']) ?_)
  have hr := setRow_heap u g2 #[.int .i64 0, .int .i64 0, .int .i64 0, .int .i64 0, .int .i64 0, .int .i64 0, .int .i64 0, .int .i64 0, .int .i64 0, .int .i64 0, .int .i64 0, .int .i64 0, .int .i64 0, .int .i64 0, .slice none 0 0] #[.int .i64 1, .int .i64 0, .int .i64 0, .int .i64 0, .int .i64 x, .int .i64 y, .int .i64 vx, .int .i64 vy, .int .i64 y2, .int .i64 y3, .int .i64 y4, .int .i64 0, .int .i64 k, .int .i64 r, .slice ao q c] 49 (0, 0) HHr.out
  have kk : But (fun b => b = g2) u (u.setRow g2 #[.int .i64 1, .int .i64 0, .int .i64 0, .int .i64 0, .int .i64 x, .int .i64 y, .int .i64 vx, .int .i64 vy, .int .i64 y2, .int .i64 y3, .int .i64 y4, .int .i64 0, .int .i64 k, .int .i64 r, .slice ao q c]) := But.row _ _ _
  refine bodyPost_ret (v := .agg #[.int .i64 1, .int .i64 0, .int .i64 0, .int .i64 0, .int .i64 x, .int .i64 y, .int .i64 vx, .int .i64 vy, .int .i64 y2, .int .i64 y3, .int .i64 y4, .int .i64 0, .int .i64 k, .int .i64 r, .slice ao q c]) (results_cell_row (p := 2) (ty := 49) rfl _ _ g2 49 _ (0, 0) _ rfl hr Tryz.underlying49 rfl (by kernel_rfl)) rfl ⟨_, rfl, ?_, ?_, ?_⟩
  ·rw [HD.out]
   exact ⟨ao, c, rfl, Sl.but HSh.out kk (fun b off z e he => by have he : b = g2 := he; have := HLow.out b off z e; have := HH2.out.here; omega), fun b off z e => by have := HLow.out b off z e; have := KC.out.size; omega, HAny.out⟩
  ·rw [HD.out]
   exact HR3.out.but kk (fun b e => by have : b = g2 := e; have := HB.out; have := HG1.out; have := HG2.out; omega)
  ·exact K4.out.then_' kk (fun b e => .inr (by have : b = g2 := e; have := HG1.out; have := HG2.out; omega))
end Go.Proofs.YtgdcphmmehedoaaGreat.Fx