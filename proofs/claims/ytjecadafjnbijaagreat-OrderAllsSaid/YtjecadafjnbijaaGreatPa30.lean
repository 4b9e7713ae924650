/- OtH OtK -/
import Derived.Test.YtjecadafjnbijaaGreatPa29
set_option maxRecDepth 100000
set_option maxHeartbeats 64000000
/- order.All and order.Check of any batch. -/
namespace Go.Proofs.YtjecadafjnbijaaGreat.Fx
open Go.ChangeShapes Go.WideShapes Go.ChangeAt Go.RowKit
set_option linter.unusedVariables false
theorem copy_wls {X1 : Nat → Prop} {w v : World} {ob oj oc ob' oj' oc' : Option Addr} {cb cj cc cb' cj' cc' nB nJ nC : Nat} {B B' : List Bd} {J : List Jt} {C : List Ct} (hL : WLs X1 w ob cb B oj cj J oc cc C) (hl : B'.length = nB) (hB : B.length = nB) (hs : ∀ (i : Nat) b b', B[i]? = some b → B'[i]? = some b' → SameB b b') (h1 : NewL encB 11 35 w v ob' nB cb' B') (h2 : NewL encJ 8 68 w v oj' nJ cj' J) (h3 : NewL encC 5 71 w v oc' nC cc' C) {X : Nat → Prop} (hM : ∀ b ∈ B', Mine X w.heap.size v b) :
  WLs (fun b => b < w.heap.size) v ob' cb' B' oj' cj' J oc' cc' C ∧ EqBs B B' := by
 have hS : SameBs B B' := ⟨hl.trans hB.symm, hs⟩
 refine ⟨⟨⟨h1.ls, h2.ls, h3.ls, fun b hb => ⟨(hM b hb).1, ?_⟩, hL.at_.iJ, hL.at_.iC⟩, h1.slOk, h2.slOk, h3.slOk, fun _ b off s e hb => by have := h1.fresh b off s e; have hb : b < w.heap.size := hb; omega, fun _ b off s e hb => by have := h2.fresh b off s e; have hb : b < w.heap.size := hb; omega, fun _ b off s e hb => by have := h3.fresh b off s e; have hb : b < w.heap.size := hb; omega, fun b hb hn b' off s e hx => ?_, fun b hb => ?_⟩, SameBs.eq hS⟩
 ·obtain ⟨b0, hb0, s⟩ := same_in hS hb
  have hi := (hL.at_.sB b0 hb0).2
  obtain ⟨s0, s1, s2, s3, s4, s5, s6, s7, s8, s9, s10, s11⟩ := s
  exact ⟨by rw [s0]; exact hi.id, by rw [s1]; exact hi.x, by rw [s2]; exact hi.y, by rw [s3]; exact hi.vx, by rw [s4]; exact hi.vy, by rw [s5]; exact hi.an, by rw [s6]; exact hi.sp, by rw [s7]; exact hi.de, by rw [s8]; exact hi.k, by rw [s9]; exact hi.r, by rw [s10, s11]; exact hi.f⟩
 ·have hx : b' < w.heap.size := hx
  rcases (hM b hb).2 with ⟨_, h, _⟩ | ⟨g, e', h, _⟩
  ·omega
  ·rw [e'] at e
   cases e
   omega
 ·rcases (hM b hb).2 with h | ⟨g, e, _⟩
  ·exact .inl h
  ·exact .inr ⟨_, e⟩
theorem oall_c {l : List Or} {ao : Option Addr} {n c nB nJ nC : Nat} {w : World} (tk gx gy nb nj : Int) (B : List Bd) (J : List Jt) (C : List Ct) (ob oj oc : Option Addr) (cb cj cc : Nat) (hn : l.length = n) (hnb : n ≤ 1073741824) (hl : OrsAt w ao l) (hok : ∀ o ∈ l, (o.ao = none ∧ o.n = 0 ∧ o.c = 0) ∨ ∃ a, o.ao = some a)
  (hL : WLs Nil0 w ob cb B oj cj J oc cc C) (hnB : B.length = nB) (hnJ : J.length = nJ) (hnC : C.length = nC) (hG : GOk ⟨tk, gx, gy, ⟨nb, nj, B, J, C⟩⟩) (hC : nC ≤ 1073741824) :
  Calls Tryz.prog 10 #[wdV tk nb nj gx gy (.slice ob nB cb) (.slice oj nJ cj) (.slice oc nC cc), .slice ao n c] w fun e v => ∃ er G', AfterP l ⟨tk, gx, gy, ⟨nb, nj, B, J, C⟩⟩ er G' ∧ Below w.heap.size w v ∧
   ((er ≠ 0 ∧ ∃ ob' oj' oc' cb' cj' cc', e = .returned (.tuple #[wdV 0 0 0 0 0 (.slice ob' 0 cb') (.slice oj' 0 cj') (.slice oc' 0 cc'), .int .i64 er])) ∨
    (er = 0 ∧ GOk G' ∧ G'.P.C.length ≤ nC ∧ ∃ B' ob' oj' oc' cb' cj' cc', EqBs G'.P.B B' ∧ e = .returned (.tuple #[wdV G'.tk G'.P.nb G'.P.nj G'.gx G'.gy (.slice ob' B'.length cb') (.slice oj' G'.P.J.length cj') (.slice oc' G'.P.C.length cc'), .int .i64 0]) ∧ WLs (fun b => b < w.heap.size) v ob' cb' B' oj' cj' G'.P.J oc' cc' G'.P.C)) := by
 obtain ⟨W, eW⟩ : ∃ W, W = (w.alloc (.cells #[.int .i64 tk, .int .i64 nb, .int .i64 nj, .int .i64 gx, .int .i64 gy, .slice ob nB cb, .slice oj nJ cj, .slice oc nC cc] 42)).alloc (.cells #[.int .i64 0, .int .i64 0, .int .i64 0, .int .i64 0, .int .i64 0, .slice none 0 0, .slice none 0 0, .slice none 0 0] 42) := ⟨_, rfl⟩
 have KW : Hid (Made w.heap.size w W) := by unfold Hid; rw [eW]; exact ((Made.rfl_ _ _).cells (Nat.le_refl _) _ _).cells (by simp) _ _
 have HB : Hid (Has W w.heap.size 42 #[.int .i64 tk, .int .i64 nb, .int .i64 nj, .int .i64 gx, .int .i64 gy, .slice ob nB cb, .slice oj nJ cj, .slice oc nC cc]) := by unfold Hid; rw [eW]; exact (has_new _ _ _).more _
 have HR : Hid (Has W (w.heap.size + 1) 42 #[.int .i64 0, .int .i64 0, .int .i64 0, .int .i64 0, .int .i64 0, .slice none 0 0, .slice none 0 0, .slice none 0 0]) := by unfold Hid; rw [eW]; exact has_nxt' _ _ _ _
 obtain ⟨gw, egw⟩ : ∃ g, w.heap.size = g := ⟨_, rfl⟩
 obtain ⟨gr, egr⟩ : ∃ g, gw + 1 = g := ⟨_, rfl⟩
 have hw2 : w.heap.size ≤ gr := by omega
 have hne : ¬ gr = gw := by omega
 rw [egw, egr] at HR
 have hw1 : w.heap.size ≤ gw := Nat.le_of_eq egw
 rw [egw] at HB
 have b0 := HB.out.at_ 0
 have b1 := HB.out.at_ 1
 have b2 := HB.out.at_ 2
 have b3 := HB.out.at_ 3
 have b4 := HB.out.at_ 4
 have b5 := HB.out.at_ 5
 have b6 := HB.out.at_ 6
 have b7 := HB.out.at_ 7
 simp at b0 b1 b2 b3 b4 b5 b6 b7
 have l1 : gw < W.heap.size := HB.out.here
 have HA := hid (after_c (X0 := (fun b => b = gw ∨ b = gr)) (w := W) (c := c) tk gx gy nb nj B J C ob oj oc cb cj cc hn hnb (hl.kept KW.out) hok (fun b hb => by have hb : b = gw ∨ b = gr := hb; have h2 := HR.out.here; omega) ((hL.free (Y := (fun b => b = gw ∨ b = gr)) (fun b hb => .inr (by have hb : b = gw ∨ b = gr := hb; omega))).kept KW.out) hnB hnJ hnC hG hC)
 clear hL hl hok hG hn
 go_enter Tryz.func10, Tryz.ntmps10
 go_upto_region 1 with fail
 rw [← eW]
 clear eW
 try rw [egw]
 try rw [egr]
 clear egw egr
 go_wp2_with fail
 refine HA.out.mono ?_
 rintro e w1 ⟨er, G', haf, hbl0, hres⟩
 have HAf := hid haf
 have hbl : Below W.heap.size W w1 := hbl0
 clear haf hbl0 b0 b1 b2 b3 b4 b5 b6 b7 l1 HA
 rcases hres with ⟨h0, rfl⟩ | ⟨h0, hok', hcl, ob1, oj1, oc1, cb1, cj1, cc1, he, hls⟩
 ·have H0 := hid h0
  clear h0
  have HB1 := hid (HB.out.kept hbl HB.out.here)
  have HR1 := hid (HR.out.kept hbl HR.out.here)
  have HK1 : Hid (Below w.heap.size w w1) := KW.out.1.trans (hbl.mono KW.out.1.size)
  clear hbl HB HR KW
  have b0 := HB1.out.at_ 0
  have b1 := HB1.out.at_ 1
  have b2 := HB1.out.at_ 2
  have b3 := HB1.out.at_ 3
  have b4 := HB1.out.at_ 4
  have b5 := HB1.out.at_ 5
  have b6 := HB1.out.at_ 6
  have b7 := HB1.out.at_ 7
  simp at b0 b1 b2 b3 b4 b5 b6 b7
  have l1 : gw < w1.heap.size := HB1.out.here
  have f1 : ∀ i, w1.frozen? ⟨gw, i, none⟩ = false := HB1.out.free
  obtain ⟨V, eV⟩ : ∃ V, V = ((((((((w1).setCell ⟨gw, 0, none⟩ (.int .i64 0)).setCell ⟨gw, 1, none⟩ (.int .i64 0)).setCell ⟨gw, 2, none⟩ (.int .i64 0)).setCell ⟨gw, 3, none⟩ (.int .i64 0)).setCell ⟨gw, 4, none⟩ (.int .i64 0)).setCell ⟨gw, 5, none⟩ (.slice none 0 0)).setCell ⟨gw, 6, none⟩ (.slice none 0 0)).setCell ⟨gw, 7, none⟩ (.slice none 0 0) := ⟨_, rfl⟩
  have kU : BuB (fun b => b = gw) w1 V := by rw [eV]; exact (But.put8 (But.rfl_ (fun b => b = gw) w1) (g := gw) (.inl rfl) (.int .i64 0) (.int .i64 0) (.int .i64 0) (.int .i64 0) (.int .i64 0) (.slice none 0 0) (.slice none 0 0) (.slice none 0 0)).bub
  have HB2 : Hid (Has V gw 42 #[.int .i64 0, .int .i64 0, .int .i64 0, .int .i64 0, .int .i64 0, .slice none 0 0, .slice none 0 0, .slice none 0 0]) := by unfold Hid; rw [eV]; exact Has.put8 HB1.out (.int .i64 0) (.int .i64 0) (.int .i64 0) (.int .i64 0) (.int .i64 0) (.slice none 0 0) (.slice none 0 0) (.slice none 0 0)
  have HR2 := hid (HR1.out.bub kU hne)
  have HK2 : Hid (Below w.heap.size w V) := BuB.below_ HK1.out kU HK1.out.size (fun b hb => by have hb : b = gw := hb; omega)
  have HEV := hid eV
  have HGR := hid HR2.out.here
  have HCp := hid (wcopy_c 0 0 0 0 0 none none none 0 0 0 0 0 0 (B := []) (J := []) (C := []) (w := V) (ls_new Nil0 V) rfl rfl rfl (by omega) (by omega) (by omega) (fun b hb => by simp at hb))
  clear eV kU
  go_upto_region 2 with fail
  rw [← HEV.out]
  clear b0 b1 b2 b3 b4 b5 b6 b7 l1 f1 HB1 HR1 HEV HK1
  have b0 := HB2.out.at_ 0
  have b1 := HB2.out.at_ 1
  have b2 := HB2.out.at_ 2
  have b3 := HB2.out.at_ 3
  have b4 := HB2.out.at_ 4
  have b5 := HB2.out.at_ 5
  have b6 := HB2.out.at_ 6
  have b7 := HB2.out.at_ 7
  simp at b0 b1 b2 b3 b4 b5 b6 b7
  have l1 : gw < V.heap.size := HB2.out.here
  go_wp2_with fail
  refine HCp.out.mono ?_
  rintro e w3 ⟨B', ob', oj', oc', cb', cj', cc', rfl, k3, hcp⟩
  have HCp2 := hid hcp
  have K3 : Hid (Below w.heap.size w w3) := HK2.out.trans (k3.1.mono HK2.out.size)
  have HR3 := hid (HR2.out.stays k3 HR2.out.here)
  clear k3 hcp b0 b1 b2 b3 b4 b5 b6 b7 l1 HCp HB2 HR2
  have r0 := HR3.out.at_ 0
  have r1 := HR3.out.at_ 1
  have r2 := HR3.out.at_ 2
  have r3 := HR3.out.at_ 3
  have r4 := HR3.out.at_ 4
  have r5 := HR3.out.at_ 5
  have r6 := HR3.out.at_ 6
  have r7 := HR3.out.at_ 7
  simp at r0 r1 r2 r3 r4 r5 r6 r7
  have l2 : gr < w3.heap.size := HR3.out.here
  have f2 : ∀ i, w3.frozen? ⟨gr, i, none⟩ = false := HR3.out.free
  go_wp2_with fail
  obtain ⟨V2, eV2⟩ : ∃ V, V = ((((((((w3).setCell ⟨gr, 0, none⟩ (.int .i64 0)).setCell ⟨gr, 1, none⟩ (.int .i64 0)).setCell ⟨gr, 2, none⟩ (.int .i64 0)).setCell ⟨gr, 3, none⟩ (.int .i64 0)).setCell ⟨gr, 4, none⟩ (.int .i64 0)).setCell ⟨gr, 5, none⟩ (.slice ob' 0 cb')).setCell ⟨gr, 6, none⟩ (.slice oj' 0 cj')).setCell ⟨gr, 7, none⟩ (.slice oc' 0 cc') := ⟨_, rfl⟩
  have hV2 : Has V2 gr 42 #[.int .i64 0, .int .i64 0, .int .i64 0, .int .i64 0, .int .i64 0, .slice ob' 0 cb', .slice oj' 0 cj', .slice oc' 0 cc'] := by rw [eV2]; exact Has.put8 HR3.out (.int .i64 0) (.int .i64 0) (.int .i64 0) (.int .i64 0) (.int .i64 0) (.slice ob' 0 cb') (.slice oj' 0 cj') (.slice oc' 0 cc')
  have kU2 : BuB (fun b => b = gr) w3 V2 := by rw [eV2]; exact (But.put8 (But.rfl_ (fun b => b = gr) w3) (g := gr) (.inl rfl) (.int .i64 0) (.int .i64 0) (.int .i64 0) (.int .i64 0) (.int .i64 0) (.slice ob' 0 cb') (.slice oj' 0 cj') (.slice oc' 0 cc')).bub
  have kV2 : Below w.heap.size w V2 := BuB.below_ K3.out kU2 K3.out.size (fun b hb => by have hb : b = gr := hb; omega)
  try rw [← eV2]
  clear eV2
  have q0 := hV2.at_ 0
  have q1 := hV2.at_ 1
  have q2 := hV2.at_ 2
  have q3 := hV2.at_ 3
  have q4 := hV2.at_ 4
  have q5 := hV2.at_ 5
  have q6 := hV2.at_ 6
  have q7 := hV2.at_ 7
  simp at q0 q1 q2 q3 q4 q5 q6 q7
  refine bodyPost_ret (v := .tuple #[.agg #[.int .i64 0, .int .i64 0, .int .i64 0, .int .i64 0, .int .i64 0, .slice ob' 0 cb', .slice oj' 0 cj', .slice oc' 0 cc'], .int .i64 er]) (by simp [results, Tryz.results10, go_sem, q0, q1, q2, q3, q4, q5, q6, q7]) rfl ?_
  exact ⟨er, G', HAf.out, kV2, .inl ⟨H0.out, ob', oj', oc', cb', cj', cc', rfl⟩⟩
 ·subst h0
  have HGk := hid hok'
  have HCl := hid hcl
  have HL1 := hid hls
  clear hok' hcl hls
  obtain ⟨xtk, extk⟩ : ∃ z, G'.tk = z := ⟨_, rfl⟩
  obtain ⟨xnb, exnb⟩ : ∃ z, G'.P.nb = z := ⟨_, rfl⟩
  obtain ⟨xnj, exnj⟩ : ∃ z, G'.P.nj = z := ⟨_, rfl⟩
  obtain ⟨xgx, exgx⟩ : ∃ z, G'.gx = z := ⟨_, rfl⟩
  obtain ⟨xgy, exgy⟩ : ∃ z, G'.gy = z := ⟨_, rfl⟩
  obtain ⟨lb, elb⟩ : ∃ z, G'.P.B.length = z := ⟨_, rfl⟩
  obtain ⟨lj, elj⟩ : ∃ z, G'.P.J.length = z := ⟨_, rfl⟩
  obtain ⟨lc, elc⟩ : ∃ z, G'.P.C.length = z := ⟨_, rfl⟩
  rw [extk, exnb, exnj, exgx, exgy, elb, elj, elc] at he
  subst he
  have HEq := hid (And.intro extk (And.intro exnb (And.intro exnj (And.intro exgx (And.intro exgy (And.intro elb (And.intro elj elc)))))))
  clear extk exnb exnj exgx exgy elb elj elc
  have HB1 := hid (HB.out.kept hbl HB.out.here)
  have HR1 := hid (HR.out.kept hbl HR.out.here)
  have HK1 : Hid (Below w.heap.size w w1) := KW.out.1.trans (hbl.mono KW.out.1.size)
  clear hbl HB HR KW
  have b0 := HB1.out.at_ 0
  have b1 := HB1.out.at_ 1
  have b2 := HB1.out.at_ 2
  have b3 := HB1.out.at_ 3
  have b4 := HB1.out.at_ 4
  have b5 := HB1.out.at_ 5
  have b6 := HB1.out.at_ 6
  have b7 := HB1.out.at_ 7
  simp at b0 b1 b2 b3 b4 b5 b6 b7
  have l1 : gw < w1.heap.size := HB1.out.here
  have f1 : ∀ i, w1.frozen? ⟨gw, i, none⟩ = false := HB1.out.free
  obtain ⟨V, eV⟩ : ∃ V, V = ((((((((w1).setCell ⟨gw, 0, none⟩ (.int .i64 xtk)).setCell ⟨gw, 1, none⟩ (.int .i64 xnb)).setCell ⟨gw, 2, none⟩ (.int .i64 xnj)).setCell ⟨gw, 3, none⟩ (.int .i64 xgx)).setCell ⟨gw, 4, none⟩ (.int .i64 xgy)).setCell ⟨gw, 5, none⟩ (.slice ob1 lb cb1)).setCell ⟨gw, 6, none⟩ (.slice oj1 lj cj1)).setCell ⟨gw, 7, none⟩ (.slice oc1 lc cc1) := ⟨_, rfl⟩
  have kU : BuB (fun b => b = gw) w1 V := by rw [eV]; exact (But.put8 (But.rfl_ (fun b => b = gw) w1) (g := gw) (.inl rfl) (.int .i64 xtk) (.int .i64 xnb) (.int .i64 xnj) (.int .i64 xgx) (.int .i64 xgy) (.slice ob1 lb cb1) (.slice oj1 lj cj1) (.slice oc1 lc cc1)).bub
  have HB2 : Hid (Has V gw 42 #[.int .i64 xtk, .int .i64 xnb, .int .i64 xnj, .int .i64 xgx, .int .i64 xgy, .slice ob1 lb cb1, .slice oj1 lj cj1, .slice oc1 lc cc1]) := by unfold Hid; rw [eV]; exact Has.put8 HB1.out (.int .i64 xtk) (.int .i64 xnb) (.int .i64 xnj) (.int .i64 xgx) (.int .i64 xgy) (.slice ob1 lb cb1) (.slice oj1 lj cj1) (.slice oc1 lc cc1)
  have HR2 := hid (HR1.out.bub kU hne)
  have HK2 : Hid (Below w.heap.size w V) := BuB.below_ HK1.out kU HK1.out.size (fun b hb => by have hb : b = gw := hb; omega)
  have HEV := hid eV
  have HGR := hid HR2.out.here
  have HL2 : Hid (WLs (fun b => b = gw ∨ b = gr) V ob1 cb1 G'.P.B oj1 cj1 G'.P.J oc1 cc1 G'.P.C) := HL1.out.bub kU (fun b hb => .inl hb)
  have hcb : lb ≤ 1024 := by rw [← HEq.out.2.2.2.2.2.1]; exact HGk.out.hB.len
  have hcj : lj ≤ 1024 := by rw [← HEq.out.2.2.2.2.2.2.1]; exact HGk.out.hJ.len
  have hcc : lc ≤ nC := by rw [← HEq.out.2.2.2.2.2.2.2]; exact HCl.out
  have HCp := hid (wcopy_c xtk xnb xnj xgx xgy ob1 oj1 oc1 lb cb1 lj cj1 lc cc1 (w := V) HL2.out HEq.out.2.2.2.2.2.1 HEq.out.2.2.2.2.2.2.1 HEq.out.2.2.2.2.2.2.2 (by omega) (by omega) (by omega) (fun b hb => right_n (HGk.out.hB.all b hb).shape))
  clear eV kU
  go_upto_region 2 with fail
  rw [← HEV.out]
  clear b0 b1 b2 b3 b4 b5 b6 b7 l1 f1 HB1 HR1 HEV HK1
  have b0 := HB2.out.at_ 0
  have b1 := HB2.out.at_ 1
  have b2 := HB2.out.at_ 2
  have b3 := HB2.out.at_ 3
  have b4 := HB2.out.at_ 4
  have b5 := HB2.out.at_ 5
  have b6 := HB2.out.at_ 6
  have b7 := HB2.out.at_ 7
  simp at b0 b1 b2 b3 b4 b5 b6 b7
  have l1 : gw < V.heap.size := HB2.out.here
  go_wp2_with fail
  refine HCp.out.mono ?_
  rintro e w3 ⟨B', ob', oj', oc', cb', cj', cc', rfl, k3, hcp⟩
  have HCp2 := hid hcp
  have K3 : Hid (Below w.heap.size w w3) := HK2.out.trans (k3.1.mono HK2.out.size)
  have HR3 := hid (HR2.out.stays k3 HR2.out.here)
  clear k3 hcp b0 b1 b2 b3 b4 b5 b6 b7 l1 HCp HB2 HR2
  have r0 := HR3.out.at_ 0
  have r1 := HR3.out.at_ 1
  have r2 := HR3.out.at_ 2
  have r3 := HR3.out.at_ 3
  have r4 := HR3.out.at_ 4
  have r5 := HR3.out.at_ 5
  have r6 := HR3.out.at_ 6
  have r7 := HR3.out.at_ 7
  simp at r0 r1 r2 r3 r4 r5 r6 r7
  have l2 : gr < w3.heap.size := HR3.out.here
  have f2 : ∀ i, w3.frozen? ⟨gr, i, none⟩ = false := HR3.out.free
  go_wp2_with fail
  obtain ⟨V2, eV2⟩ : ∃ V, V = ((((((((w3).setCell ⟨gr, 0, none⟩ (.int .i64 xtk)).setCell ⟨gr, 1, none⟩ (.int .i64 xnb)).setCell ⟨gr, 2, none⟩ (.int .i64 xnj)).setCell ⟨gr, 3, none⟩ (.int .i64 xgx)).setCell ⟨gr, 4, none⟩ (.int .i64 xgy)).setCell ⟨gr, 5, none⟩ (.slice ob' lb cb')).setCell ⟨gr, 6, none⟩ (.slice oj' lj cj')).setCell ⟨gr, 7, none⟩ (.slice oc' lc cc') := ⟨_, rfl⟩
  have hV2 : Has V2 gr 42 #[.int .i64 xtk, .int .i64 xnb, .int .i64 xnj, .int .i64 xgx, .int .i64 xgy, .slice ob' lb cb', .slice oj' lj cj', .slice oc' lc cc'] := by rw [eV2]; exact Has.put8 HR3.out (.int .i64 xtk) (.int .i64 xnb) (.int .i64 xnj) (.int .i64 xgx) (.int .i64 xgy) (.slice ob' lb cb') (.slice oj' lj cj') (.slice oc' lc cc')
  have kU2 : BuB (fun b => b = gr) w3 V2 := by rw [eV2]; exact (But.put8 (But.rfl_ (fun b => b = gr) w3) (g := gr) (.inl rfl) (.int .i64 xtk) (.int .i64 xnb) (.int .i64 xnj) (.int .i64 xgx) (.int .i64 xgy) (.slice ob' lb cb') (.slice oj' lj cj') (.slice oc' lc cc')).bub
  have kV2 : Below w.heap.size w V2 := BuB.below_ K3.out kU2 K3.out.size (fun b hb => by have hb : b = gr := hb; omega)
  try rw [← eV2]
  clear eV2
  have q0 := hV2.at_ 0
  have q1 := hV2.at_ 1
  have q2 := hV2.at_ 2
  have q3 := hV2.at_ 3
  have q4 := hV2.at_ 4
  have q5 := hV2.at_ 5
  have q6 := hV2.at_ 6
  have q7 := hV2.at_ 7
  simp at q0 q1 q2 q3 q4 q5 q6 q7
  refine bodyPost_ret (v := .tuple #[.agg #[.int .i64 xtk, .int .i64 xnb, .int .i64 xnj, .int .i64 xgx, .int .i64 xgy, .slice ob' lb cb', .slice oj' lj cj', .slice oc' lc cc'], .int .i64 0]) (by simp [results, Tryz.results10, go_sem, q0, q1, q2, q3, q4, q5, q6, q7]) rfl ?_
  obtain ⟨h1, h2, h3, h4, h5, h6, h7⟩ := HCp2.out
  obtain ⟨e1, e2, e3, e4, e5, e6, e7, e8⟩ := HEq.out
  obtain ⟨hw, heq⟩ := copy_wls HL2.out h1 e6 h2 h3 h4 h5 h7
  refine ⟨0, G', HAf.out, kV2, .inr ⟨rfl, HGk.out, HCl.out, B', ob', oj', oc', cb', cj', cc', heq, ?_, (hw.bub kU2 (fun b hb => by have hb : b = gr := hb; have h := HGR.out; show b < V.heap.size; omega)).free (Y := fun b => b < w.heap.size) (fun b hb => .inl (Nat.lt_of_lt_of_le hb HK2.out.size))⟩⟩
  rw [e1, e2, e3, e4, e5, e7, e8, h1]
theorem ocheck_c {l : List Or} {ao : Option Addr} {n c nB nJ nC : Nat} {w : World} (tk gx gy nb nj : Int) (B : List Bd) (J : List Jt) (C : List Ct) (ob oj oc : Option Addr) (cb cj cc : Nat) (hn : l.length = n) (hnb : n ≤ 1073741824) (hl : OrsAt w ao l) (hok : ∀ o ∈ l, (o.ao = none ∧ o.n = 0 ∧ o.c = 0) ∨ ∃ a, o.ao = some a)
  (hL : WLs Nil0 w ob cb B oj cj J oc cc C) (hnB : B.length = nB) (hnJ : J.length = nJ) (hnC : C.length = nC) (hG : GOk ⟨tk, gx, gy, ⟨nb, nj, B, J, C⟩⟩) (hC : nC ≤ 1073741824) :
  Calls Tryz.prog 11 #[wdV tk nb nj gx gy (.slice ob nB cb) (.slice oj nJ cj) (.slice oc nC cc), .slice ao n c] w fun e v => ∃ er G', e = .returned (.int .i64 er) ∧ AfterP l ⟨tk, gx, gy, ⟨nb, nj, B, J, C⟩⟩ er G' ∧ Below w.heap.size w v := by
 obtain ⟨W, eW⟩ : ∃ W, W = (w.alloc (.cells #[.int .i64 tk, .int .i64 nb, .int .i64 nj, .int .i64 gx, .int .i64 gy, .slice ob nB cb, .slice oj nJ cj, .slice oc nC cc] 42)) := ⟨_, rfl⟩
 have KW : Hid (Made w.heap.size w W) := by unfold Hid; rw [eW]; exact (Made.rfl_ _ _).cells (Nat.le_refl _) _ _
 have HB : Hid (Has W w.heap.size 42 #[.int .i64 tk, .int .i64 nb, .int .i64 nj, .int .i64 gx, .int .i64 gy, .slice ob nB cb, .slice oj nJ cj, .slice oc nC cc]) := by unfold Hid; rw [eW]; exact has_new _ _ _
 obtain ⟨gw, egw⟩ : ∃ g, w.heap.size = g := ⟨_, rfl⟩
 have hw1 : w.heap.size ≤ gw := Nat.le_of_eq egw
 rw [egw] at HB
 have b0 := HB.out.at_ 0
 have b1 := HB.out.at_ 1
 have b2 := HB.out.at_ 2
 have b3 := HB.out.at_ 3
 have b4 := HB.out.at_ 4
 have b5 := HB.out.at_ 5
 have b6 := HB.out.at_ 6
 have b7 := HB.out.at_ 7
 simp at b0 b1 b2 b3 b4 b5 b6 b7
 have l1 : gw < W.heap.size := HB.out.here
 have HA := hid (after_c (X0 := (fun b => b = gw)) (w := W) (c := c) tk gx gy nb nj B J C ob oj oc cb cj cc hn hnb (hl.kept KW.out) hok (fun b hb => by have hb : b = gw := hb; omega) ((hL.free (Y := (fun b => b = gw)) (fun b hb => .inr (by have hb : b = gw := hb; omega))).kept KW.out) hnB hnJ hnC hG hC)
 clear hL hl hok hG hn
 go_enter Tryz.func11, Tryz.ntmps11
 go_upto_region 1 with fail
 rw [← eW]
 clear eW
 try rw [egw]
 clear egw
 go_wp2_with fail
 refine HA.out.mono ?_
 rintro e w1 ⟨er, G', haf, hbl0, hres⟩
 have HAf := hid haf
 have hbl : Below W.heap.size W w1 := hbl0
 clear haf hbl0 b0 b1 b2 b3 b4 b5 b6 b7 l1 HA
 have HK1 : Hid (Below w.heap.size w w1) := KW.out.1.trans (hbl.mono KW.out.1.size)
 clear hbl HB KW
 rcases hres with ⟨h0, rfl⟩ | ⟨h0, _, _, ob1, oj1, oc1, cb1, cj1, cc1, rfl, _⟩
 ·clear h0
  go_wp2_with fail
  go_ret
  exact ⟨er, G', rfl, HAf.out, HK1.out.alloc HK1.out.size _⟩
 ·subst h0
  go_wp2_with fail
  go_ret
  exact ⟨0, G', rfl, HAf.out, HK1.out.alloc HK1.out.size _⟩
end Go.Proofs.YtjecadafjnbijaaGreat.Fx
/- Plain, for OrderAlls: the same orders on equal worlds; a small batch is never too much. -/
namespace Go.Proofs.YtjecadafjnbijaaGreat.Fx
open Go.ChangeShapes Go.WideShapes Go.ChangeAt Go.RowKit
set_option linter.unusedVariables false
theorem EqB.refl (b : Bd) : EqB b b := ⟨rfl, ⟨rfl, rfl⟩, ⟨rfl, rfl⟩, rfl, rfl, rfl, rfl, rfl, rfl, fun _ _ => rfl⟩
theorem EqBs.refl (B : List Bd) : EqBs B B := ⟨rfl, fun i x y hx hy => by rw [hx] at hy; rw [Option.some.inj hy]; exact EqB.refl y⟩
theorem EqG.refl (G : PG) : EqG G G := ⟨rfl, rfl, rfl, rfl, rfl, EqBs.refl _, rfl, rfl⟩
theorem EqG.symm {G H : PG} (h : EqG G H) : EqG H G := by
 obtain ⟨a, b, c, d, e, f, g, i⟩ := h
 exact ⟨a.symm, b.symm, c.symm, d.symm, e.symm, f.symm, g.symm, i.symm⟩
theorem EqG.trans {G H K : PG} (h : EqG G H) (k : EqG H K) : EqG G K := by
 obtain ⟨a, b, c, d, e, f, g, i⟩ := h
 obtain ⟨a', b', c', d', e', f', g', i'⟩ := k
 exact ⟨a.trans a', b.trans b', c.trans c', d.trans d', e.trans e', f.trans f', g.trans g', i.trans i'⟩
theorem add_err {b : Bd} {P Q P' Q' : PW} {n e n' e' : Int} (hl : P.B.length = Q.B.length) (hn : P.nb = Q.nb) (k : AddBP b P n e P') (k' : AddBP b Q n' e' Q') : e = e' := by
 rcases k with ⟨a, _, h, _⟩ | ⟨a, c, _, h, _⟩ | ⟨a, c, d, _, h, _⟩
 ·rcases k' with ⟨_, _, h', _⟩ | ⟨a', _⟩ | ⟨a', _⟩
  ·rw [h, h']
  ·exact absurd a' a
  ·exact absurd a' a
 ·rcases k' with ⟨a', _⟩ | ⟨_, _, _, h', _⟩ | ⟨_, c', d', _⟩
  ·exact absurd a a'
  ·rw [h, h']
  ·omega
 ·rcases k' with ⟨a', _⟩ | ⟨_, c', _⟩ | ⟨_, _, _, _, h', _⟩
  ·exact absurd a a'
  ·omega
  ·rw [h, h']
theorem addj_err {j : Jt} {P Q P' Q' : PW} {n e n' e' : Int} (hi : ids P.B = ids Q.B) (hl : P.J.length = Q.J.length) (hn : P.nj = Q.nj) (k : AddJP j P n e P') (k' : AddJP j Q n' e' Q') : e = e' := by
 unfold AddJP at k'
 rw [← hi] at k'
 rcases k with ⟨a, _, h, _⟩ | ⟨a, c, _, h, _⟩ | ⟨a, c, d, _, h, _⟩ | ⟨a, c, d, f, _, h, _⟩
 ·rcases k' with ⟨_, _, h', _⟩ | ⟨a', _⟩ | ⟨a', _⟩ | ⟨a', _⟩
  ·rw [h, h']
  all_goals exact absurd a' a
 ·rcases k' with ⟨a', _⟩ | ⟨_, _, _, h', _⟩ | ⟨_, c', _⟩ | ⟨_, c', _⟩
  ·exact absurd a a'
  ·rw [h, h']
  all_goals exact absurd c' c
 ·rcases k' with ⟨a', _⟩ | ⟨_, c', _⟩ | ⟨_, _, _, _, h', _⟩ | ⟨_, _, d', f', _⟩
  ·exact absurd a a'
  ·exact absurd c c'
  ·rw [h, h']
  ·omega
 ·rcases k' with ⟨a', _⟩ | ⟨_, c', _⟩ | ⟨_, _, d', _⟩ | ⟨_, _, _, _, _, h', _⟩
  ·exact absurd a a'
  ·exact absurd c c'
  ·omega
  ·rw [h, h']
theorem exec_same {o : Or} {G H G' H' : PG} {er er' : Int} (h : EqG G H) (hG : POk G.P) (hH : POk H.P) (k : ExecP o G er G') (k' : ExecP o H er' H') : EqG G' H' ∧ er = er' := by
 have hi := h.2.2.2.2.2.1.ids
 have hl := h.2.2.2.2.2.1.1
 have hj : G.P.J.length = H.P.J.length := by rw [h.2.2.2.2.2.2.1]
 by_cases k1 : o.kd = 1
 ·obtain ⟨n, P', a, e⟩ := exec1_of k1 k
  obtain ⟨n', Q', a', e'⟩ := exec1_of k1 k'
  subst e e'
  exact ⟨add_same h (EqB.refl _) a a', add_err hl h.2.2.2.1 a a'⟩
 by_cases k2 : o.kd = 2
 ·obtain ⟨g, P', a, e⟩ := exec2_of k2 k
  obtain ⟨g', Q', a', e'⟩ := exec2_of k2 k'
  have h0 : er = 0 ∧ er' = 0 := by
   rcases k with ⟨c, _⟩ | ⟨_, c, _⟩ | ⟨c, _⟩ | ⟨c, _⟩ | ⟨c, _⟩ | ⟨c, _⟩ <;> rcases k' with ⟨c', _⟩ | ⟨_, c', _⟩ | ⟨c', _⟩ | ⟨c', _⟩ | ⟨c', _⟩ | ⟨c', _⟩ <;> omega
  subst e e'
  exact ⟨remb_same h a a', by omega⟩
 by_cases k3 : o.kd = 3
 ·obtain ⟨n, P', a, e⟩ := exec3_of k3 k
  obtain ⟨n', Q', a', e'⟩ := exec3_of k3 k'
  subst e e'
  exact ⟨addj_same h rfl a a', addj_err hi hj h.2.2.2.2.1 a a'⟩
 by_cases k4 : o.kd = 4
 ·obtain ⟨g, P', a, e⟩ := exec4_of k4 k
  obtain ⟨g', Q', a', e'⟩ := exec4_of k4 k'
  have h0 : er = 0 ∧ er' = 0 := by
   rcases k with ⟨c, _⟩ | ⟨c, _⟩ | ⟨c, _⟩ | ⟨_, c, _⟩ | ⟨c, _⟩ | ⟨c, _⟩ <;> rcases k' with ⟨c', _⟩ | ⟨c', _⟩ | ⟨c', _⟩ | ⟨_, c', _⟩ | ⟨c', _⟩ | ⟨c', _⟩ <;> omega
  subst e e'
  exact ⟨remj_same h a a', by omega⟩
 by_cases k5 : o.kd = 5
 ·obtain ⟨P', a, e⟩ := exec5_of k5 k
  obtain ⟨Q', a', e'⟩ := exec5_of k5 k'
  have h0 : er = 0 ∧ er' = 0 := by
   rcases k with ⟨c, _⟩ | ⟨c, _⟩ | ⟨c, _⟩ | ⟨c, _⟩ | ⟨_, c, _⟩ | ⟨c, _⟩ <;> rcases k' with ⟨c', _⟩ | ⟨c', _⟩ | ⟨c', _⟩ | ⟨c', _⟩ | ⟨_, c', _⟩ | ⟨c', _⟩ <;> omega
  subst e e'
  exact ⟨(push_same h hG a).trans (push_same (EqG.refl H) hH a').symm, by omega⟩
 by_cases k6 : o.kd = 6
 ·have e := exec6_of k6 k
  have e' := exec6_of k6 k'
  have h0 : er = 0 ∧ er' = 0 := by
   rcases k with ⟨c, _⟩ | ⟨c, _⟩ | ⟨c, _⟩ | ⟨c, _⟩ | ⟨c, _⟩ | ⟨_, c, _⟩ <;> rcases k' with ⟨c', _⟩ | ⟨c', _⟩ | ⟨c', _⟩ | ⟨c', _⟩ | ⟨c', _⟩ | ⟨_, c', _⟩ <;> omega
  subst e e'
  obtain ⟨a, b, c, d⟩ := h
  exact ⟨⟨a, rfl, rfl, d⟩, by omega⟩
 ·rcases k with ⟨c, _⟩ | ⟨c, _⟩ | ⟨c, _⟩ | ⟨c, _⟩ | ⟨c, _⟩ | ⟨c, _⟩ <;> omega
def Room (G : PG) (n : Nat) : Prop := G.P.B.length + n ≤ 1024 ∧ G.P.J.length + n ≤ 1024 ∧ G.P.nb + n ≤ 4611686018427387904 ∧ G.P.nj + n ≤ 4611686018427387904
theorem Room.less {G : PG} {n : Nat} (h : Room G (n + 1)) (t x y : Int) : Room ⟨t, x, y, G.P⟩ n := by
 obtain ⟨h1, h2, h3, h4⟩ := h
 exact ⟨by show G.P.B.length + n ≤ 1024; omega, by show G.P.J.length + n ≤ 1024; omega, by show G.P.nb + n ≤ 4611686018427387904; omega, by show G.P.nj + n ≤ 4611686018427387904; omega⟩
theorem exec_room {o : Or} {G G' : PG} {er : Int} {n : Nat} (h : Room G (n + 1)) (k : ExecP o G er G') : er ≠ 3 ∧ Room G' n := by
 have hR := h
 obtain ⟨h1, h2, h3, h4⟩ := h
 rcases k with ⟨_, m, P', k, rfl⟩ | ⟨_, e, g, P', k, rfl⟩ | ⟨_, m, P', k, rfl⟩ | ⟨_, e, g, P', k, rfl⟩ | ⟨_, e, P', k, rfl⟩ | ⟨_, e, rfl⟩
 ·rcases k with ⟨_, _, e, rfl⟩ | ⟨_, c, _, e, _⟩ | ⟨_, c, d, _, e, ao, cc, rfl⟩
  ·exact ⟨by omega, hR.less _ _ _⟩
  ·omega
  ·refine ⟨by omega, ?_, by show G.P.J.length + n ≤ 1024; omega, by show G.P.nb + 1 + n ≤ _; omega, by show G.P.nj + n ≤ _; omega⟩
   show (G.P.B ++ [_]).length + n ≤ 1024
   rw [List.length_append]; simp only [List.length_singleton]; omega
 ·refine ⟨by omega, ?_⟩
  rcases k with ⟨_, _, rfl⟩ | ⟨_, _, rfl⟩
  ·exact hR.less _ _ _
  ·have a := List.length_filter_le (fun x => !goneB o.id x) G.P.B
   have b := List.length_filter_le (fun x => !goneJ o.id x) G.P.J
   exact ⟨by show (G.P.B.filter _).length + n ≤ 1024; omega, by show (G.P.J.filter _).length + n ≤ 1024; omega, by show G.P.nb + n ≤ _; omega, by show G.P.nj + n ≤ _; omega⟩
 ·rcases k with ⟨_, _, e, rfl⟩ | ⟨_, _, _, e, rfl⟩ | ⟨_, _, c, _, e, _⟩ | ⟨_, _, c, d, _, e, rfl⟩
  ·exact ⟨by omega, hR.less _ _ _⟩
  ·exact ⟨by omega, hR.less _ _ _⟩
  ·omega
  ·refine ⟨by omega, by show G.P.B.length + n ≤ 1024; omega, ?_, by show G.P.nb + n ≤ _; omega, by show G.P.nj + 1 + n ≤ _; omega⟩
   show (G.P.J ++ [_]).length + n ≤ 1024
   rw [List.length_append]; simp only [List.length_singleton]; omega
 ·refine ⟨by omega, ?_⟩
  rcases k with ⟨_, _, rfl⟩ | ⟨_, _, rfl⟩
  ·exact hR.less _ _ _
  ·have b := List.length_filter_le (fun x => !isJ o.id x) G.P.J
   exact ⟨by show G.P.B.length + n ≤ 1024; omega, by show (G.P.J.filter _).length + n ≤ 1024; omega, by show G.P.nb + n ≤ _; omega, by show G.P.nj + n ≤ _; omega⟩
 ·refine ⟨by omega, ?_⟩
  rcases k with ⟨_, rfl⟩ | ⟨i, b, _, _, _, rfl⟩
  ·exact hR.less _ _ _
  ·exact ⟨by show (G.P.B.set i _).length + n ≤ 1024; rw [List.length_set]; omega, by show G.P.J.length + n ≤ 1024; omega, by show G.P.nb + n ≤ _; omega, by show G.P.nj + n ≤ _; omega⟩
 ·exact ⟨by omega, hR.less _ _ _⟩
theorem execs_room : ∀ {l : List Or} {G G' : PG} {er : Int}, Room G l.length → ExecsP l G er G' → er = 0
 | [], G, G', er, _, h => h.1
 | o :: l, G, G', er, hr, ⟨e1, G1, k, h⟩ => by
  obtain ⟨h1, h2⟩ := exec_room (n := l.length) hr k
  rcases h with ⟨h, _⟩ | ⟨_, h⟩
  ·exact absurd h h1
  ·exact execs_room h2 h
end Go.Proofs.YtjecadafjnbijaaGreat.Fx