/- OtG OtK OuP OtH -/
import Derived.Test.YtjecadafjnbijaaGreatPf18
import Derived.Test.YtjecadafjnbijaaGreatPf20
set_option maxRecDepth 100000
set_option maxHeartbeats 64000000
/- order.after of any batch. -/
namespace Go.Proofs.YtjecadafjnbijaaGreat.Fx
open Go.ChangeShapes Go.WideShapes Go.ChangeAt Go.RowKit
set_option linter.unusedVariables false
def ExecsP : List Or → PG → Int → PG → Prop
 | [], G, er, G' => er = 0 ∧ G' = G
 | o :: l, G, er, G' => ∃ e1 G1, ExecP o G e1 G1 ∧ ((e1 = 3 ∧ er = 3) ∨ (e1 ≠ 3 ∧ ExecsP l G1 er G'))
def AfterP (l : List Or) (G : PG) (er : Int) (G' : PG) : Prop :=
 (64 < l.length ∧ er = 3) ∨ (l.length ≤ 64 ∧ (∃ o ∈ l, ¬ OrderP o) ∧ er = 2) ∨ (l.length ≤ 64 ∧ (∀ o ∈ l, OrderP o) ∧ 4611686018427387904 ≤ G.tk ∧ er = 3) ∨ (l.length ≤ 64 ∧ (∀ o ∈ l, OrderP o) ∧ G.tk < 4611686018427387904 ∧ ExecsP l G er G')
theorem OrsAt.below {w v : World} {ao : Option Addr} {l : List Or} (h : OrsAt w ao l) (k : Below w.heap.size w v) : OrsAt v ao l :=
 ⟨h.1.below k, fun o ho => by
  obtain ⟨h1, h2, h3⟩ := h.2 o ho
  refine ⟨h1, h2, fun hn => ?_⟩
  obtain ⟨b, off, e, hp⟩ := h3 hn
  exact ⟨b, off, e, fun i hi => ⟨Below.reads k (hp i hi).1, Below.reads k (hp i hi).2⟩⟩⟩
theorem after_c {X0 : Nat → Prop} {l : List Or} {ao : Option Addr} {n c nB nJ nC : Nat} {w : World} (tk gx gy nb nj : Int) (B : List Bd) (J : List Jt) (C : List Ct) (ob oj oc : Option Addr) (cb cj cc : Nat) (hn : l.length = n) (hnb : n ≤ 1073741824) (hl : OrsAt w ao l) (hok : ∀ o ∈ l, (o.ao = none ∧ o.n = 0 ∧ o.c = 0) ∨ ∃ a, o.ao = some a)
  (hX0 : ∀ b, X0 b → b < w.heap.size) (hL : WLs X0 w ob cb B oj cj J oc cc C) (hnB : B.length = nB) (hnJ : J.length = nJ) (hnC : C.length = nC) (hG : GOk ⟨tk, gx, gy, ⟨nb, nj, B, J, C⟩⟩) (hC : nC ≤ 1073741824) :
  Calls Tryz.prog 25 #[wdV tk nb nj gx gy (.slice ob nB cb) (.slice oj nJ cj) (.slice oc nC cc), .slice ao n c] w fun e v => ∃ er G', AfterP l ⟨tk, gx, gy, ⟨nb, nj, B, J, C⟩⟩ er G' ∧ Below w.heap.size w v ∧
   ((er ≠ 0 ∧ e = .returned (.tuple #[wdV 0 0 0 0 0 (.slice none 0 0) (.slice none 0 0) (.slice none 0 0), .int .i64 er])) ∨
    (er = 0 ∧ GOk G' ∧ G'.P.C.length ≤ nC ∧ ∃ ob' oj' oc' cb' cj' cc', e = .returned (.tuple #[wdV G'.tk G'.P.nb G'.P.nj G'.gx G'.gy (.slice ob' G'.P.B.length cb') (.slice oj' G'.P.J.length cj') (.slice oc' G'.P.C.length cc'), .int .i64 0]) ∧ WLs X0 v ob' cb' G'.P.B oj' cj' G'.P.J oc' cc' G'.P.C)) := by
 have HAW := hid (fun v (k : Made w.heap.size w v) => anyWrong_c (c := c) hn (by omega) (hl.kept k))
 have HLs := hid hL
 have HX0 := hid hX0
 have HOrs := hid hl
 have HOk := hid hok
 have HG := hid hG
 have HN := hid (And.intro hnB (And.intro hnJ hnC))
 have HLen := hid hn
 clear hL hX0 hl hok hG hnB hnJ hnC hn
 obtain ⟨W, eW⟩ : ∃ W, W = (w.alloc (.cells #[.int .i64 tk, .int .i64 nb, .int .i64 nj, .int .i64 gx, .int .i64 gy, .slice ob nB cb, .slice oj nJ cj, .slice oc nC cc] 42)).alloc (.cells #[.int .i64 0, .int .i64 0, .int .i64 0, .int .i64 0, .int .i64 0, .slice none 0 0, .slice none 0 0, .slice none 0 0] 42) := ⟨_, rfl⟩
 have KW : Hid (Made w.heap.size w W) := by unfold Hid; rw [eW]; exact ((Made.rfl_ _ _).cells (Nat.le_refl _) _ _).cells (by simp) _ _
 have HB : Hid (Has W w.heap.size 42 #[.int .i64 tk, .int .i64 nb, .int .i64 nj, .int .i64 gx, .int .i64 gy, .slice ob nB cb, .slice oj nJ cj, .slice oc nC cc]) := by unfold Hid; rw [eW]; exact (has_new _ _ _).more _
 have HR : Hid (Has W (w.heap.size + 1) 42 #[.int .i64 0, .int .i64 0, .int .i64 0, .int .i64 0, .int .i64 0, .slice none 0 0, .slice none 0 0, .slice none 0 0]) := by unfold Hid; rw [eW]; exact has_nxt' _ _ _ _
 obtain ⟨gw, egw⟩ : ∃ g, w.heap.size = g := ⟨_, rfl⟩
 obtain ⟨gr, egr⟩ : ∃ g, gw + 1 = g := ⟨_, rfl⟩
 have hw1 : w.heap.size ≤ gw := Nat.le_of_eq egw
 have hw2 : w.heap.size ≤ gr := by omega
 have hne : ¬ gr = gw := by omega
 rw [egw] at HB
 rw [egw, egr] at HR
 go_enter Tryz.func25, Tryz.ntmps25
 go_upto_region 1 with fail
 rw [← eW]
 clear eW
 try rw [egw]
 try rw [egr]
 clear egw egr
 have r0 := HR.out.at_ 0
 have r1 := HR.out.at_ 1
 have r2 := HR.out.at_ 2
 have r3 := HR.out.at_ 3
 have r4 := HR.out.at_ 4
 have r5 := HR.out.at_ 5
 have r6 := HR.out.at_ 6
 have r7 := HR.out.at_ 7
 simp at r0 r1 r2 r3 r4 r5 r6 r7
 have lr : gr < W.heap.size := HR.out.here
 have fr : ∀ i, W.frozen? ⟨gr, i, none⟩ = false := HR.out.free
 have HK0 : Hid (Below w.heap.size w W) := KW.out.1
 by_cases h64 : 64 < n
 ·go_wp2_with fail
  obtain ⟨V, eV⟩ : ∃ V, V = ((((((((W).setCell ⟨gr, 0, none⟩ (.int .i64 0)).setCell ⟨gr, 1, none⟩ (.int .i64 0)).setCell ⟨gr, 2, none⟩ (.int .i64 0)).setCell ⟨gr, 3, none⟩ (.int .i64 0)).setCell ⟨gr, 4, none⟩ (.int .i64 0)).setCell ⟨gr, 5, none⟩ (.slice none 0 0)).setCell ⟨gr, 6, none⟩ (.slice none 0 0)).setCell ⟨gr, 7, none⟩ (.slice none 0 0) := ⟨_, rfl⟩
  have hV : Has V gr 42 #[.int .i64 0, .int .i64 0, .int .i64 0, .int .i64 0, .int .i64 0, .slice none 0 0, .slice none 0 0, .slice none 0 0] := by rw [eV]; exact Has.put8 HR.out (.int .i64 0) (.int .i64 0) (.int .i64 0) (.int .i64 0) (.int .i64 0) (.slice none 0 0) (.slice none 0 0) (.slice none 0 0)
  have kV : Below w.heap.size w V := by
   have kb : BuB (fun b => b = gr) W V := by rw [eV]; exact (But.put8 (But.rfl_ (fun b => b = gr) W) (g := gr) (.inl rfl) (.int .i64 0) (.int .i64 0) (.int .i64 0) (.int .i64 0) (.int .i64 0) (.slice none 0 0) (.slice none 0 0) (.slice none 0 0)).bub
   exact BuB.below_ HK0.out kb HK0.out.size (fun b hb => by have hb : b = gr := hb; omega)
  have kU : BuB (fun b => b = gr) W V := by rw [eV]; exact (But.put8 (But.rfl_ (fun b => b = gr) W) (g := gr) (.inl rfl) (.int .i64 0) (.int .i64 0) (.int .i64 0) (.int .i64 0) (.int .i64 0) (.slice none 0 0) (.slice none 0 0) (.slice none 0 0)).bub
  try rw [← eV]
  clear eV
  have q0 := hV.at_ 0
  have q1 := hV.at_ 1
  have q2 := hV.at_ 2
  have q3 := hV.at_ 3
  have q4 := hV.at_ 4
  have q5 := hV.at_ 5
  have q6 := hV.at_ 6
  have q7 := hV.at_ 7
  simp at q0 q1 q2 q3 q4 q5 q6 q7
  refine bodyPost_ret (v := .tuple #[.agg #[.int .i64 0, .int .i64 0, .int .i64 0, .int .i64 0, .int .i64 0, .slice none 0 0, .slice none 0 0, .slice none 0 0], .int .i64 3]) (by simp [results, Tryz.results25, go_sem, q0, q1, q2, q3, q4, q5, q6, q7]) rfl ?_
  exact ⟨3, ⟨tk, gx, gy, ⟨nb, nj, B, J, C⟩⟩, .inl ⟨by rw [HLen.out]; exact h64, rfl⟩, kV, .inl ⟨by decide, rfl⟩⟩
 have H64 : Hid (l.length ≤ 64) := by unfold Hid; rw [HLen.out]; omega
 go_wp2_with fail
 refine (HAW.out _ KW.out).mono ?_
 rintro e w1 ⟨q, rfl, k1, hq⟩
 have HQ := hid hq
 have HB1 := hid (HB.out.stays k1 HB.out.here)
 have HR1 := hid (HR.out.stays k1 HR.out.here)
 have K1 := hid (KW.out.then_ (k1.low KW.out.1.size))
 have HK1 : Hid (Below w.heap.size w w1) := K1.out.1
 clear hq k1 HB HR KW r0 r1 r2 r3 r4 r5 r6 r7 lr fr HK0 HAW
 have r0 := HR1.out.at_ 0
 have r1 := HR1.out.at_ 1
 have r2 := HR1.out.at_ 2
 have r3 := HR1.out.at_ 3
 have r4 := HR1.out.at_ 4
 have r5 := HR1.out.at_ 5
 have r6 := HR1.out.at_ 6
 have r7 := HR1.out.at_ 7
 simp at r0 r1 r2 r3 r4 r5 r6 r7
 have lr : gr < w1.heap.size := HR1.out.here
 have fr : ∀ i, w1.frozen? ⟨gr, i, none⟩ = false := HR1.out.free
 cases q with
 | true =>
  go_wp2_with fail
  obtain ⟨V, eV⟩ : ∃ V, V = ((((((((w1).setCell ⟨gr, 0, none⟩ (.int .i64 0)).setCell ⟨gr, 1, none⟩ (.int .i64 0)).setCell ⟨gr, 2, none⟩ (.int .i64 0)).setCell ⟨gr, 3, none⟩ (.int .i64 0)).setCell ⟨gr, 4, none⟩ (.int .i64 0)).setCell ⟨gr, 5, none⟩ (.slice none 0 0)).setCell ⟨gr, 6, none⟩ (.slice none 0 0)).setCell ⟨gr, 7, none⟩ (.slice none 0 0) := ⟨_, rfl⟩
  have hV : Has V gr 42 #[.int .i64 0, .int .i64 0, .int .i64 0, .int .i64 0, .int .i64 0, .slice none 0 0, .slice none 0 0, .slice none 0 0] := by rw [eV]; exact Has.put8 HR1.out (.int .i64 0) (.int .i64 0) (.int .i64 0) (.int .i64 0) (.int .i64 0) (.slice none 0 0) (.slice none 0 0) (.slice none 0 0)
  have kV : Below w.heap.size w V := by
   have kb : BuB (fun b => b = gr) w1 V := by rw [eV]; exact (But.put8 (But.rfl_ (fun b => b = gr) w1) (g := gr) (.inl rfl) (.int .i64 0) (.int .i64 0) (.int .i64 0) (.int .i64 0) (.int .i64 0) (.slice none 0 0) (.slice none 0 0) (.slice none 0 0)).bub
   exact BuB.below_ HK1.out kb HK1.out.size (fun b hb => by have hb : b = gr := hb; omega)
  have kU : BuB (fun b => b = gr) w1 V := by rw [eV]; exact (But.put8 (But.rfl_ (fun b => b = gr) w1) (g := gr) (.inl rfl) (.int .i64 0) (.int .i64 0) (.int .i64 0) (.int .i64 0) (.int .i64 0) (.slice none 0 0) (.slice none 0 0) (.slice none 0 0)).bub
  try rw [← eV]
  clear eV
  have q0 := hV.at_ 0
  have q1 := hV.at_ 1
  have q2 := hV.at_ 2
  have q3 := hV.at_ 3
  have q4 := hV.at_ 4
  have q5 := hV.at_ 5
  have q6 := hV.at_ 6
  have q7 := hV.at_ 7
  simp at q0 q1 q2 q3 q4 q5 q6 q7
  refine bodyPost_ret (v := .tuple #[.agg #[.int .i64 0, .int .i64 0, .int .i64 0, .int .i64 0, .int .i64 0, .slice none 0 0, .slice none 0 0, .slice none 0 0], .int .i64 2]) (by simp [results, Tryz.results25, go_sem, q0, q1, q2, q3, q4, q5, q6, q7]) rfl ?_
  exact ⟨2, ⟨tk, gx, gy, ⟨nb, nj, B, J, C⟩⟩, .inr (.inl ⟨H64.out, HQ.out.1 (by first | rfl | trivial), rfl⟩), kV, .inl ⟨by decide, rfl⟩⟩
 | false =>
 have HAl : Hid (∀ o ∈ l, OrderP o) := fun o ho => Classical.byContradiction fun hno => by
  have := HQ.out.2 ⟨o, ho, hno⟩
  cases this
 clear HQ
 have b0 := HB1.out.at_ 0
 have b1 := HB1.out.at_ 1
 have b2 := HB1.out.at_ 2
 have b3 := HB1.out.at_ 3
 have b4 := HB1.out.at_ 4
 have b5 := HB1.out.at_ 5
 have b6 := HB1.out.at_ 6
 have b7 := HB1.out.at_ 7
 simp at b0 b1 b2 b3 b4 b5 b6 b7
 have lb : gw < w1.heap.size := HB1.out.here
 by_cases h62 : 4611686018427387904 ≤ tk
 ·go_wp2_with fail
  obtain ⟨V, eV⟩ : ∃ V, V = ((((((((w1).setCell ⟨gr, 0, none⟩ (.int .i64 0)).setCell ⟨gr, 1, none⟩ (.int .i64 0)).setCell ⟨gr, 2, none⟩ (.int .i64 0)).setCell ⟨gr, 3, none⟩ (.int .i64 0)).setCell ⟨gr, 4, none⟩ (.int .i64 0)).setCell ⟨gr, 5, none⟩ (.slice none 0 0)).setCell ⟨gr, 6, none⟩ (.slice none 0 0)).setCell ⟨gr, 7, none⟩ (.slice none 0 0) := ⟨_, rfl⟩
  have hV : Has V gr 42 #[.int .i64 0, .int .i64 0, .int .i64 0, .int .i64 0, .int .i64 0, .slice none 0 0, .slice none 0 0, .slice none 0 0] := by rw [eV]; exact Has.put8 HR1.out (.int .i64 0) (.int .i64 0) (.int .i64 0) (.int .i64 0) (.int .i64 0) (.slice none 0 0) (.slice none 0 0) (.slice none 0 0)
  have kV : Below w.heap.size w V := by
   have kb : BuB (fun b => b = gr) w1 V := by rw [eV]; exact (But.put8 (But.rfl_ (fun b => b = gr) w1) (g := gr) (.inl rfl) (.int .i64 0) (.int .i64 0) (.int .i64 0) (.int .i64 0) (.int .i64 0) (.slice none 0 0) (.slice none 0 0) (.slice none 0 0)).bub
   exact BuB.below_ HK1.out kb HK1.out.size (fun b hb => by have hb : b = gr := hb; omega)
  have kU : BuB (fun b => b = gr) w1 V := by rw [eV]; exact (But.put8 (But.rfl_ (fun b => b = gr) w1) (g := gr) (.inl rfl) (.int .i64 0) (.int .i64 0) (.int .i64 0) (.int .i64 0) (.int .i64 0) (.slice none 0 0) (.slice none 0 0) (.slice none 0 0)).bub
  try rw [← eV]
  clear eV
  have q0 := hV.at_ 0
  have q1 := hV.at_ 1
  have q2 := hV.at_ 2
  have q3 := hV.at_ 3
  have q4 := hV.at_ 4
  have q5 := hV.at_ 5
  have q6 := hV.at_ 6
  have q7 := hV.at_ 7
  simp at q0 q1 q2 q3 q4 q5 q6 q7
  refine bodyPost_ret (v := .tuple #[.agg #[.int .i64 0, .int .i64 0, .int .i64 0, .int .i64 0, .int .i64 0, .slice none 0 0, .slice none 0 0, .slice none 0 0], .int .i64 3]) (by simp [results, Tryz.results25, go_sem, q0, q1, q2, q3, q4, q5, q6, q7]) rfl ?_
  exact ⟨3, ⟨tk, gx, gy, ⟨nb, nj, B, J, C⟩⟩, .inr (.inr (.inl ⟨H64.out, HAl.out, h62, rfl⟩)), kV, .inl ⟨by decide, rfl⟩⟩
 have H62 : Hid (tk < 4611686018427387904) := by unfold Hid; omega
 go_wp2_with fail
 clear b0 b1 b2 b3 b4 b5 b6 b7 lb r0 r1 r2 r3 r4 r5 r6 r7 lr fr h62
 have HV1 : Hid (GV (fun b => X0 b ∨ b = gw ∨ b = gr) w1 gw ⟨tk, gx, gy, ⟨nb, nj, B, J, C⟩⟩) := by
  refine ⟨ob, oj, oc, cb, cj, cc, ?_, (HLs.out.free (Y := fun b => X0 b ∨ b = gw ∨ b = gr) (fun b hb => by
   rcases (show X0 b ∨ b = gw ∨ b = gr from hb) with h | h
   ·exact .inl h
   ·exact .inr (by omega))).kept K1.out⟩
  show Has w1 gw 42 #[.int .i64 tk, .int .i64 nb, .int .i64 nj, .int .i64 gx, .int .i64 gy, .slice ob B.length cb, .slice oj J.length cj, .slice oc C.length cc]
  rw [HN.out.1, HN.out.2.1, HN.out.2.2]
  exact HB1.out
 go_loopg [7, 21] n (fun gg s7 s21 wx => ∃ (k : Nat) (Gk : PG), k + gg = n ∧ s21 = .int .i64 (k : Nat) ∧ Hid (Below w.heap.size w wx ∧ GV (fun b => X0 b ∨ b = gw ∨ b = gr) wx gw Gk ∧ GOk Gk ∧ Gk.P.C.length ≤ nC ∧ Has wx gr 42 #[.int .i64 0, .int .i64 0, .int .i64 0, .int .i64 0, .int .i64 0, .slice none 0 0, .slice none 0 0, .slice none 0 0] ∧ ∀ er G', ExecsP (l.drop k) Gk er G' → ExecsP l ⟨tk, gx, gy, ⟨nb, nj, B, J, C⟩⟩ er G'))
 case atStart => exact ⟨0, _, by omega, by first | rfl | trivial, HK1.out, HV1.out, HG.out, Nat.le_of_eq HN.out.2.2, HR1.out, fun er G' h => h⟩
 case round =>
  obtain ⟨k, Gk, hk, rfl, HH⟩ := hrel
  have HKr := hid HH.out.1
  have HVr := hid HH.out.2.1
  have HGr := hid HH.out.2.2.1
  have HCr := hid HH.out.2.2.2.1
  have HRr := hid HH.out.2.2.2.2.1
  have HPr := hid HH.out.2.2.2.2.2
  clear HH
  by_cases hkn : k < n
  ·obtain ⟨x, hx⟩ : ∃ x, l[k]? = some x := ⟨_, List.getElem?_eq_getElem (by rw [HLen.out]; exact hkn)⟩
   have hors := HOrs.out.below HKr.out
   obtain ⟨b, off, eao, hb, hLB⟩ := hors.1 (by rw [HLen.out]; omega)
   obtain ⟨hxi, hxn, hxs⟩ := hors.2 x (List.mem_of_getElem? hx)
   have HXI := hid hxi; have HXS := hid hxs
   have HXK := hid (HOk.out x (List.mem_of_getElem? hx))
   have HXP := hid (HAl.out x (List.mem_of_getElem? hx))
   have HDr : Hid (l.drop k = x :: l.drop (k + 1)) := by
    unfold Hid
    obtain ⟨h1, h2⟩ := List.getElem?_eq_some_iff.1 hx
    rw [List.drop_eq_getElem_cons h1, h2]
   obtain ⟨cs, ecs⟩ : ∃ cs, encO x = cs := ⟨_, rfl⟩
   have HRg : Hid (wr.rangeAt b (off + k * 15) cs) := by unfold Hid; rw [← ecs]; exact LsB.rangeAt hLB hx
   have HLN : Hid (cs.length = 15) := by unfold Hid; rw [← ecs]; rfl
   have H1C : Hid (∀ v ∈ cs, v.oneCell' = true) := by unfold Hid; rw [← ecs]; exact encO_one x
   have HCS : Hid (orV x = .agg cs.toArray) := by unfold Hid; rw [← ecs]; rfl
   obtain ⟨g7, eg7⟩ : ∃ g, wr.heap.size = g := ⟨_, rfl⟩
   have HTH : Hid ((wr.alloc (.cells #[.int .i64 0, .int .i64 0, .int .i64 0, .int .i64 0, .int .i64 0, .int .i64 0, .int .i64 0, .int .i64 0, .int .i64 0, .int .i64 0, .int .i64 0, .int .i64 0, .int .i64 0, .int .i64 0, .slice none 0 0] 49)).there g7 0 cs.toArray.size) := by
    unfold Hid; rw [← eg7]; exact there_of (has_new _ _ _) (by rw [List.size_toArray, HLN.out]; decide)
   have HEao := hid eao
   clear hx hors hLB hxi hxn hxs ecs
   subst eao
   go_upto_region 10 with (first
    | refine wpList_load_mid rfl 49 (.tmp 23) rfl b (off + k * 15) rfl cs _ HRg.out Tryz.underlying49 rfl (by rw [HLN.out]; kernel_rfl) ?_
    | refine wpList_store_mid rfl 49 (.tmp 7) (.tmp 24) rfl g7 0 cs.toArray rfl rfl HTH.out (by rw [List.size_toArray, HLN.out]; kernel_rfl) (all_oneCell_toArray H1C.out) ?_)
   obtain ⟨W4, e4⟩ : ∃ V, V = (wr.alloc (.cells #[.int .i64 0, .int .i64 0, .int .i64 0, .int .i64 0, .int .i64 0, .int .i64 0, .int .i64 0, .int .i64 0, .int .i64 0, .int .i64 0, .int .i64 0, .int .i64 0, .int .i64 0, .int .i64 0, .slice none 0 0] 49)).setCells g7 0 cs := ⟨_, rfl⟩
   have k4 : Made wr.heap.size wr W4 := by rw [e4]; exact Made.setCells (Nat.le_of_eq eg7) _ _ ((Made.rfl_ _ _).cells (Nat.le_refl _) _ _)
   have HX4 : Hid (Has W4 g7 49 cs.toArray) := by
    unfold Hid
    have h := (has_new wr 49 #[.int .i64 0, .int .i64 0, .int .i64 0, .int .i64 0, .int .i64 0, .int .i64 0, .int .i64 0, .int .i64 0, .int .i64 0, .int .i64 0, .int .i64 0, .int .i64 0, .int .i64 0, .int .i64 0, .slice none 0 0]).whole (vs := cs.toArray) (by rw [List.size_toArray, HLN.out]; rfl)
    rw [eg7] at h
    rw [e4]
    exact h
   rw [← e4]
   clear e4 eg7 HTH
   have HV4 := hid (WVar.kept HVr.out k4)
   have HR4 := hid (HRr.out.stays k4 HRr.out.here)
   have HK4 : Hid (Below w.heap.size w W4) := HKr.out.trans (k4.1.mono HKr.out.size)
   have HEx := hid (exec_p x HV4.out HGr.out (.inr (.inl rfl)) (fun b hb => by
    have h1 := WVar.here HV4.out
    have h2 := HR4.out.here
    have h3 := HK4.out.size
    rcases (show X0 b ∨ b = gw ∨ b = gr from hb) with h | h
    ·have := HX0.out b h; omega
    ·omega) HXI.out HXP.out (Sl.kept HXS.out k4) HXK.out (by have := HCr.out; omega))
   rw [HCS.out] at HEx
   clear k4 HVr HRr HKr
   go_wp2_with (refine wpList_load_row rfl 49 (.tmp 7) rfl g7 rfl 49 _ (0, 0) _ HX4.out Tryz.underlying49 rfl (by rw [List.size_toArray, HLN.out]; kernel_rfl) ?_)
   refine HEx.out.mono ?_
   rintro e w5 ⟨er, G1, rfl, hex, hv, kb⟩
   have HR5 := hid (HR4.out.bub kb hne)
   have HK5 : Hid (Below w.heap.size w w5) := BuB.below_ HK4.out kb HK4.out.size (fun b hb => by have hb : b = gw := hb; omega)
   have HV5 := hid hv
   have HX5 := hid hex
   have HG5 := hid (exec_ok HGr.out HXP.out hex)
   have HC5 := hid (Nat.le_trans (exec_C hex) HCr.out)
   clear hex hv kb HEx HV4 HR4 HK4 HX4
   by_cases h3 : er = 3
   ·have hq3 : (er == 3) = true := by rw [h3]; rfl
    have H3 := hid h3
    clear h3
    have r0 := HR5.out.at_ 0
    have r1 := HR5.out.at_ 1
    have r2 := HR5.out.at_ 2
    have r3 := HR5.out.at_ 3
    have r4 := HR5.out.at_ 4
    have r5 := HR5.out.at_ 5
    have r6 := HR5.out.at_ 6
    have r7 := HR5.out.at_ 7
    simp at r0 r1 r2 r3 r4 r5 r6 r7
    have lr : gr < w5.heap.size := HR5.out.here
    have fr : ∀ i, w5.frozen? ⟨gr, i, none⟩ = false := HR5.out.free
    go_wp2_with fail
    obtain ⟨V, eV⟩ : ∃ V, V = ((((((((w5).setCell ⟨gr, 0, none⟩ (.int .i64 0)).setCell ⟨gr, 1, none⟩ (.int .i64 0)).setCell ⟨gr, 2, none⟩ (.int .i64 0)).setCell ⟨gr, 3, none⟩ (.int .i64 0)).setCell ⟨gr, 4, none⟩ (.int .i64 0)).setCell ⟨gr, 5, none⟩ (.slice none 0 0)).setCell ⟨gr, 6, none⟩ (.slice none 0 0)).setCell ⟨gr, 7, none⟩ (.slice none 0 0) := ⟨_, rfl⟩
    have hV : Has V gr 42 #[.int .i64 0, .int .i64 0, .int .i64 0, .int .i64 0, .int .i64 0, .slice none 0 0, .slice none 0 0, .slice none 0 0] := by rw [eV]; exact Has.put8 HR5.out (.int .i64 0) (.int .i64 0) (.int .i64 0) (.int .i64 0) (.int .i64 0) (.slice none 0 0) (.slice none 0 0) (.slice none 0 0)
    have kV : Below w.heap.size w V := by
     have kb : BuB (fun b => b = gr) w5 V := by rw [eV]; exact (But.put8 (But.rfl_ (fun b => b = gr) w5) (g := gr) (.inl rfl) (.int .i64 0) (.int .i64 0) (.int .i64 0) (.int .i64 0) (.int .i64 0) (.slice none 0 0) (.slice none 0 0) (.slice none 0 0)).bub
     exact BuB.below_ HK5.out kb HK5.out.size (fun b hb => by have hb : b = gr := hb; omega)
    have kU : BuB (fun b => b = gr) w5 V := by rw [eV]; exact (But.put8 (But.rfl_ (fun b => b = gr) w5) (g := gr) (.inl rfl) (.int .i64 0) (.int .i64 0) (.int .i64 0) (.int .i64 0) (.int .i64 0) (.slice none 0 0) (.slice none 0 0) (.slice none 0 0)).bub
    try rw [← eV]
    clear eV
    have q0 := hV.at_ 0
    have q1 := hV.at_ 1
    have q2 := hV.at_ 2
    have q3 := hV.at_ 3
    have q4 := hV.at_ 4
    have q5 := hV.at_ 5
    have q6 := hV.at_ 6
    have q7 := hV.at_ 7
    simp at q0 q1 q2 q3 q4 q5 q6 q7
    refine bodyPost_ret (v := .tuple #[.agg #[.int .i64 0, .int .i64 0, .int .i64 0, .int .i64 0, .int .i64 0, .slice none 0 0, .slice none 0 0, .slice none 0 0], .int .i64 3]) (by simp [results, Tryz.results25, go_sem, q0, q1, q2, q3, q4, q5, q6, q7]) rfl ?_
    exact ⟨3, G1, .inr (.inr (.inr ⟨H64.out, HAl.out, H62.out, HPr.out 3 G1 (by rw [HDr.out]; exact ⟨er, G1, HX5.out, .inl ⟨H3.out, rfl⟩⟩)⟩)), kV, .inl ⟨by decide, rfl⟩⟩
   ·have hq3 : (er == 3) = false := by simpa using h3
    have H3 := hid h3
    clear h3
    go_wp2_with fail
    go_roundg (n - (k + 1))
    case measure => omega
    case rel => exact ⟨k + 1, G1, by omega, by go_num, HK5.out, HV5.out, HG5.out, HC5.out, HR5.out, fun er' G' h => HPr.out er' G' (by rw [HDr.out]; exact ⟨er, G1, HX5.out, .inr ⟨H3.out, h⟩⟩)⟩
  ·have hkd : Hid (l.drop k = []) := List.drop_eq_nil_of_le (by rw [HLen.out]; omega)
   obtain ⟨ob', oj', oc', cb', cj', cc', hH, hL'⟩ := HVr.out
   have HH' := hid hH
   have HL' := hid hL'
   clear hH hL'
   obtain ⟨xtk, extk⟩ : ∃ z, Gk.tk = z := ⟨_, rfl⟩
   obtain ⟨xnb, exnb⟩ : ∃ z, Gk.P.nb = z := ⟨_, rfl⟩
   obtain ⟨xnj, exnj⟩ : ∃ z, Gk.P.nj = z := ⟨_, rfl⟩
   obtain ⟨xgx, exgx⟩ : ∃ z, Gk.gx = z := ⟨_, rfl⟩
   obtain ⟨xgy, exgy⟩ : ∃ z, Gk.gy = z := ⟨_, rfl⟩
   obtain ⟨lb, elb⟩ : ∃ z, Gk.P.B.length = z := ⟨_, rfl⟩
   obtain ⟨lj, elj⟩ : ∃ z, Gk.P.J.length = z := ⟨_, rfl⟩
   obtain ⟨lc, elc⟩ : ∃ z, Gk.P.C.length = z := ⟨_, rfl⟩
   rw [extk, exnb, exnj, exgx, exgy, elb, elj, elc] at HH'
   have HEq := hid (And.intro extk (And.intro exnb (And.intro exnj (And.intro exgx (And.intro exgy (And.intro elb (And.intro elj elc)))))))
   clear extk exnb exnj exgx exgy elb elj elc
   have b0 := HH'.out.at_ 0
   have b1 := HH'.out.at_ 1
   have b2 := HH'.out.at_ 2
   have b3 := HH'.out.at_ 3
   have b4 := HH'.out.at_ 4
   have b5 := HH'.out.at_ 5
   have b6 := HH'.out.at_ 6
   have b7 := HH'.out.at_ 7
   simp at b0 b1 b2 b3 b4 b5 b6 b7
   have lb' : gw < wr.heap.size := HH'.out.here
   have r0 := HRr.out.at_ 0
   have r1 := HRr.out.at_ 1
   have r2 := HRr.out.at_ 2
   have r3 := HRr.out.at_ 3
   have r4 := HRr.out.at_ 4
   have r5 := HRr.out.at_ 5
   have r6 := HRr.out.at_ 6
   have r7 := HRr.out.at_ 7
   simp at r0 r1 r2 r3 r4 r5 r6 r7
   have lr : gr < wr.heap.size := HRr.out.here
   have fr : ∀ i, wr.frozen? ⟨gr, i, none⟩ = false := HRr.out.free
   go_wp2_with fail
   obtain ⟨V, eV⟩ : ∃ V, V = ((((((((wr).setCell ⟨gr, 0, none⟩ (.int .i64 xtk)).setCell ⟨gr, 1, none⟩ (.int .i64 xnb)).setCell ⟨gr, 2, none⟩ (.int .i64 xnj)).setCell ⟨gr, 3, none⟩ (.int .i64 xgx)).setCell ⟨gr, 4, none⟩ (.int .i64 xgy)).setCell ⟨gr, 5, none⟩ (.slice ob' lb cb')).setCell ⟨gr, 6, none⟩ (.slice oj' lj cj')).setCell ⟨gr, 7, none⟩ (.slice oc' lc cc') := ⟨_, rfl⟩
   have hV : Has V gr 42 #[.int .i64 xtk, .int .i64 xnb, .int .i64 xnj, .int .i64 xgx, .int .i64 xgy, .slice ob' lb cb', .slice oj' lj cj', .slice oc' lc cc'] := by rw [eV]; exact Has.put8 HRr.out (.int .i64 xtk) (.int .i64 xnb) (.int .i64 xnj) (.int .i64 xgx) (.int .i64 xgy) (.slice ob' lb cb') (.slice oj' lj cj') (.slice oc' lc cc')
   have kV : Below w.heap.size w V := by
    have kb : BuB (fun b => b = gr) wr V := by rw [eV]; exact (But.put8 (But.rfl_ (fun b => b = gr) wr) (g := gr) (.inl rfl) (.int .i64 xtk) (.int .i64 xnb) (.int .i64 xnj) (.int .i64 xgx) (.int .i64 xgy) (.slice ob' lb cb') (.slice oj' lj cj') (.slice oc' lc cc')).bub
    exact BuB.below_ HKr.out kb HKr.out.size (fun b hb => by have hb : b = gr := hb; omega)
   have kU : BuB (fun b => b = gr) wr V := by rw [eV]; exact (But.put8 (But.rfl_ (fun b => b = gr) wr) (g := gr) (.inl rfl) (.int .i64 xtk) (.int .i64 xnb) (.int .i64 xnj) (.int .i64 xgx) (.int .i64 xgy) (.slice ob' lb cb') (.slice oj' lj cj') (.slice oc' lc cc')).bub
   try rw [← eV]
   clear eV
   have q0 := hV.at_ 0
   have q1 := hV.at_ 1
   have q2 := hV.at_ 2
   have q3 := hV.at_ 3
   have q4 := hV.at_ 4
   have q5 := hV.at_ 5
   have q6 := hV.at_ 6
   have q7 := hV.at_ 7
   simp at q0 q1 q2 q3 q4 q5 q6 q7
   refine bodyPost_ret (v := .tuple #[.agg #[.int .i64 xtk, .int .i64 xnb, .int .i64 xnj, .int .i64 xgx, .int .i64 xgy, .slice ob' lb cb', .slice oj' lj cj', .slice oc' lc cc'], .int .i64 0]) (by simp [results, Tryz.results25, go_sem, q0, q1, q2, q3, q4, q5, q6, q7]) rfl ?_
   refine ⟨0, Gk, .inr (.inr (.inr ⟨H64.out, HAl.out, H62.out, HPr.out 0 Gk (by rw [hkd.out]; exact ⟨rfl, rfl⟩)⟩)), kV, .inr ⟨rfl, HGr.out, HCr.out, ob', oj', oc', cb', cj', cc', ?_, (HL'.out.bub kU (fun b hb => .inr (.inr hb))).free (Y := X0) (fun b hb => .inl (.inl hb))⟩⟩
   obtain ⟨e1, e2, e3, e4, e5, e6, e7, e8⟩ := HEq.out
   rw [e1, e2, e3, e4, e5, e6, e7, e8]
end Go.Proofs.YtjecadafjnbijaaGreat.Fx
/- Plain, for OrderAlls: the same orders on equal worlds; a small batch is never too much. -/
namespace Go.Proofs.YtjecadafjnbijaaGreat.Fx
open Go.ChangeShapes Go.WideShapes Go.ChangeAt Go.RowKit
set_option linter.unusedVariables false
def Room (G : PG) (n : Nat) : Prop := G.P.B.length + n ≤ 1024 ∧ G.P.J.length + n ≤ 1024 ∧ G.P.nb + n ≤ 4611686018427387904 ∧ G.P.nj + n ≤ 4611686018427387904
end Go.Proofs.YtjecadafjnbijaaGreat.Fx
/- OrderFulls, plainly: a full world; removals make room. -/
namespace Go.Proofs.YtjecadafjnbijaaGreat.Fx
open Go.ChangeShapes Go.WideShapes Go.ChangeAt Go.RowKit
set_option linter.unusedVariables false
def circB (i : Nat) : Bd := ⟨(i : Int) + 1, (i : Int) * 17179869184, 0, 0, 0, 0, 0, 0, 1, 4294967296, none, 0, 0, fun _ => (0, 0)⟩
def circs (n : Nat) : List Bd := (List.range n).map circB
theorem circs_next (n : Nat) : circs (n + 1) = circs n ++ [circB n] := by unfold circs; rw [List.range_succ, List.map_append]; rfl
theorem circs_len (n : Nat) : (circs n).length = n := by simp [circs]
def remO (i : Nat) : Or := ⟨2, (i : Int) + 1, 0, 0, 0, 0, 0, 0, 0, 0, 0, 0, 0, 0, none, 0, 0, fun _ => (0, 0)⟩
def addO : Or := ⟨1, 0, 0, 0, 0, 0, 0, 0, 0, 0, 0, 0, 1, 4294967296, none, 0, 0, fun _ => (0, 0)⟩
def gOf (n : Nat) (nb : Int) : PG := ⟨0, 0, 0, ⟨nb, 1, circs n, [], []⟩⟩
abbrev fullG : PG := gOf 1024 1025
theorem gOf_B (n : Nat) (nb : Int) : (gOf n nb).P.B = circs n := rfl
theorem gOf_nb (n : Nat) (nb : Int) : (gOf n nb).P.nb = nb := rfl
theorem gOf_tk (n : Nat) (nb : Int) : (gOf n nb).tk = 0 := rfl
theorem circ_shape : RightP 1 4294967296 0 (fun _ => (0, 0)) := .inl ⟨rfl, rfl, by decide, by decide⟩
theorem circ_ok {i : Nat} (h : i < 1024) : BodyP (circB i) :=
 ⟨circ_shape, by show Inn ((i : Int) * 17179869184) _; unfold Inn; omega, by show Inn 0 _; unfold Inn; simp, by show Inn 0 _; unfold Inn; simp, by show Inn 0 _; unfold Inn; simp, by show Inn 0 _; unfold Inn; simp, by show (0 : Int) ≤ 0 ∧ (0 : Int) ≤ 4294967295; omega, by show (0 : Int) ≤ 0 ∧ (0 : Int) ≤ 4398046511104; omega, fun _ => ⟨rfl, rfl, rfl⟩⟩
theorem circ_i {i : Nat} (h : i < 1024) : BdI (circB i) :=
 ⟨by show I64 ((i : Int) + 1); unfold I64; omega, by show I64 ((i : Int) * 17179869184); unfold I64; omega, i64_0, i64_0, i64_0, i64_0, i64_0, by show I64 0; unfold I64; omega, by show I64 1; unfold I64; omega, by show I64 4294967296; unfold I64; omega, fun i hi => absurd hi (by show ¬ i < 0; omega)⟩
theorem circs_mem {n : Nat} {b : Bd} (h : b ∈ circs n) : ∃ i, i < n ∧ b = circB i := by
 obtain ⟨i, hi, rfl⟩ := List.mem_map.1 h
 exact ⟨i, List.mem_range.1 hi, rfl⟩
theorem circs_ids (n : Nat) : ids (circs n) = (List.range n).map fun i => ((i : Nat) : Int) + 1 := by
 unfold ids circs
 rw [List.map_map]
 rfl
theorem circs_up (n : Nat) : (ids (circs n)).Pairwise (· < ·) := by
 rw [circs_ids, List.pairwise_map]
 exact List.pairwise_lt_range.imp fun h => by omega
theorem circs_in {n : Nat} {x : Int} : x ∈ ids (circs n) ↔ 1 ≤ x ∧ x ≤ n := by
 rw [circs_ids]
 constructor
 ·intro h
  obtain ⟨i, hi, rfl⟩ := List.mem_map.1 h
  have := List.mem_range.1 hi
  omega
 ·intro h
  exact List.mem_map.2 ⟨(x - 1).toNat, List.mem_range.2 (by omega), by omega⟩
theorem full_any (n : Nat) (hn : n ≤ 1024) : GOk (gOf n ((n : Int) + 1)) := by
 have hB : BodiesP (circs n) ((n : Int) + 1) := ⟨by rw [circs_len]; exact hn, fun b hb => by
  obtain ⟨i, hi, rfl⟩ := circs_mem hb
  exact circ_ok (Nat.lt_of_lt_of_le hi hn), ⟨by omega, by omega, circs_up n, fun i hi => by
   have := circs_in.1 (show i ∈ ids (circs n) from hi)
   omega⟩⟩
 have hJ : JointsP (circs n) [] 1 := ⟨by simp, fun j hj => by simp at hj, ⟨by omega, by omega, List.Pairwise.nil, fun i hi => by simp at hi⟩⟩
 have hC : ContactsP (circs n) [] := ⟨fun c hc => by simp at hc, List.Pairwise.nil⟩
 exact ⟨⟨by show (0 : Int) ≤ 0; omega, by show (0 : Int) ≤ 4611686018427387904; omega⟩, by show Inn 0 _; unfold Inn; simp, by show Inn 0 _; unfold Inn; simp, hB, hJ, hC⟩
theorem full_ok : GOk fullG := full_any 1024 (Nat.le_refl _)
theorem remO_ok (i : Nat) : OrderP (remO i) := .inr (.inl ⟨.inl rfl, ⟨by simp [remO], by simp [remO], by simp [remO], by simp [remO]⟩, by show (0 : Int) < (i : Int) + 1; omega, rfl, rfl, ⟨rfl, rfl⟩, ⟨rfl, rfl⟩, rfl, rfl⟩)
theorem addB_body : BodyP (bodyOr addO) :=
 ⟨circ_shape, by show Inn 0 _; unfold Inn; simp, by show Inn 0 _; unfold Inn; simp, by show Inn 0 _; unfold Inn; simp, by show Inn 0 _; unfold Inn; simp, by show Inn 0 _; unfold Inn; simp, by show (0 : Int) ≤ 0 ∧ (0 : Int) ≤ 4294967295; omega, by show (0 : Int) ≤ 0 ∧ (0 : Int) ≤ 4398046511104; omega, fun _ => ⟨rfl, rfl, rfl⟩⟩
theorem addO_ok : OrderP addO := .inl ⟨rfl, rfl, rfl, rfl, rfl, addB_body⟩
theorem filter_len : ∀ {B : List Bd} {id : Int}, (ids B).Pairwise (· < ·) → id ∈ ids B → (B.filter fun x => !goneB id x).length + 1 = B.length
 | [], id, _, h => by simp [ids] at h
 | b :: B, id, hp, h => by
  have hp' : (∀ x ∈ ids B, b.id < x) ∧ (ids B).Pairwise (· < ·) := List.pairwise_cons.1 hp
  by_cases e : b.id = id
  ·have h1 : goneB id b = true := by simp [goneB, e]
   have h2 : B.filter (fun x => !goneB id x) = B := List.filter_eq_self.2 fun x hx => by
    have := hp'.1 x.id (List.mem_map.2 ⟨x, hx, rfl⟩)
    have h3 : goneB id x = false := by simp [goneB]; omega
    rw [h3]; rfl
   rw [List.filter_cons, h1, h2]
   simp
  ·have h1 : goneB id b = false := by simp [goneB, e]
   have h2 : id ∈ ids B := by
    have : id ∈ b.id :: ids B := h
    rcases List.mem_cons.1 this with h | h
    ·exact absurd h.symm e
    ·exact h
   have h3 := filter_len hp'.2 h2
   rw [List.filter_cons, h1]
   simp only [Bool.not_false, if_true, List.length_cons]
   omega
theorem filter_ids {B : List Bd} {id x : Int} : x ∈ ids (B.filter fun x => !goneB id x) ↔ x ∈ ids B ∧ x ≠ id := by
 unfold ids
 constructor
 ·intro h
  obtain ⟨b, hb, rfl⟩ := List.mem_map.1 h
  obtain ⟨h1, h2⟩ := List.mem_filter.1 hb
  refine ⟨List.mem_map.2 ⟨b, h1, rfl⟩, fun e => ?_⟩
  simp [goneB, e] at h2
 ·rintro ⟨h, hne⟩
  obtain ⟨b, hb, rfl⟩ := List.mem_map.1 h
  exact List.mem_map.2 ⟨b, List.mem_filter.2 ⟨hb, by simp [goneB, hne]⟩, rfl⟩
theorem filter_up {B : List Bd} {id : Int} (h : (ids B).Pairwise (· < ·)) : (ids (B.filter fun x => !goneB id x)).Pairwise (· < ·) := by
 unfold ids at *
 exact List.Pairwise.sublist (List.Sublist.map _ List.filter_sublist) h
theorem rems_c : ∀ (k j : Nat) {G G' : PG} {er : Int} {L : List Or}, (ids G.P.B).Pairwise (· < ·) → (∀ i : Nat, j ≤ i → i < j + k → ((i : Int) + 1) ∈ ids G.P.B) → ExecsP ((List.range' j k).map remO ++ L) G er G' →
  ∃ G1, G1.P.B.length + k = G.P.B.length ∧ G1.P.nb = G.P.nb ∧ ExecsP L G1 er G'
 | 0, j, G, G', er, L, _, _, h => ⟨G, rfl, rfl, h⟩
 | k + 1, j, G, G', er, L, hp, hi, h => by
  rw [List.range'_succ, List.map_cons, List.cons_append] at h
  obtain ⟨e1, G1, hx, hr⟩ := h
  obtain ⟨gone, P', hr1, rfl⟩ := exec2_of rfl hx
  have hid : (remO j).id ∈ ids G.P.B := hi j (by omega) (by omega)
  rcases hr1 with ⟨hn, _, _⟩ | ⟨_, _, rfl⟩
  ·exact absurd hid hn
  ·have he : e1 = 0 := by
    rcases hx with ⟨h1, _⟩ | ⟨_, h2, _⟩ | ⟨h1, _⟩ | ⟨h1, _⟩ | ⟨h1, _⟩ | ⟨h1, _⟩
    ·exact absurd h1 (by show ¬ (2 : Int) = 1; decide)
    ·exact h2
    ·exact absurd h1 (by show ¬ (2 : Int) = 3; decide)
    ·exact absurd h1 (by show ¬ (2 : Int) = 4; decide)
    ·exact absurd h1 (by show ¬ (2 : Int) = 5; decide)
    ·exact absurd h1 (by show ¬ (2 : Int) = 6; decide)
   rcases hr with ⟨h1, _⟩ | ⟨_, hr⟩
   ·omega
   ·obtain ⟨G2, a, b, c⟩ := rems_c k (j + 1) (G := ⟨G.tk, G.gx, G.gy, remB G.P (remO j).id⟩) (filter_up hp) (fun i h1 h2 => filter_ids.2 ⟨hi i (by omega) (by omega), by show (i : Int) + 1 ≠ (j : Int) + 1; omega⟩) hr
    have hl := filter_len hp hid
    refine ⟨G2, ?_, b, c⟩
    have a : G2.P.B.length + k = (G.P.B.filter fun x => !goneB (remO j).id x).length := a
    omega
theorem adds_c : ∀ (k : Nat) {G G' : PG} {er : Int}, G.P.B.length + k ≤ 1024 → G.P.nb + k ≤ 4611686018427387904 → ExecsP (List.replicate k addO) G er G' → er = 0 ∧ G'.P.B.length = G.P.B.length + k ∧ G'.P.nb = G.P.nb + k
 | 0, G, G', er, _, _, h => by
  obtain ⟨h1, rfl⟩ := h
  exact ⟨h1, rfl, by simp⟩
 | k + 1, G, G', er, hl, hn, h => by
  rw [List.replicate_succ] at h
  obtain ⟨e1, G1, hx, hr⟩ := h
  obtain ⟨n, P', ha, rfl⟩ := exec1_of rfl hx
  rcases ha with ⟨h1, _⟩ | ⟨_, h1, _⟩ | ⟨_, h1, h2, _, rfl, ao, c, rfl⟩
  ·exact absurd addB_body h1
  ·omega
  ·rcases hr with ⟨h1, _⟩ | ⟨_, hr⟩
   ·exact absurd h1 (by decide)
   ·obtain ⟨a, b, c'⟩ := adds_c k (G := ⟨G.tk, G.gx, G.gy, ⟨G.P.nb + 1, G.P.nj, G.P.B ++ [newB G.P.nb (bodyOr addO) ao c], G.P.J, G.P.C⟩⟩) (by show (G.P.B ++ [_]).length + k ≤ 1024; rw [List.length_append]; show G.P.B.length + 1 + k ≤ 1024; omega) (by show G.P.nb + 1 + (k : Int) ≤ _; omega) hr
    refine ⟨a, ?_, ?_⟩
    ·rw [b]; show (G.P.B ++ [_]).length + k = _; rw [List.length_append]; show G.P.B.length + 1 + k = _; omega
    ·rw [c']; show G.P.nb + 1 + (k : Int) = _; omega
theorem first_any {L : List Or} {G G' : PG} {er : Int} (hl : 1024 ≤ G.P.B.length) (h : ExecsP (addO :: L) G er G') : er = 3 := by
 obtain ⟨e1, G1, hx, hr⟩ := h
 obtain ⟨n, P', ha, rfl⟩ := exec1_of rfl hx
 rcases ha with ⟨h1, _⟩ | ⟨_, _, _, rfl, _⟩ | ⟨_, h1, _⟩
 ·exact absurd addB_body h1
 ·rcases hr with ⟨_, h⟩ | ⟨h, _⟩
  ·exact h
  ·exact absurd rfl h
 ·omega
def fullL (k : Nat) : List Or := (List.range k).map remO ++ List.replicate k addO
theorem fullL_ok {k : Nat} {o : Or} (h : o ∈ fullL k) : OrderP o := by
 rcases List.mem_append.1 h with h | h
 ·obtain ⟨i, _, rfl⟩ := List.mem_map.1 h; exact remO_ok i
 ·rw [(List.mem_replicate.1 h).2]; exact addO_ok
theorem some_any {n k : Nat} (hn : n ≤ 1024) (hk : k ≤ 4) (hkn : k ≤ n) {G G' : PG} {er : Int} (hG : G.P.B = circs n) (ht : G.tk = 0) (h : AfterP (fullL k) G er G') (hnb : G.P.nb ≤ 2000) : er = 0 ∧ G'.P.B.length = n ∧ G'.P.nb = G.P.nb + k := by
 have hl : (fullL k).length = 2 * k := by simp [fullL]; omega
 rcases h with ⟨h1, _⟩ | ⟨_, ⟨o, ho, hno⟩, _⟩ | ⟨_, _, h1, _⟩ | ⟨_, _, _, h⟩
 ·omega
 ·exact absurd (fullL_ok ho) hno
 ·omega
 ·unfold fullL at h
  rw [List.range_eq_range'] at h
  obtain ⟨G1, a, b, c⟩ := rems_c k 0 (by rw [hG]; exact circs_up n) (fun i _ hi => by rw [hG]; exact circs_in.2 (by omega)) h
  rw [hG, circs_len] at a
  obtain ⟨h1, h2, h3⟩ := adds_c k (by omega) (by omega) c
  exact ⟨h1, by omega, by omega⟩
theorem full_some {k : Nat} (hk : k ≤ 4) {G' : PG} {er : Int} (h : AfterP (fullL k) fullG er G') : er = 0 ∧ G'.P.B.length = 1024 ∧ G'.P.nb = 1025 + k :=
 some_any (Nat.le_refl 1024) hk (Nat.le_trans hk (by decide)) (gOf_B 1024 1025) (gOf_tk 1024 1025) h (by rw [gOf_nb]; decide)
theorem none_any {k : Nat} (hk : k ≤ 4) {G G' : PG} {er : Int} (hB : 1024 ≤ G.P.B.length) (ht : G.tk = 0) (h : AfterP (addO :: fullL k) G er G') : er = 3 := by
 have hl : (addO :: fullL k).length = 2 * k + 1 := by simp [fullL]; omega
 rcases h with ⟨h1, _⟩ | ⟨_, ⟨o, ho, hno⟩, _⟩ | ⟨_, _, h1, _⟩ | ⟨_, _, _, h⟩
 ·omega
 ·rcases List.mem_cons.1 ho with rfl | ho
  ·exact absurd addO_ok hno
  ·exact absurd (fullL_ok ho) hno
 ·omega
 ·exact first_any hB h
theorem full_none {k : Nat} (hk : k ≤ 4) {G' : PG} {er : Int} (h : AfterP (addO :: fullL k) fullG er G') : er = 3 :=
 none_any hk (by rw [gOf_B, circs_len]; exact Nat.le_refl _) (gOf_tk 1024 1025) h
end Go.Proofs.YtjecadafjnbijaaGreat.Fx
/- order.All and order.Check of any batch. -/
namespace Go.Proofs.YtjecadafjnbijaaGreat.Fx
open Go.ChangeShapes Go.WideShapes Go.ChangeAt Go.RowKit
set_option linter.unusedVariables false
theorem copy_wls {X1 : Nat → Prop} {w v : World} {ob oj oc ob' oj' oc' : Option Addr} {cb cj cc cb' cj' cc' nB nJ nC : Nat} {B B' : List Bd} {J : List Jt} {C : List Ct} (hL : WLs X1 w ob cb B oj cj J oc cc C) (hl : B'.length = nB) (hB : B.length = nB) (hs : ∀ (i : Nat) b b', B[i]? = some b → B'[i]? = some b' → SameB b b') (h1 : NewL encB 11 35 w v ob' nB cb' B') (h2 : NewL encJ 8 68 w v oj' nJ cj' J) (h3 : NewL encC 5 71 w v oc' nC cc' C) {X : Nat → Prop} (hM : ∀ b ∈ B', Mine X w.heap.size v b) :
  WLs (fun b => b < w.heap.size) v ob' cb' B' oj' cj' J oc' cc' C ∧ EqBs B B' := by
 have hS : SameBs B B' := ⟨hl.trans hB.symm, hs⟩
 refine ⟨⟨⟨h1.ls, h2.ls, h3.ls, fun b hb => ⟨(hM b hb).1, ?_⟩, hL.at_.iJ, hL.at_.iC⟩, h1.slOk, h2.slOk, h3.slOk, fun _ b off s e hb => by have := h1.fresh b off s e; have hb : b < w.heap.size := hb; omega, fun _ b off s e hb => by have := h2.fresh b off s e; have hb : b < w.heap.size := hb; omega, fun _ b off s e hb => by have := h3.fresh b off s e; have hb : b < w.heap.size := hb; omega, fun b hb hn b' off s e hx => ?_, fun b hb => ?_⟩, SameBs.eq hS⟩
 ·obtain ⟨b0, hb0, s⟩ := same_in hS hb
  have hi := (hL.at_.sB b0 hb0).2
  obtain ⟨s0, s1, s2, s3, s4, s5, s6, s7, s8, s9, s10, s11⟩ := s
  exact ⟨by rw [s0]; exact hi.id, by rw [s1]; exact hi.x, by rw [s2]; exact hi.y, by rw [s3]; exact hi.vx, by rw [s4]; exact hi.vy, by rw [s5]; exact hi.an, by rw [s6]; exact hi.sp, by rw [s7]; exact hi.de, by rw [s8]; exact hi.k, by rw [s9]; exact hi.r, by rw [s10, s11]; exact hi.f⟩
 ·have hx : b' < w.heap.size := hx
  rcases (hM b hb).2 with ⟨_, h, _⟩ | ⟨g, e', h, _⟩
  ·omega
  ·rw [e'] at e
   cases e
   omega
 ·rcases (hM b hb).2 with h | ⟨g, e, _⟩
  ·exact .inl h
  ·exact .inr ⟨_, e⟩
theorem oall_c {l : List Or} {ao : Option Addr} {n c nB nJ nC : Nat} {w : World} (tk gx gy nb nj : Int) (B : List Bd) (J : List Jt) (C : List Ct) (ob oj oc : Option Addr) (cb cj cc : Nat) (hn : l.length = n) (hnb : n ≤ 1073741824) (hl : OrsAt w ao l) (hok : ∀ o ∈ l, (o.ao = none ∧ o.n = 0 ∧ o.c = 0) ∨ ∃ a, o.ao = some a)
  (hL : WLs Nil0 w ob cb B oj cj J oc cc C) (hnB : B.length = nB) (hnJ : J.length = nJ) (hnC : C.length = nC) (hG : GOk ⟨tk, gx, gy, ⟨nb, nj, B, J, C⟩⟩) (hC : nC ≤ 1073741824) :
  Calls Tryz.prog 10 #[wdV tk nb nj gx gy (.slice ob nB cb) (.slice oj nJ cj) (.slice oc nC cc), .slice ao n c] w fun e v => ∃ er G', AfterP l ⟨tk, gx, gy, ⟨nb, nj, B, J, C⟩⟩ er G' ∧ Below w.heap.size w v ∧
   ((er ≠ 0 ∧ ∃ ob' oj' oc' cb' cj' cc', e = .returned (.tuple #[wdV 0 0 0 0 0 (.slice ob' 0 cb') (.slice oj' 0 cj') (.slice oc' 0 cc'), .int .i64 er])) ∨
    (er = 0 ∧ GOk G' ∧ G'.P.C.length ≤ nC ∧ ∃ B' ob' oj' oc' cb' cj' cc', EqBs G'.P.B B' ∧ e = .returned (.tuple #[wdV G'.tk G'.P.nb G'.P.nj G'.gx G'.gy (.slice ob' B'.length cb') (.slice oj' G'.P.J.length cj') (.slice oc' G'.P.C.length cc'), .int .i64 0]) ∧ WLs (fun b => b < w.heap.size) v ob' cb' B' oj' cj' G'.P.J oc' cc' G'.P.C)) := by
 obtain ⟨W, eW⟩ : ∃ W, W = (w.alloc (.cells #[.int .i64 tk, .int .i64 nb, .int .i64 nj, .int .i64 gx, .int .i64 gy, .slice ob nB cb, .slice oj nJ cj, .slice oc nC cc] 42)).alloc (.cells #[.int .i64 0, .int .i64 0, .int .i64 0, .int .i64 0, .int .i64 0, .slice none 0 0, .slice none 0 0, .slice none 0 0] 42) := ⟨_, rfl⟩
 have KW : Hid (Made w.heap.size w W) := by unfold Hid; rw [eW]; exact ((Made.rfl_ _ _).cells (Nat.le_refl _) _ _).cells (by simp) _ _
 have HB : Hid (Has W w.heap.size 42 #[.int .i64 tk, .int .i64 nb, .int .i64 nj, .int .i64 gx, .int .i64 gy, .slice ob nB cb, .slice oj nJ cj, .slice oc nC cc]) := by unfold Hid; rw [eW]; exact (has_new _ _ _).more _
 have HR : Hid (Has W (w.heap.size + 1) 42 #[.int .i64 0, .int .i64 0, .int .i64 0, .int .i64 0, .int .i64 0, .slice none 0 0, .slice none 0 0, .slice none 0 0]) := by unfold Hid; rw [eW]; exact has_nxt' _ _ _ _
 obtain ⟨gw, egw⟩ : ∃ g, w.heap.size = g := ⟨_, rfl⟩
 obtain ⟨gr, egr⟩ : ∃ g, gw + 1 = g := ⟨_, rfl⟩
 have hw2 : w.heap.size ≤ gr := by omega
 have hne : ¬ gr = gw := by omega
 rw [egw, egr] at HR
 have hw1 : w.heap.size ≤ gw := Nat.le_of_eq egw
 rw [egw] at HB
 have b0 := HB.out.at_ 0
 have b1 := HB.out.at_ 1
 have b2 := HB.out.at_ 2
 have b3 := HB.out.at_ 3
 have b4 := HB.out.at_ 4
 have b5 := HB.out.at_ 5
 have b6 := HB.out.at_ 6
 have b7 := HB.out.at_ 7
 simp at b0 b1 b2 b3 b4 b5 b6 b7
 have l1 : gw < W.heap.size := HB.out.here
 have HA := hid (after_c (X0 := (fun b => b = gw ∨ b = gr)) (w := W) (c := c) tk gx gy nb nj B J C ob oj oc cb cj cc hn hnb (hl.kept KW.out) hok (fun b hb => by have hb : b = gw ∨ b = gr := hb; have h2 := HR.out.here; omega) ((hL.free (Y := (fun b => b = gw ∨ b = gr)) (fun b hb => .inr (by have hb : b = gw ∨ b = gr := hb; omega))).kept KW.out) hnB hnJ hnC hG hC)
 clear hL hl hok hG hn
 go_enter Tryz.func10, Tryz.ntmps10
 go_upto_region 1 with fail
 rw [← eW]
 clear eW
 try rw [egw]
 try rw [egr]
 clear egw egr
 go_wp2_with fail
 refine HA.out.mono ?_
 rintro e w1 ⟨er, G', haf, hbl0, hres⟩
 have HAf := hid haf
 have hbl : Below W.heap.size W w1 := hbl0
 clear haf hbl0 b0 b1 b2 b3 b4 b5 b6 b7 l1 HA
 rcases hres with ⟨h0, rfl⟩ | ⟨h0, hok', hcl, ob1, oj1, oc1, cb1, cj1, cc1, he, hls⟩
 ·have H0 := hid h0
  clear h0
  have HB1 := hid (HB.out.kept hbl HB.out.here)
  have HR1 := hid (HR.out.kept hbl HR.out.here)
  have HK1 : Hid (Below w.heap.size w w1) := KW.out.1.trans (hbl.mono KW.out.1.size)
  clear hbl HB HR KW
  have b0 := HB1.out.at_ 0
  have b1 := HB1.out.at_ 1
  have b2 := HB1.out.at_ 2
  have b3 := HB1.out.at_ 3
  have b4 := HB1.out.at_ 4
  have b5 := HB1.out.at_ 5
  have b6 := HB1.out.at_ 6
  have b7 := HB1.out.at_ 7
  simp at b0 b1 b2 b3 b4 b5 b6 b7
  have l1 : gw < w1.heap.size := HB1.out.here
  have f1 : ∀ i, w1.frozen? ⟨gw, i, none⟩ = false := HB1.out.free
  obtain ⟨V, eV⟩ : ∃ V, V = ((((((((w1).setCell ⟨gw, 0, none⟩ (.int .i64 0)).setCell ⟨gw, 1, none⟩ (.int .i64 0)).setCell ⟨gw, 2, none⟩ (.int .i64 0)).setCell ⟨gw, 3, none⟩ (.int .i64 0)).setCell ⟨gw, 4, none⟩ (.int .i64 0)).setCell ⟨gw, 5, none⟩ (.slice none 0 0)).setCell ⟨gw, 6, none⟩ (.slice none 0 0)).setCell ⟨gw, 7, none⟩ (.slice none 0 0) := ⟨_, rfl⟩
  have kU : BuB (fun b => b = gw) w1 V := by rw [eV]; exact (But.put8 (But.rfl_ (fun b => b = gw) w1) (g := gw) (.inl rfl) (.int .i64 0) (.int .i64 0) (.int .i64 0) (.int .i64 0) (.int .i64 0) (.slice none 0 0) (.slice none 0 0) (.slice none 0 0)).bub
  have HB2 : Hid (Has V gw 42 #[.int .i64 0, .int .i64 0, .int .i64 0, .int .i64 0, .int .i64 0, .slice none 0 0, .slice none 0 0, .slice none 0 0]) := by unfold Hid; rw [eV]; exact Has.put8 HB1.out (.int .i64 0) (.int .i64 0) (.int .i64 0) (.int .i64 0) (.int .i64 0) (.slice none 0 0) (.slice none 0 0) (.slice none 0 0)
  have HR2 := hid (HR1.out.bub kU hne)
  have HK2 : Hid (Below w.heap.size w V) := BuB.below_ HK1.out kU HK1.out.size (fun b hb => by have hb : b = gw := hb; omega)
  have HEV := hid eV
  have HGR := hid HR2.out.here
  have HCp := hid (wcopy_c 0 0 0 0 0 none none none 0 0 0 0 0 0 (B := []) (J := []) (C := []) (w := V) (ls_new Nil0 V) rfl rfl rfl (by omega) (by omega) (by omega) (fun b hb => by simp at hb))
  clear eV kU
  go_upto_region 2 with fail
  rw [← HEV.out]
  clear b0 b1 b2 b3 b4 b5 b6 b7 l1 f1 HB1 HR1 HEV HK1
  have b0 := HB2.out.at_ 0
  have b1 := HB2.out.at_ 1
  have b2 := HB2.out.at_ 2
  have b3 := HB2.out.at_ 3
  have b4 := HB2.out.at_ 4
  have b5 := HB2.out.at_ 5
  have b6 := HB2.out.at_ 6
  have b7 := HB2.out.at_ 7
  simp at b0 b1 b2 b3 b4 b5 b6 b7
  have l1 : gw < V.heap.size := HB2.out.here
  go_wp2_with fail
  refine HCp.out.mono ?_
  rintro e w3 ⟨B', ob', oj', oc', cb', cj', cc', rfl, k3, hcp⟩
  have HCp2 := hid hcp
  have K3 : Hid (Below w.heap.size w w3) := HK2.out.trans (k3.1.mono HK2.out.size)
  have HR3 := hid (HR2.out.stays k3 HR2.out.here)
  clear k3 hcp b0 b1 b2 b3 b4 b5 b6 b7 l1 HCp HB2 HR2
  have r0 := HR3.out.at_ 0
  have r1 := HR3.out.at_ 1
  have r2 := HR3.out.at_ 2
  have r3 := HR3.out.at_ 3
  have r4 := HR3.out.at_ 4
  have r5 := HR3.out.at_ 5
  have r6 := HR3.out.at_ 6
  have r7 := HR3.out.at_ 7
  simp at r0 r1 r2 r3 r4 r5 r6 r7
  have l2 : gr < w3.heap.size := HR3.out.here
  have f2 : ∀ i, w3.frozen? ⟨gr, i, none⟩ = false := HR3.out.free
  go_wp2_with fail
  obtain ⟨V2, eV2⟩ : ∃ V, V = ((((((((w3).setCell ⟨gr, 0, none⟩ (.int .i64 0)).setCell ⟨gr, 1, none⟩ (.int .i64 0)).setCell ⟨gr, 2, none⟩ (.int .i64 0)).setCell ⟨gr, 3, none⟩ (.int .i64 0)).setCell ⟨gr, 4, none⟩ (.int .i64 0)).setCell ⟨gr, 5, none⟩ (.slice ob' 0 cb')).setCell ⟨gr, 6, none⟩ (.slice oj' 0 cj')).setCell ⟨gr, 7, none⟩ (.slice oc' 0 cc') := ⟨_, rfl⟩
  have hV2 : Has V2 gr 42 #[.int .i64 0, .int .i64 0, .int .i64 0, .int .i64 0, .int .i64 0, .slice ob' 0 cb', .slice oj' 0 cj', .slice oc' 0 cc'] := by rw [eV2]; exact Has.put8 HR3.out (.int .i64 0) (.int .i64 0) (.int .i64 0) (.int .i64 0) (.int .i64 0) (.slice ob' 0 cb') (.slice oj' 0 cj') (.slice oc' 0 cc')
  have kU2 : BuB (fun b => b = gr) w3 V2 := by rw [eV2]; exact (But.put8 (But.rfl_ (fun b => b = gr) w3) (g := gr) (.inl rfl) (.int .i64 0) (.int .i64 0) (.int .i64 0) (.int .i64 0) (.int .i64 0) (.slice ob' 0 cb') (.slice oj' 0 cj') (.slice oc' 0 cc')).bub
  have kV2 : Below w.heap.size w V2 := BuB.below_ K3.out kU2 K3.out.size (fun b hb => by have hb : b = gr := hb; omega)
  try rw [← eV2]
  clear eV2
  have q0 := hV2.at_ 0
  have q1 := hV2.at_ 1
  have q2 := hV2.at_ 2
  have q3 := hV2.at_ 3
  have q4 := hV2.at_ 4
  have q5 := hV2.at_ 5
  have q6 := hV2.at_ 6
  have q7 := hV2.at_ 7
  simp at q0 q1 q2 q3 q4 q5 q6 q7
  refine bodyPost_ret (v := .tuple #[.agg #[.int .i64 0, .int .i64 0, .int .i64 0, .int .i64 0, .int .i64 0, .slice ob' 0 cb', .slice oj' 0 cj', .slice oc' 0 cc'], .int .i64 er]) (by simp [results, Tryz.results10, go_sem, q0, q1, q2, q3, q4, q5, q6, q7]) rfl ?_
  exact ⟨er, G', HAf.out, kV2, .inl ⟨H0.out, ob', oj', oc', cb', cj', cc', rfl⟩⟩
 ·subst h0
  have HGk := hid hok'
  have HCl := hid hcl
  have HL1 := hid hls
  clear hok' hcl hls
  obtain ⟨xtk, extk⟩ : ∃ z, G'.tk = z := ⟨_, rfl⟩
  obtain ⟨xnb, exnb⟩ : ∃ z, G'.P.nb = z := ⟨_, rfl⟩
  obtain ⟨xnj, exnj⟩ : ∃ z, G'.P.nj = z := ⟨_, rfl⟩
  obtain ⟨xgx, exgx⟩ : ∃ z, G'.gx = z := ⟨_, rfl⟩
  obtain ⟨xgy, exgy⟩ : ∃ z, G'.gy = z := ⟨_, rfl⟩
  obtain ⟨lb, elb⟩ : ∃ z, G'.P.B.length = z := ⟨_, rfl⟩
  obtain ⟨lj, elj⟩ : ∃ z, G'.P.J.length = z := ⟨_, rfl⟩
  obtain ⟨lc, elc⟩ : ∃ z, G'.P.C.length = z := ⟨_, rfl⟩
  rw [extk, exnb, exnj, exgx, exgy, elb, elj, elc] at he
  subst he
  have HEq := hid (And.intro extk (And.intro exnb (And.intro exnj (And.intro exgx (And.intro exgy (And.intro elb (And.intro elj elc)))))))
  clear extk exnb exnj exgx exgy elb elj elc
  have HB1 := hid (HB.out.kept hbl HB.out.here)
  have HR1 := hid (HR.out.kept hbl HR.out.here)
  have HK1 : Hid (Below w.heap.size w w1) := KW.out.1.trans (hbl.mono KW.out.1.size)
  clear hbl HB HR KW
  have b0 := HB1.out.at_ 0
  have b1 := HB1.out.at_ 1
  have b2 := HB1.out.at_ 2
  have b3 := HB1.out.at_ 3
  have b4 := HB1.out.at_ 4
  have b5 := HB1.out.at_ 5
  have b6 := HB1.out.at_ 6
  have b7 := HB1.out.at_ 7
  simp at b0 b1 b2 b3 b4 b5 b6 b7
  have l1 : gw < w1.heap.size := HB1.out.here
  have f1 : ∀ i, w1.frozen? ⟨gw, i, none⟩ = false := HB1.out.free
  obtain ⟨V, eV⟩ : ∃ V, V = ((((((((w1).setCell ⟨gw, 0, none⟩ (.int .i64 xtk)).setCell ⟨gw, 1, none⟩ (.int .i64 xnb)).setCell ⟨gw, 2, none⟩ (.int .i64 xnj)).setCell ⟨gw, 3, none⟩ (.int .i64 xgx)).setCell ⟨gw, 4, none⟩ (.int .i64 xgy)).setCell ⟨gw, 5, none⟩ (.slice ob1 lb cb1)).setCell ⟨gw, 6, none⟩ (.slice oj1 lj cj1)).setCell ⟨gw, 7, none⟩ (.slice oc1 lc cc1) := ⟨_, rfl⟩
  have kU : BuB (fun b => b = gw) w1 V := by rw [eV]; exact (But.put8 (But.rfl_ (fun b => b = gw) w1) (g := gw) (.inl rfl) (.int .i64 xtk) (.int .i64 xnb) (.int .i64 xnj) (.int .i64 xgx) (.int .i64 xgy) (.slice ob1 lb cb1) (.slice oj1 lj cj1) (.slice oc1 lc cc1)).bub
  have HB2 : Hid (Has V gw 42 #[.int .i64 xtk, .int .i64 xnb, .int .i64 xnj, .int .i64 xgx, .int .i64 xgy, .slice ob1 lb cb1, .slice oj1 lj cj1, .slice oc1 lc cc1]) := by unfold Hid; rw [eV]; exact Has.put8 HB1.out (.int .i64 xtk) (.int .i64 xnb) (.int .i64 xnj) (.int .i64 xgx) (.int .i64 xgy) (.slice ob1 lb cb1) (.slice oj1 lj cj1) (.slice oc1 lc cc1)
  have HR2 := hid (HR1.out.bub kU hne)
  have HK2 : Hid (Below w.heap.size w V) := BuB.below_ HK1.out kU HK1.out.size (fun b hb => by have hb : b = gw := hb; omega)
  have HEV := hid eV
  have HGR := hid HR2.out.here
  have HL2 : Hid (WLs (fun b => b = gw ∨ b = gr) V ob1 cb1 G'.P.B oj1 cj1 G'.P.J oc1 cc1 G'.P.C) := HL1.out.bub kU (fun b hb => .inl hb)
  have hcb : lb ≤ 1024 := by rw [← HEq.out.2.2.2.2.2.1]; exact HGk.out.hB.len
  have hcj : lj ≤ 1024 := by rw [← HEq.out.2.2.2.2.2.2.1]; exact HGk.out.hJ.len
  have hcc : lc ≤ nC := by rw [← HEq.out.2.2.2.2.2.2.2]; exact HCl.out
  have HCp := hid (wcopy_c xtk xnb xnj xgx xgy ob1 oj1 oc1 lb cb1 lj cj1 lc cc1 (w := V) HL2.out HEq.out.2.2.2.2.2.1 HEq.out.2.2.2.2.2.2.1 HEq.out.2.2.2.2.2.2.2 (by omega) (by omega) (by omega) (fun b hb => right_n (HGk.out.hB.all b hb).shape))
  clear eV kU
  go_upto_region 2 with fail
  rw [← HEV.out]
  clear b0 b1 b2 b3 b4 b5 b6 b7 l1 f1 HB1 HR1 HEV HK1
  have b0 := HB2.out.at_ 0
  have b1 := HB2.out.at_ 1
  have b2 := HB2.out.at_ 2
  have b3 := HB2.out.at_ 3
  have b4 := HB2.out.at_ 4
  have b5 := HB2.out.at_ 5
  have b6 := HB2.out.at_ 6
  have b7 := HB2.out.at_ 7
  simp at b0 b1 b2 b3 b4 b5 b6 b7
  have l1 : gw < V.heap.size := HB2.out.here
  go_wp2_with fail
  refine HCp.out.mono ?_
  rintro e w3 ⟨B', ob', oj', oc', cb', cj', cc', rfl, k3, hcp⟩
  have HCp2 := hid hcp
  have K3 : Hid (Below w.heap.size w w3) := HK2.out.trans (k3.1.mono HK2.out.size)
  have HR3 := hid (HR2.out.stays k3 HR2.out.here)
  clear k3 hcp b0 b1 b2 b3 b4 b5 b6 b7 l1 HCp HB2 HR2
  have r0 := HR3.out.at_ 0
  have r1 := HR3.out.at_ 1
  have r2 := HR3.out.at_ 2
  have r3 := HR3.out.at_ 3
  have r4 := HR3.out.at_ 4
  have r5 := HR3.out.at_ 5
  have r6 := HR3.out.at_ 6
  have r7 := HR3.out.at_ 7
  simp at r0 r1 r2 r3 r4 r5 r6 r7
  have l2 : gr < w3.heap.size := HR3.out.here
  have f2 : ∀ i, w3.frozen? ⟨gr, i, none⟩ = false := HR3.out.free
  go_wp2_with fail
  obtain ⟨V2, eV2⟩ : ∃ V, V = ((((((((w3).setCell ⟨gr, 0, none⟩ (.int .i64 xtk)).setCell ⟨gr, 1, none⟩ (.int .i64 xnb)).setCell ⟨gr, 2, none⟩ (.int .i64 xnj)).setCell ⟨gr, 3, none⟩ (.int .i64 xgx)).setCell ⟨gr, 4, none⟩ (.int .i64 xgy)).setCell ⟨gr, 5, none⟩ (.slice ob' lb cb')).setCell ⟨gr, 6, none⟩ (.slice oj' lj cj')).setCell ⟨gr, 7, none⟩ (.slice oc' lc cc') := ⟨_, rfl⟩
  have hV2 : Has V2 gr 42 #[.int .i64 xtk, .int .i64 xnb, .int .i64 xnj, .int .i64 xgx, .int .i64 xgy, .slice ob' lb cb', .slice oj' lj cj', .slice oc' lc cc'] := by rw [eV2]; exact Has.put8 HR3.out (.int .i64 xtk) (.int .i64 xnb) (.int .i64 xnj) (.int .i64 xgx) (.int .i64 xgy) (.slice ob' lb cb') (.slice oj' lj cj') (.slice oc' lc cc')
  have kU2 : BuB (fun b => b = gr) w3 V2 := by rw [eV2]; exact (But.put8 (But.rfl_ (fun b => b = gr) w3) (g := gr) (.inl rfl) (.int .i64 xtk) (.int .i64 xnb) (.int .i64 xnj) (.int .i64 xgx) (.int .i64 xgy) (.slice ob' lb cb') (.slice oj' lj cj') (.slice oc' lc cc')).bub
  have kV2 : Below w.heap.size w V2 := BuB.below_ K3.out kU2 K3.out.size (fun b hb => by have hb : b = gr := hb; omega)
  try rw [← eV2]
  clear eV2
  have q0 := hV2.at_ 0
  have q1 := hV2.at_ 1
  have q2 := hV2.at_ 2
  have q3 := hV2.at_ 3
  have q4 := hV2.at_ 4
  have q5 := hV2.at_ 5
  have q6 := hV2.at_ 6
  have q7 := hV2.at_ 7
  simp at q0 q1 q2 q3 q4 q5 q6 q7
  refine bodyPost_ret (v := .tuple #[.agg #[.int .i64 xtk, .int .i64 xnb, .int .i64 xnj, .int .i64 xgx, .int .i64 xgy, .slice ob' lb cb', .slice oj' lj cj', .slice oc' lc cc'], .int .i64 0]) (by simp [results, Tryz.results10, go_sem, q0, q1, q2, q3, q4, q5, q6, q7]) rfl ?_
  obtain ⟨h1, h2, h3, h4, h5, h6, h7⟩ := HCp2.out
  obtain ⟨e1, e2, e3, e4, e5, e6, e7, e8⟩ := HEq.out
  obtain ⟨hw, heq⟩ := copy_wls HL2.out h1 e6 h2 h3 h4 h5 h7
  refine ⟨0, G', HAf.out, kV2, .inr ⟨rfl, HGk.out, HCl.out, B', ob', oj', oc', cb', cj', cc', heq, ?_, (hw.bub kU2 (fun b hb => by have hb : b = gr := hb; have h := HGR.out; show b < V.heap.size; omega)).free (Y := fun b => b < w.heap.size) (fun b hb => .inl (Nat.lt_of_lt_of_le hb HK2.out.size))⟩⟩
  rw [e1, e2, e3, e4, e5, e7, e8, h1]
theorem ocheck_c {l : List Or} {ao : Option Addr} {n c nB nJ nC : Nat} {w : World} (tk gx gy nb nj : Int) (B : List Bd) (J : List Jt) (C : List Ct) (ob oj oc : Option Addr) (cb cj cc : Nat) (hn : l.length = n) (hnb : n ≤ 1073741824) (hl : OrsAt w ao l) (hok : ∀ o ∈ l, (o.ao = none ∧ o.n = 0 ∧ o.c = 0) ∨ ∃ a, o.ao = some a)
  (hL : WLs Nil0 w ob cb B oj cj J oc cc C) (hnB : B.length = nB) (hnJ : J.length = nJ) (hnC : C.length = nC) (hG : GOk ⟨tk, gx, gy, ⟨nb, nj, B, J, C⟩⟩) (hC : nC ≤ 1073741824) :
  Calls Tryz.prog 11 #[wdV tk nb nj gx gy (.slice ob nB cb) (.slice oj nJ cj) (.slice oc nC cc), .slice ao n c] w fun e v => ∃ er G', e = .returned (.int .i64 er) ∧ AfterP l ⟨tk, gx, gy, ⟨nb, nj, B, J, C⟩⟩ er G' ∧ Below w.heap.size w v := by
 obtain ⟨W, eW⟩ : ∃ W, W = (w.alloc (.cells #[.int .i64 tk, .int .i64 nb, .int .i64 nj, .int .i64 gx, .int .i64 gy, .slice ob nB cb, .slice oj nJ cj, .slice oc nC cc] 42)) := ⟨_, rfl⟩
 have KW : Hid (Made w.heap.size w W) := by unfold Hid; rw [eW]; exact (Made.rfl_ _ _).cells (Nat.le_refl _) _ _
 have HB : Hid (Has W w.heap.size 42 #[.int .i64 tk, .int .i64 nb, .int .i64 nj, .int .i64 gx, .int .i64 gy, .slice ob nB cb, .slice oj nJ cj, .slice oc nC cc]) := by unfold Hid; rw [eW]; exact has_new _ _ _
 obtain ⟨gw, egw⟩ : ∃ g, w.heap.size = g := ⟨_, rfl⟩
 have hw1 : w.heap.size ≤ gw := Nat.le_of_eq egw
 rw [egw] at HB
 have b0 := HB.out.at_ 0
 have b1 := HB.out.at_ 1
 have b2 := HB.out.at_ 2
 have b3 := HB.out.at_ 3
 have b4 := HB.out.at_ 4
 have b5 := HB.out.at_ 5
 have b6 := HB.out.at_ 6
 have b7 := HB.out.at_ 7
 simp at b0 b1 b2 b3 b4 b5 b6 b7
 have l1 : gw < W.heap.size := HB.out.here
 have HA := hid (after_c (X0 := (fun b => b = gw)) (w := W) (c := c) tk gx gy nb nj B J C ob oj oc cb cj cc hn hnb (hl.kept KW.out) hok (fun b hb => by have hb : b = gw := hb; omega) ((hL.free (Y := (fun b => b = gw)) (fun b hb => .inr (by have hb : b = gw := hb; omega))).kept KW.out) hnB hnJ hnC hG hC)
 clear hL hl hok hG hn
 go_enter Tryz.func11, Tryz.ntmps11
 go_upto_region 1 with fail
 rw [← eW]
 clear eW
 try rw [egw]
 clear egw
 go_wp2_with fail
 refine HA.out.mono ?_
 rintro e w1 ⟨er, G', haf, hbl0, hres⟩
 have HAf := hid haf
 have hbl : Below W.heap.size W w1 := hbl0
 clear haf hbl0 b0 b1 b2 b3 b4 b5 b6 b7 l1 HA
 have HK1 : Hid (Below w.heap.size w w1) := KW.out.1.trans (hbl.mono KW.out.1.size)
 clear hbl HB KW
 rcases hres with ⟨h0, rfl⟩ | ⟨h0, _, _, ob1, oj1, oc1, cb1, cj1, cc1, rfl, _⟩
 ·clear h0
  go_wp2_with fail
  go_ret
  exact ⟨er, G', rfl, HAf.out, HK1.out.alloc HK1.out.size _⟩
 ·subst h0
  go_wp2_with fail
  go_ret
  exact ⟨0, G', rfl, HAf.out, HK1.out.alloc HK1.out.size _⟩
end Go.Proofs.YtjecadafjnbijaaGreat.Fx