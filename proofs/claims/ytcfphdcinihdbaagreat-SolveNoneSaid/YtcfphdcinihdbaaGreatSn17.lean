/- WlN WlO WlP WlR -/
import Derived.Test.YtcfphdcinihdbaaGreatSn11
import Derived.Test.YtcfphdcinihdbaaGreatSn16
import Derived.Deep.MidRow
import Derived.Deep.LoopGhost
import Derived.LoopN
import Derived.WalkMore
set_option maxRecDepth 100000
set_option maxHeartbeats 64000000
/- Made; the anchor. -/
namespace Go.Proofs.YtcfphdcinihdbaaGreat.Fx
open Go.ChangeShapes Go.WideShapes Go.ChangeAt Go.RowKit
set_option linter.unusedVariables false
theorem encD_one (x : De) : ∀ v ∈ encD x, v.oneCell' = true := by
 intro v hv; simp [encD] at hv; rcases hv with rfl | rfl | rfl | rfl | rfl | rfl | rfl | rfl | rfl | rfl | rfl | rfl | rfl | rfl | rfl | rfl | rfl | rfl | rfl | rfl | rfl | rfl | rfl | rfl | rfl | rfl | rfl | rfl | rfl | rfl <;> rfl
def DesAt (w : World) (ao : Option Addr) (l : List De) : Prop := LsT encD 30 w ao l ∧ ∀ d ∈ l, DeI d ∧ Sl w d.rao d.rn d.rf
theorem DesAt.kept {w v : World} {ao : Option Addr} {l : List De} (h : DesAt w ao l) (k : Made w.heap.size w v) : DesAt v ao l :=
 ⟨h.1.below k.1, fun d hd => ⟨(h.2 d hd).1, fun hn => by obtain ⟨b, off, e, hp⟩ := (h.2 d hd).2 hn; exact ⟨b, off, e, hp.kept k⟩⟩⟩
def Small (P : PW) (m : Nat) : Prop := P.C = [] ∧ P.B.length ≤ m ∧ P.J.length ≤ m ∧ P.nb ≤ 1 + m ∧ P.nj ≤ 1 + m
theorem step_small {b : Bd} {j : Jt} {K id n e : Int} {gone : Bool} {P P' : PW} {m : Nat} (h : Small P m) (k : StepP b j K id P n e gone P') : Small P' (m + 1) := by
 obtain ⟨h1, h2, h3, h4, h5⟩ := h
 have same : Small P (m + 1) := ⟨h1, by omega, by omega, by omega, by omega⟩
 rcases k with ⟨_, _, k⟩ | ⟨_, _, _, k⟩ | ⟨_, _, _, k⟩ | ⟨_, _, k⟩
 ·rcases k with ⟨_, _, _, rfl⟩ | ⟨_, _, _, _, rfl⟩ | ⟨_, _, _, _, _, rfl⟩ | ⟨_, _, _, _, _, _, rfl⟩
  ·exact same
  ·exact same
  ·exact same
  ·exact ⟨h1, by simp only []; omega, by simp only [List.length_append, List.length_singleton]; omega, by simp only []; omega, by simp only []; omega⟩
 ·rcases k with ⟨_, _, rfl⟩ | ⟨_, _, rfl⟩
  ·exact same
  ·refine ⟨by simp [remB, h1], ?_, ?_, ?_, ?_⟩
   ·exact Nat.le_trans (List.length_filter_le _ _) (by omega)
   ·exact Nat.le_trans (List.length_filter_le _ _) (by omega)
   ·show P.nb ≤ _; omega
   ·show P.nj ≤ _; omega
 ·rcases k with ⟨_, _, rfl⟩ | ⟨_, _, rfl⟩
  ·exact same
  ·refine ⟨h1, ?_, ?_, ?_, ?_⟩
   ·show P.B.length ≤ _; omega
   ·exact Nat.le_trans (List.length_filter_le _ _) (by omega)
   ·show P.nb ≤ _; omega
   ·show P.nj ≤ _; omega
 ·rcases k with ⟨_, _, _, rfl⟩ | ⟨_, _, _, _, rfl⟩ | ⟨_, _, _, _, _, ao, c, rfl⟩
  ·exact same
  ·exact same
  ·exact ⟨h1, by simp only [List.length_append, List.length_singleton]; omega, by simp only []; omega, by simp only []; omega, by simp only []; omega⟩
def WVal (X : Nat → Prop) (v : World) (val : Value) (P : PW) : Prop := ∃ ob oj oc cb cj cc, val = wdV 0 P.nb P.nj 0 0 (.slice ob P.B.length cb) (.slice oj P.J.length cj) (.slice oc P.C.length cc) ∧ WLs X v ob cb P.B oj cj P.J oc cc P.C
theorem WLs.free {X Y : Nat → Prop} {w : World} {ob oj oc : Option Addr} {cb cj cc : Nat} {B : List Bd} {J : List Jt} {C : List Ct} (h : WLs X w ob cb B oj cj J oc cc C) (hY : ∀ b, Y b → X b ∨ w.heap.size ≤ b) : WLs Y w ob cb B oj cj J oc cc C := by
 have key : ∀ {α : Type} {enc : α → List Value} {k : Nat} {ao : Option Addr} {l : List α}, LsT enc k w ao l → (0 < l.length → Offs X ao) → 0 < l.length → Offs Y ao := fun hl hx h0 b off s e hb => by
  obtain ⟨b', off', e', hlt, _⟩ := hl h0
  rcases hY b hb with h1 | h1
  ·exact hx h0 b off s e h1
  ·rw [e] at e'
   cases e'
   omega
 refine ⟨h.at_, h.okB, h.okJ, h.okC, key h.at_.lB h.offB, key h.at_.lJ h.offJ, key h.at_.lC h.offC, fun b hb hn b' off s e hx => ?_, h.okP⟩
 obtain ⟨b'', off'', e', hp⟩ := (h.at_.sB b hb).1 hn
 have hlt := hp.here hn
 rw [e] at e'
 cases e'
 rcases hY b' hx with h1 | h1
 ·exact h.offP b hb hn _ _ _ e h1
 ·omega
theorem WVal.kept {X : Nat → Prop} {w v : World} {val : Value} {P : PW} (h : WVal X w val P) (k : Made w.heap.size w v) : WVal X v val P := by
 obtain ⟨ob, oj, oc, cb, cj, cc, e, hL⟩ := h
 exact ⟨ob, oj, oc, cb, cj, cc, e, hL.kept k⟩
def WVal0 (X : Nat → Prop) (v : World) (val : Value) (P : PW) : Prop := ∃ ob oj cb cj, val = wdV 0 P.nb P.nj 0 0 (.slice ob P.B.length cb) (.slice oj P.J.length cj) (.slice none P.C.length 0) ∧ WLs X v ob cb P.B oj cj P.J none 0 P.C
theorem WVal0.up {X : Nat → Prop} {v : World} {val : Value} {P : PW} (h : WVal0 X v val P) : WVal X v val P := by
 obtain ⟨ob, oj, cb, cj, e, hL⟩ := h
 exact ⟨ob, oj, none, cb, cj, 0, e, hL⟩
theorem WV0.open {X : Nat → Prop} {w : World} {gw : Nat} {P : PW} (h : WV0 X w gw P) : ∃ ob oj oc cb cj cc, (oc = none ∧ cc = 0) ∧ Has w gw 32 #[.int .i64 0, .int .i64 P.nb, .int .i64 P.nj, .int .i64 0, .int .i64 0, .slice ob P.B.length cb, .slice oj P.J.length cj, .slice oc P.C.length cc] ∧ WLs X w ob cb P.B oj cj P.J oc cc P.C := by
 obtain ⟨ob, oj, cb, cj, hH, hL⟩ := h
 exact ⟨ob, oj, none, cb, cj, 0, ⟨rfl, rfl⟩, hH, hL⟩
theorem ls_new (X : Nat → Prop) (w : World) : WLs X w none 0 [] none 0 [] none 0 [] :=
 ⟨⟨fun h => absurd h (by simp), fun h => absurd h (by simp), fun h => absurd h (by simp), fun b hb => by simp at hb, fun b hb => by simp at hb, fun b hb => by simp at hb⟩, ⟨Nat.le_refl _, by unfold maxLen; omega, .inl ⟨rfl, rfl, rfl⟩⟩, ⟨Nat.le_refl _, by unfold maxLen; omega, .inl ⟨rfl, rfl, rfl⟩⟩, ⟨Nat.le_refl _, by unfold maxLen; omega, .inl ⟨rfl, rfl, rfl⟩⟩,
  fun h => absurd h (by simp), fun h => absurd h (by simp), fun h => absurd h (by simp), fun b hb => by simp at hb, fun b hb => by simp at hb⟩
theorem Small.mono {P : PW} {k m : Nat} (h : Small P k) (hm : k ≤ m) : Small P m := ⟨h.1, by have := h.2.1; omega, by have := h.2.2.1; omega, by have := h.2.2.2.1; omega, by have := h.2.2.2.2; omega⟩
theorem made_0 {l : List De} {ao : Option Addr} {n c : Nat} {w : World} (most : Nat) (hmost : most ≤ 64) (hn : l.length = n) (hD : DesAt w ao l) (hnc : n ≤ c) (hcm : c ≤ maxLen) (ho : (ao = none ∧ n = 0 ∧ c = 0) ∨ ∃ a, ao = some a) :
  Calls Tryz.prog 21 #[.slice ao n c, .int .i64 (most : Nat)] w fun e v => ∃ P val, e = .returned val ∧ WVal0 Nil0 v val P ∧ POk P ∧ Small P most ∧ Made w.heap.size w v := by
 unfold maxLen at hcm
 obtain ⟨m, em⟩ : ∃ m, min n most = m := ⟨_, rfl⟩
 have hmm : min (n : Int) (most : Int) = (m : Int) := by omega
 have hmn : m ≤ n := by omega
 have hmo : m ≤ most := by omega
 have HN := hid hn
 have HD := hid (fun v (k : Made w.heap.size w v) => hD.kept k)
 have HLs := hid hD.1
 obtain ⟨W, eW⟩ : ∃ W, W = w.alloc (.cells #[.int .i64 0, .int .i64 0, .int .i64 0, .int .i64 0, .int .i64 0, .slice none 0 0, .slice none 0 0, .slice none 0 0] 32) := ⟨_, rfl⟩
 have KW : Hid (Made w.heap.size w W) := by unfold Hid; rw [eW]; exact (Made.rfl_ _ _).cells (Nat.le_refl _) _ _
 have HR : Hid (Has W w.heap.size 32 #[.int .i64 0, .int .i64 0, .int .i64 0, .int .i64 0, .int .i64 0, .slice none 0 0, .slice none 0 0, .slice none 0 0]) := by unfold Hid; rw [eW]; exact has_new _ _ _
 obtain ⟨gr, egr⟩ : ∃ g, w.heap.size = g := ⟨_, rfl⟩
 rw [egr] at HR
 clear hn hD em
 go_enter Tryz.func21, Tryz.ntmps21
 go_upto_region 1 with fail
 rw [← eW]
 clear eW
 try rw [egr]
 go_wp2_with fail
 refine (new_c _).mono ?_
 rintro e w1 ⟨rfl, k1⟩
 have K1 := hid (KW.out.then_ (k1.low KW.out.1.size))
 have HR1 := hid (HR.out.stays k1 HR.out.here)
 clear k1 KW HR
 obtain ⟨W2, eW2⟩ : ∃ V, V = w1.alloc (.cells #[.int .i64 0, .int .i64 1, .int .i64 1, .int .i64 0, .int .i64 0, .slice none 0 0, .slice none 0 0, .slice none 0 0] 32) := ⟨_, rfl⟩
 have K2 : Hid (Made w.heap.size w W2) := by unfold Hid; rw [eW2]; exact K1.out.cells K1.out.1.size _ _
 have HR2 : Hid (Has W2 gr 32 #[.int .i64 0, .int .i64 0, .int .i64 0, .int .i64 0, .int .i64 0, .slice none 0 0, .slice none 0 0, .slice none 0 0]) := by unfold Hid; rw [eW2]; exact HR1.out.more _
 have HM2 : Hid (Has W2 w1.heap.size 32 #[.int .i64 0, .int .i64 1, .int .i64 1, .int .i64 0, .int .i64 0, .slice none 0 0, .slice none 0 0, .slice none 0 0]) := by unfold Hid; rw [eW2]; exact has_new _ _ _
 have hgm : gr < w1.heap.size := HR1.out.here
 obtain ⟨gm, egm⟩ : ∃ g, w1.heap.size = g := ⟨_, rfl⟩
 rw [egm] at HM2 hgm
 have HV2 : Hid (WV0 (fun b => b = gr ∨ b = gm) W2 gm ⟨1, 1, [], [], []⟩) := ⟨none, none, 0, 0, HM2.out, ls_new _ _⟩
 clear K1 HR1
 go_upto_region 2 with fail
 rw [← eW2]
 clear eW2
 try rw [egm]
 rcases ho with ⟨rfl, rfl, rfl⟩ | ⟨adr, rfl⟩
 ·have hm0 : m = 0 := by omega
  subst hm0
  go_wp2_with fail
  go_loopg [7, 16] 0 (fun gg s7 s16 wx => ∃ (k : Nat) (P : PW), k + gg = 0 ∧ s16 = .int .i64 (k : Nat) ∧ Hid ((Made w.heap.size w wx ∧ Has wx gr 32 #[.int .i64 0, .int .i64 0, .int .i64 0, .int .i64 0, .int .i64 0, .slice none 0 0, .slice none 0 0, .slice none 0 0]) ∧ WV0 (fun b => b = gr ∨ b = gm) wx gm P ∧ (POk P ∧ Small P k)))
  case atStart => exact ⟨0, ⟨1, 1, [], [], []⟩, rfl, rfl, ⟨K2.out, HR2.out⟩, HV2.out, ok_new, rfl, Nat.le_refl _, Nat.le_refl _, by show (1 : Int) ≤ _; omega, by show (1 : Int) ≤ _; omega⟩
  case round =>
   obtain ⟨k, P, hk, rfl, HB⟩ := hrel
   have hk0 : k = 0 := by omega
   subst hk0
   obtain ⟨ob, oj, oc, cb, cj, cc, hoc, hH, hL⟩ := WV0.open HB.out.2.1
   have HOC := hid hoc
   clear hoc
   have HL := hid hL
   have HH := hid hH
   obtain ⟨pB, eB⟩ : ∃ m, P.B.length = m := ⟨_, rfl⟩
   obtain ⟨pJ, eJ⟩ : ∃ m, P.J.length = m := ⟨_, rfl⟩
   obtain ⟨pC, eC⟩ : ∃ m, P.C.length = m := ⟨_, rfl⟩
   obtain ⟨pb, eb⟩ : ∃ m, P.nb = m := ⟨_, rfl⟩
   obtain ⟨pj, ej⟩ : ∃ m, P.nj = m := ⟨_, rfl⟩
   rw [eB, eJ, eC, eb, ej] at HH
   have HE := hid (And.intro eB (And.intro eJ (And.intro eC (And.intro eb ej))))
   have HR1 := hid (HB.out.1.2)
   have HM1 := hid (HB.out.1.1)
   have HPk := hid HB.out.2.2
   clear hH hL HB eB eJ eC eb ej
   have b0 := HH.out.at_ 0
   have b1 := HH.out.at_ 1
   have b2 := HH.out.at_ 2
   have b3 := HH.out.at_ 3
   have b4 := HH.out.at_ 4
   have b5 := HH.out.at_ 5
   have b6 := HH.out.at_ 6
   have b7 := HH.out.at_ 7
   simp at b0 b1 b2 b3 b4 b5 b6 b7
   have lm : gm < wr.heap.size := HH.out.here
   have c0 := HR1.out.at_ 0
   have c1 := HR1.out.at_ 1
   have c2 := HR1.out.at_ 2
   have c3 := HR1.out.at_ 3
   have c4 := HR1.out.at_ 4
   have c5 := HR1.out.at_ 5
   have c6 := HR1.out.at_ 6
   have c7 := HR1.out.at_ 7
   simp at c0 c1 c2 c3 c4 c5 c6 c7
   have lr : gr < wr.heap.size := HR1.out.here
   have fr : ∀ i, wr.frozen? ⟨gr, i, none⟩ = false := HR1.out.free
   go_wp2_with fail
   obtain ⟨V, eV⟩ : ∃ V, V = (((((((wr.setCell ⟨gr, 0, none⟩ (.int .i64 0)).setCell ⟨gr, 1, none⟩ (.int .i64 pb)).setCell ⟨gr, 2, none⟩ (.int .i64 pj)).setCell ⟨gr, 3, none⟩ (.int .i64 0)).setCell ⟨gr, 4, none⟩ (.int .i64 0)).setCell ⟨gr, 5, none⟩ (.slice ob pB cb)).setCell ⟨gr, 6, none⟩ (.slice oj pJ cj)).setCell ⟨gr, 7, none⟩ (.slice oc pC cc) := ⟨_, rfl⟩
   have hV : Has V gr 32 #[.int .i64 0, .int .i64 pb, .int .i64 pj, .int .i64 0, .int .i64 0, .slice ob pB cb, .slice oj pJ cj, .slice oc pC cc] := by rw [eV]; exact (((((((HR1.out.put 0 _).put 1 _).put 2 _).put 3 _).put 4 _).put 5 _).put 6 _).put 7 _
   have kV : But (fun b => b = gr ∨ b = gm) wr V := by rw [eV]; exact ((((((((But.rfl_ (fun b => b = gr ∨ b = gm) _).put (p := ⟨gr, 0, none⟩) (.inl (.inl rfl)) _).put (p := ⟨gr, 1, none⟩) (.inl (.inl rfl)) _).put (p := ⟨gr, 2, none⟩) (.inl (.inl rfl)) _).put (p := ⟨gr, 3, none⟩) (.inl (.inl rfl)) _).put (p := ⟨gr, 4, none⟩) (.inl (.inl rfl)) _).put (p := ⟨gr, 5, none⟩) (.inl (.inl rfl)) _).put (p := ⟨gr, 6, none⟩) (.inl (.inl rfl)) _).put (p := ⟨gr, 7, none⟩) (.inl (.inl rfl)) _
   rw [← eV]
   clear eV c0 c1 c2 c3 c4 c5 c6 c7
   have q0 := hV.at_ 0
   have q1 := hV.at_ 1
   have q2 := hV.at_ 2
   have q3 := hV.at_ 3
   have q4 := hV.at_ 4
   have q5 := hV.at_ 5
   have q6 := hV.at_ 6
   have q7 := hV.at_ 7
   simp at q0 q1 q2 q3 q4 q5 q6 q7
   obtain ⟨a1, a2, a3, a4, a5⟩ := HE.out
   refine bodyPost_ret (v := wdV 0 pb pj 0 0 (.slice ob pB cb) (.slice oj pJ cj) (.slice oc pC cc)) (by simp [results, Tryz.results21, go_sem, q0, q1, q2, q3, q4, q5, q6, q7]) rfl ⟨P, _, rfl, ⟨ob, oj, cb, cj, by rw [a1, a2, a3, a4, a5, HOC.out.1, HOC.out.2], ?_⟩, HPk.out.1, ?_, ?_⟩
   ·have h := (HL.out.but kV (fun b hb => hb)).free (Y := Nil0) (fun b hb => hb.elim)
    rw [HOC.out.1, HOC.out.2] at h
    exact h
   ·exact HPk.out.2.mono (by omega)
   ·exact But.made_ HM1.out kV HM1.out.1.size (fun b hb => by rcases hb with hb | hb <;> omega)
 ·rcases Nat.eq_zero_or_pos n with h0 | h0
  ·subst h0
   have hm0 : m = 0 := by omega
   subst hm0
   go_wp2_with fail
   go_loopg [7, 16] 0 (fun gg s7 s16 wx => ∃ (k : Nat) (P : PW), k + gg = 0 ∧ s16 = .int .i64 (k : Nat) ∧ Hid ((Made w.heap.size w wx ∧ Has wx gr 32 #[.int .i64 0, .int .i64 0, .int .i64 0, .int .i64 0, .int .i64 0, .slice none 0 0, .slice none 0 0, .slice none 0 0]) ∧ WV0 (fun b => b = gr ∨ b = gm) wx gm P ∧ (POk P ∧ Small P k)))
   case atStart => exact ⟨0, ⟨1, 1, [], [], []⟩, rfl, rfl, ⟨K2.out, HR2.out⟩, HV2.out, ok_new, rfl, Nat.le_refl _, Nat.le_refl _, by show (1 : Int) ≤ _; omega, by show (1 : Int) ≤ _; omega⟩
   case round =>
    obtain ⟨k, P, hk, rfl, HB⟩ := hrel
    have hk0 : k = 0 := by omega
    subst hk0
    obtain ⟨ob, oj, oc, cb, cj, cc, hoc, hH, hL⟩ := WV0.open HB.out.2.1
    have HOC := hid hoc
    clear hoc
    have HL := hid hL
    have HH := hid hH
    obtain ⟨pB, eB⟩ : ∃ m, P.B.length = m := ⟨_, rfl⟩
    obtain ⟨pJ, eJ⟩ : ∃ m, P.J.length = m := ⟨_, rfl⟩
    obtain ⟨pC, eC⟩ : ∃ m, P.C.length = m := ⟨_, rfl⟩
    obtain ⟨pb, eb⟩ : ∃ m, P.nb = m := ⟨_, rfl⟩
    obtain ⟨pj, ej⟩ : ∃ m, P.nj = m := ⟨_, rfl⟩
    rw [eB, eJ, eC, eb, ej] at HH
    have HE := hid (And.intro eB (And.intro eJ (And.intro eC (And.intro eb ej))))
    have HR1 := hid (HB.out.1.2)
    have HM1 := hid (HB.out.1.1)
    have HPk := hid HB.out.2.2
    clear hH hL HB eB eJ eC eb ej
    have b0 := HH.out.at_ 0
    have b1 := HH.out.at_ 1
    have b2 := HH.out.at_ 2
    have b3 := HH.out.at_ 3
    have b4 := HH.out.at_ 4
    have b5 := HH.out.at_ 5
    have b6 := HH.out.at_ 6
    have b7 := HH.out.at_ 7
    simp at b0 b1 b2 b3 b4 b5 b6 b7
    have lm : gm < wr.heap.size := HH.out.here
    have c0 := HR1.out.at_ 0
    have c1 := HR1.out.at_ 1
    have c2 := HR1.out.at_ 2
    have c3 := HR1.out.at_ 3
    have c4 := HR1.out.at_ 4
    have c5 := HR1.out.at_ 5
    have c6 := HR1.out.at_ 6
    have c7 := HR1.out.at_ 7
    simp at c0 c1 c2 c3 c4 c5 c6 c7
    have lr : gr < wr.heap.size := HR1.out.here
    have fr : ∀ i, wr.frozen? ⟨gr, i, none⟩ = false := HR1.out.free
    go_wp2_with fail
    obtain ⟨V, eV⟩ : ∃ V, V = (((((((wr.setCell ⟨gr, 0, none⟩ (.int .i64 0)).setCell ⟨gr, 1, none⟩ (.int .i64 pb)).setCell ⟨gr, 2, none⟩ (.int .i64 pj)).setCell ⟨gr, 3, none⟩ (.int .i64 0)).setCell ⟨gr, 4, none⟩ (.int .i64 0)).setCell ⟨gr, 5, none⟩ (.slice ob pB cb)).setCell ⟨gr, 6, none⟩ (.slice oj pJ cj)).setCell ⟨gr, 7, none⟩ (.slice oc pC cc) := ⟨_, rfl⟩
    have hV : Has V gr 32 #[.int .i64 0, .int .i64 pb, .int .i64 pj, .int .i64 0, .int .i64 0, .slice ob pB cb, .slice oj pJ cj, .slice oc pC cc] := by rw [eV]; exact (((((((HR1.out.put 0 _).put 1 _).put 2 _).put 3 _).put 4 _).put 5 _).put 6 _).put 7 _
    have kV : But (fun b => b = gr ∨ b = gm) wr V := by rw [eV]; exact ((((((((But.rfl_ (fun b => b = gr ∨ b = gm) _).put (p := ⟨gr, 0, none⟩) (.inl (.inl rfl)) _).put (p := ⟨gr, 1, none⟩) (.inl (.inl rfl)) _).put (p := ⟨gr, 2, none⟩) (.inl (.inl rfl)) _).put (p := ⟨gr, 3, none⟩) (.inl (.inl rfl)) _).put (p := ⟨gr, 4, none⟩) (.inl (.inl rfl)) _).put (p := ⟨gr, 5, none⟩) (.inl (.inl rfl)) _).put (p := ⟨gr, 6, none⟩) (.inl (.inl rfl)) _).put (p := ⟨gr, 7, none⟩) (.inl (.inl rfl)) _
    rw [← eV]
    clear eV c0 c1 c2 c3 c4 c5 c6 c7
    have q0 := hV.at_ 0
    have q1 := hV.at_ 1
    have q2 := hV.at_ 2
    have q3 := hV.at_ 3
    have q4 := hV.at_ 4
    have q5 := hV.at_ 5
    have q6 := hV.at_ 6
    have q7 := hV.at_ 7
    simp at q0 q1 q2 q3 q4 q5 q6 q7
    obtain ⟨a1, a2, a3, a4, a5⟩ := HE.out
    refine bodyPost_ret (v := wdV 0 pb pj 0 0 (.slice ob pB cb) (.slice oj pJ cj) (.slice oc pC cc)) (by simp [results, Tryz.results21, go_sem, q0, q1, q2, q3, q4, q5, q6, q7]) rfl ⟨P, _, rfl, ⟨ob, oj, cb, cj, by rw [a1, a2, a3, a4, a5, HOC.out.1, HOC.out.2], ?_⟩, HPk.out.1, ?_, ?_⟩
    ·have h := (HL.out.but kV (fun b hb => hb)).free (Y := Nil0) (fun b hb => hb.elim)
     rw [HOC.out.1, HOC.out.2] at h
     exact h
    ·exact HPk.out.2.mono (by omega)
    ·exact But.made_ HM1.out kV HM1.out.1.size (fun b hb => by rcases hb with hb | hb <;> omega)
  ·obtain ⟨b, off, e, hbl, _⟩ := HLs.out (by rw [HN.out]; exact h0)
   cases e
   go_wp2_with fail
   go_loopg [7, 16] m (fun gg s7 s16 wx => ∃ (k : Nat) (P : PW), k + gg = m ∧ s16 = .int .i64 (k : Nat) ∧ Hid ((Made w.heap.size w wx ∧ Has wx gr 32 #[.int .i64 0, .int .i64 0, .int .i64 0, .int .i64 0, .int .i64 0, .slice none 0 0, .slice none 0 0, .slice none 0 0]) ∧ WV0 (fun b => b = gr ∨ b = gm) wx gm P ∧ (POk P ∧ Small P k)))
   case atStart => exact ⟨0, ⟨1, 1, [], [], []⟩, by omega, rfl, ⟨K2.out, HR2.out⟩, HV2.out, ok_new, rfl, Nat.le_refl _, Nat.le_refl _, by show (1 : Int) ≤ _; omega, by show (1 : Int) ≤ _; omega⟩
   case round =>
    obtain ⟨k, P, hk, rfl, HB⟩ := hrel
    by_cases hlt : k < m
    ·obtain ⟨d, ed⟩ : ∃ a, l[k]? = some a := ⟨_, List.getElem?_eq_getElem (by rw [HN.out]; omega)⟩
     have hDk := HD.out wr HB.out.1.1
     obtain ⟨b', off', e, hbl', hLB⟩ := hDk.1 (by rw [HN.out]; omega)
     cases e
     have HRg := hid (hLB.rangeAt ed)
     have HDI := hid (hDk.2 d (List.mem_of_getElem? ed))
     obtain ⟨cs, ecs⟩ : ∃ cs, encD d = cs := ⟨_, rfl⟩
     have hlen : cs.length = 30 := by rw [← ecs]; exact encD_len d
     have h1c : ∀ v ∈ cs, v.oneCell' = true := by rw [← ecs]; exact encD_one d
     have HCS : Hid (deV d = .agg cs.toArray) := by unfold Hid; rw [← ecs]; rfl
     rw [ecs] at HRg
     have H1C := hid h1c
     have HLEN := hid hlen
     clear hDk hLB ed h1c hlen ecs
     obtain ⟨gd, egd⟩ : ∃ g, wr.heap.size = g := ⟨_, rfl⟩
     have HMk := hid HB.out.1.1
     have HRk := hid HB.out.1.2
     have HVk := hid HB.out.2.1
     have HPk := hid HB.out.2.2
     clear HB
     have lgr : gr < wr.heap.size := HRk.out.here
     obtain ⟨bd, hbd⟩ := dbody_c d HDI.out.1
     have HBD := hid hbd
     clear hbd
     have HTH : Hid ((wr.alloc (.cells #[.int .i64 0, .int .i64 0, .int .i64 0, .int .i64 0, .int .i64 0, .int .i64 0, .int .i64 0, .int .i64 0, .int .i64 0, .int .i64 0, .int .i64 0, .int .i64 0, .int .i64 0, .int .i64 0, .int .i64 0, .int .i64 0, .int .i64 0, .int .i64 0, .int .i64 0, .int .i64 0, .int .i64 0, .int .i64 0, .int .i64 0, .int .i64 0, .int .i64 0, .int .i64 0, .int .i64 0, .int .i64 0, .int .i64 0, .slice none 0 0] 125)).there gd 0 cs.length) := by unfold Hid; rw [HLEN.out, ← egd]; exact there_of (has_new _ _ _) (by decide)
     go_upto_region 5 with (first
      | refine wpList_load_mid rfl 125 (.tmp 18) rfl b (off + k * 30) rfl cs _ HRg.out Tryz.underlying125 rfl (by rw [HLEN.out]; kernel_rfl) ?_
      | refine wpList_store_mid rfl 125 (.tmp 7) (.tmp 19) rfl gd 0 cs.toArray rfl rfl HTH.out (by rw [List.size_toArray, HLEN.out]; kernel_rfl) (all_oneCell_toArray H1C.out) ?_)
     obtain ⟨W4, e4⟩ : ∃ V, V = (wr.alloc (.cells #[.int .i64 0, .int .i64 0, .int .i64 0, .int .i64 0, .int .i64 0, .int .i64 0, .int .i64 0, .int .i64 0, .int .i64 0, .int .i64 0, .int .i64 0, .int .i64 0, .int .i64 0, .int .i64 0, .int .i64 0, .int .i64 0, .int .i64 0, .int .i64 0, .int .i64 0, .int .i64 0, .int .i64 0, .int .i64 0, .int .i64 0, .int .i64 0, .int .i64 0, .int .i64 0, .int .i64 0, .int .i64 0, .int .i64 0, .slice none 0 0] 125)).setCells gd 0 cs.toArray.toList := ⟨_, rfl⟩
     have k4 : Made wr.heap.size wr W4 := by rw [e4]; exact Made.setCells (Nat.le_of_eq egd) _ _ ((Made.rfl_ _ _).cells (Nat.le_refl _) _ _)
     have HRd : Hid (W4.rangeAt gd 0 cs) := by unfold Hid; rw [e4]; exact World.rangeAt_setCells_same _ _ _ _ HTH.out
     rw [← e4]
     clear e4
     have K4 := hid (HMk.out.then_ (k4.low HMk.out.1.size))
     have HRk4 := hid (HRk.out.stays k4 lgr)
     have HVk4 := hid (WVarO.kept HVk.out k4)
     have HS4 : Hid (Sl W4 d.rao d.rn d.rf) := fun hn => by obtain ⟨b, off, e, hp⟩ := HDI.out.2 hn; exact ⟨b, off, e, hp.kept k4⟩
     have HDO := hid (do_0 (X := fun b => b = gr ∨ b = gm) d bd HBD.out HDI.out.1 HVk4.out HPk.out.1 (.inr rfl) (fun b hb => by
      rcases hb with hb | hb
      ·rw [hb]; exact HRk4.out.here
      ·rw [hb]; exact WVar.here HVk4.out.up) HS4.out (by rw [HPk.out.2.1]; simp))
     rw [HCS.out] at HDO
     clear k4 HTH HRk HVk HMk lgr
     go_wp2_with (refine wpList_load_mid rfl 125 (.tmp 7) rfl gd 0 rfl cs _ HRd.out Tryz.underlying125 rfl (by rw [HLEN.out]; kernel_rfl) ?_)
     refine HDO.out.mono ?_
     rintro e w5 ⟨n', er, gone, P', rfl, hst, hv, kb⟩
     have HST := hid hst
     have HV5 := hid hv
     have HR5 := hid (HRk4.out.but kb (by show ¬ gr = gm; omega))
     have K5 : Hid (Made w.heap.size w w5) := But.made_ K4.out kb K4.out.1.size (fun b hb => by have hb : b = gm := hb; omega)
     clear hst hv kb HDO
     go_wp2_with fail
     go_roundg (m - (k + 1))
     case measure => omega
     case rel => exact ⟨k + 1, P', by omega, by go_num, ⟨K5.out, HR5.out⟩, HV5.out, step_ok HPk.out.1 HST.out, step_small HPk.out.2 HST.out⟩
    ·have hkm : k = m := by omega
     subst hkm
     obtain ⟨ob, oj, oc, cb, cj, cc, hoc, hH, hL⟩ := WV0.open HB.out.2.1
     have HOC := hid hoc
     clear hoc
     have HL := hid hL
     have HH := hid hH
     obtain ⟨pB, eB⟩ : ∃ m, P.B.length = m := ⟨_, rfl⟩
     obtain ⟨pJ, eJ⟩ : ∃ m, P.J.length = m := ⟨_, rfl⟩
     obtain ⟨pC, eC⟩ : ∃ m, P.C.length = m := ⟨_, rfl⟩
     obtain ⟨pb, eb⟩ : ∃ m, P.nb = m := ⟨_, rfl⟩
     obtain ⟨pj, ej⟩ : ∃ m, P.nj = m := ⟨_, rfl⟩
     rw [eB, eJ, eC, eb, ej] at HH
     have HE := hid (And.intro eB (And.intro eJ (And.intro eC (And.intro eb ej))))
     have HR1 := hid (HB.out.1.2)
     have HM1 := hid (HB.out.1.1)
     have HPk := hid HB.out.2.2
     clear hH hL HB eB eJ eC eb ej
     have b0 := HH.out.at_ 0
     have b1 := HH.out.at_ 1
     have b2 := HH.out.at_ 2
     have b3 := HH.out.at_ 3
     have b4 := HH.out.at_ 4
     have b5 := HH.out.at_ 5
     have b6 := HH.out.at_ 6
     have b7 := HH.out.at_ 7
     simp at b0 b1 b2 b3 b4 b5 b6 b7
     have lm : gm < wr.heap.size := HH.out.here
     have c0 := HR1.out.at_ 0
     have c1 := HR1.out.at_ 1
     have c2 := HR1.out.at_ 2
     have c3 := HR1.out.at_ 3
     have c4 := HR1.out.at_ 4
     have c5 := HR1.out.at_ 5
     have c6 := HR1.out.at_ 6
     have c7 := HR1.out.at_ 7
     simp at c0 c1 c2 c3 c4 c5 c6 c7
     have lr : gr < wr.heap.size := HR1.out.here
     have fr : ∀ i, wr.frozen? ⟨gr, i, none⟩ = false := HR1.out.free
     go_wp2_with fail
     obtain ⟨V, eV⟩ : ∃ V, V = (((((((wr.setCell ⟨gr, 0, none⟩ (.int .i64 0)).setCell ⟨gr, 1, none⟩ (.int .i64 pb)).setCell ⟨gr, 2, none⟩ (.int .i64 pj)).setCell ⟨gr, 3, none⟩ (.int .i64 0)).setCell ⟨gr, 4, none⟩ (.int .i64 0)).setCell ⟨gr, 5, none⟩ (.slice ob pB cb)).setCell ⟨gr, 6, none⟩ (.slice oj pJ cj)).setCell ⟨gr, 7, none⟩ (.slice oc pC cc) := ⟨_, rfl⟩
     have hV : Has V gr 32 #[.int .i64 0, .int .i64 pb, .int .i64 pj, .int .i64 0, .int .i64 0, .slice ob pB cb, .slice oj pJ cj, .slice oc pC cc] := by rw [eV]; exact (((((((HR1.out.put 0 _).put 1 _).put 2 _).put 3 _).put 4 _).put 5 _).put 6 _).put 7 _
     have kV : But (fun b => b = gr ∨ b = gm) wr V := by rw [eV]; exact ((((((((But.rfl_ (fun b => b = gr ∨ b = gm) _).put (p := ⟨gr, 0, none⟩) (.inl (.inl rfl)) _).put (p := ⟨gr, 1, none⟩) (.inl (.inl rfl)) _).put (p := ⟨gr, 2, none⟩) (.inl (.inl rfl)) _).put (p := ⟨gr, 3, none⟩) (.inl (.inl rfl)) _).put (p := ⟨gr, 4, none⟩) (.inl (.inl rfl)) _).put (p := ⟨gr, 5, none⟩) (.inl (.inl rfl)) _).put (p := ⟨gr, 6, none⟩) (.inl (.inl rfl)) _).put (p := ⟨gr, 7, none⟩) (.inl (.inl rfl)) _
     rw [← eV]
     clear eV c0 c1 c2 c3 c4 c5 c6 c7
     have q0 := hV.at_ 0
     have q1 := hV.at_ 1
     have q2 := hV.at_ 2
     have q3 := hV.at_ 3
     have q4 := hV.at_ 4
     have q5 := hV.at_ 5
     have q6 := hV.at_ 6
     have q7 := hV.at_ 7
     simp at q0 q1 q2 q3 q4 q5 q6 q7
     obtain ⟨a1, a2, a3, a4, a5⟩ := HE.out
     refine bodyPost_ret (v := wdV 0 pb pj 0 0 (.slice ob pB cb) (.slice oj pJ cj) (.slice oc pC cc)) (by simp [results, Tryz.results21, go_sem, q0, q1, q2, q3, q4, q5, q6, q7]) rfl ⟨P, _, rfl, ⟨ob, oj, cb, cj, by rw [a1, a2, a3, a4, a5, HOC.out.1, HOC.out.2], ?_⟩, HPk.out.1, ?_, ?_⟩
     ·have h := (HL.out.but kV (fun b hb => hb)).free (Y := Nil0) (fun b hb => hb.elim)
      rw [HOC.out.1, HOC.out.2] at h
      exact h
     ·exact HPk.out.2.mono (by omega)
     ·exact But.made_ HM1.out kV HM1.out.1.size (fun b hb => by rcases hb with hb | hb <;> omega)
theorem made_c {l : List De} {ao : Option Addr} {n c : Nat} {w : World} (most : Nat) (hmost : most ≤ 64) (hn : l.length = n) (hD : DesAt w ao l) (hnc : n ≤ c) (hcm : c ≤ maxLen) (ho : (ao = none ∧ n = 0 ∧ c = 0) ∨ ∃ a, ao = some a) :
  Calls Tryz.prog 21 #[.slice ao n c, .int .i64 (most : Nat)] w fun e v => ∃ P val, e = .returned val ∧ WVal Nil0 v val P ∧ POk P ∧ Small P most ∧ Made w.heap.size w v :=
 (made_0 most hmost hn hD hnc hcm ho).mono fun _ _ ⟨P, val, h1, h2, h3⟩ => ⟨P, val, h1, h2.up, h3⟩
end Go.Proofs.YtcfphdcinihdbaaGreat.Fx
/- The anchor; world variables in walks. -/
namespace Go.Proofs.YtcfphdcinihdbaaGreat.Fx
open Go.ChangeShapes Go.WideShapes Go.ChangeAt Go.RowKit
set_option linter.unusedVariables false
theorem i64_0 : I64 0 := by unfold I64; omega
theorem disc_ok (d : Int) (h0 : 0 ≤ d) (h1 : d ≤ 4398046511104) : BodyP ⟨0, 0, 0, 0, 0, 0, 0, d, 1, 4294967296, none, 0, 0, fun _ => (0, 0)⟩ :=
 ⟨.inl ⟨rfl, rfl, (by show (16777216 : Int) ≤ 4294967296; decide), (by show (4294967296 : Int) ≤ 274877906944; decide)⟩, by unfold Inn; simp, by unfold Inn; simp, by unfold Inn; simp, by unfold Inn; simp, by unfold Inn; simp, by simp, ⟨h0, h1⟩, fun _ => ⟨rfl, rfl, rfl⟩⟩
theorem disc_i (d : Int) (h0 : 0 ≤ d) (h1 : d ≤ 4398046511104) : BdI ⟨0, 0, 0, 0, 0, 0, 0, d, 1, 4294967296, none, 0, 0, fun _ => (0, 0)⟩ :=
 ⟨i64_0, i64_0, i64_0, i64_0, i64_0, i64_0, i64_0, by show I64 d; unfold I64; omega, by show I64 1; unfold I64; omega, by show I64 4294967296; unfold I64; omega, fun i hi => absurd hi (by simp)⟩
end Go.Proofs.YtcfphdcinihdbaaGreat.Fx
/- WorldNumbers. -/
namespace Go.Proofs.YtcfphdcinihdbaaGreat.Fx
open Go.ChangeShapes Go.WideShapes Go.ChangeAt Go.RowKit
set_option linter.unusedVariables false
def U8At (w : World) (ao : Option Addr) (n : Nat) (f : Nat → Int) : Prop := 0 < n → ∃ b off, ao = some ⟨b, off, none⟩ ∧ ∀ i, i < n → w.cell? ⟨b, off + i, none⟩ = some (.int .u8 (f i)) ∧ 0 ≤ f i ∧ f i < 256
theorem U8At.kept {w v : World} {ao : Option Addr} {n : Nat} {f : Nat → Int} (h : U8At w ao n f) (k : Made w.heap.size w v) : U8At v ao n f := fun hn => by
 obtain ⟨b, off, e, h⟩ := h hn
 exact ⟨b, off, e, fun i hi => ⟨k.reads (h i hi).1, (h i hi).2⟩⟩
end Go.Proofs.YtcfphdcinihdbaaGreat.Fx
/- WorldRights. -/
namespace Go.Proofs.YtcfphdcinihdbaaGreat.Fx
open Go.ChangeShapes Go.WideShapes Go.ChangeAt Go.RowKit
set_option linter.unusedVariables false
theorem SameB.i {b b' : Bd} (h : SameB b b') (k : BdI b) : BdI b' := by
 obtain ⟨h0, h1, h2, h3, h4, h5, h6, h7, h8, h9, h10, h11⟩ := h
 exact ⟨h0 ▸ k.id, h1 ▸ k.x, h2 ▸ k.y, h3 ▸ k.vx, h4 ▸ k.vy, h5 ▸ k.an, h6 ▸ k.sp, h7 ▸ k.de, h8 ▸ k.k, h9 ▸ k.r, h10 ▸ h11 ▸ k.f⟩
theorem same_at {B B' : List Bd} {n : Nat} (hn : B.length = n) (hn' : B'.length = n) (h : ∀ (i : Nat) b b', B[i]? = some b → B'[i]? = some b' → SameB b b') {i : Nat} {b' : Bd} (hb : B'[i]? = some b') : ∃ b, B[i]? = some b ∧ SameB b b' := by
 have hi := (List.getElem?_eq_some_iff.1 hb).1
 have hx : B[i]? = some (B[i]'(by omega)) := List.getElem?_eq_getElem (by omega)
 exact ⟨_, hx, h i _ _ hx hb⟩
end Go.Proofs.YtcfphdcinihdbaaGreat.Fx