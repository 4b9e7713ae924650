/- WlN WlO WlP WlR Mki Mkj WsC OrA OrF OrP MassA MassQ MassC MassB MassD -/
import Derived.Test.YtjhcejmfiekjgaaGreatSt0
import Derived.Test.YtjhcejmfiekjgaaGreatSt1
import Derived.Test.YtjhcejmfiekjgaaGreatSt3
import Derived.Test.YtjhcejmfiekjgaaGreatSt4
import Derived.Test.YtjhcejmfiekjgaaGreatSt6
import Derived.Test.YtjhcejmfiekjgaaGreatSt11
import Derived.Test.YtjhcejmfiekjgaaGreatSt15
import Derived.Deep.MidRow
import Derived.Deep.LoopGhost
import Derived.LoopN
import Derived.WalkMore
import Derived.BigQuiet
set_option maxRecDepth 100000
set_option maxHeartbeats 64000000
/- Made; the anchor. -/
namespace Go.Proofs.YtjhcejmfiekjgaaGreat.Fx
open Go.ChangeShapes Go.WideShapes Go.ChangeAt Go.RowKit
set_option linter.unusedVariables false
theorem encD_one (x : De) : ∀ v ∈ encD x, v.oneCell' = true := by
 intro v hv; simp [encD] at hv; rcases hv with rfl | rfl | rfl | rfl | rfl | rfl | rfl | rfl | rfl | rfl | rfl | rfl | rfl | rfl | rfl | rfl | rfl | rfl | rfl | rfl | rfl | rfl | rfl | rfl | rfl | rfl | rfl | rfl | rfl | rfl <;> rfl
def DesAt (w : World) (ao : Option Addr) (l : List De) : Prop := LsT encD 30 w ao l ∧ ∀ d ∈ l, DeI d ∧ Sl w d.rao d.rn d.rf
theorem DesAt.kept {w v : World} {ao : Option Addr} {l : List De} (h : DesAt w ao l) (k : Made w.heap.size w v) : DesAt v ao l :=
 ⟨h.1.below k.1, fun d hd => ⟨(h.2 d hd).1, fun hn => by obtain ⟨b, off, e, hp⟩ := (h.2 d hd).2 hn; exact ⟨b, off, e, hp.kept k⟩⟩⟩
def Small (P : PW) (m : Nat) : Prop := P.C = [] ∧ P.B.length ≤ m ∧ P.J.length ≤ m ∧ P.nb ≤ 1 + m ∧ P.nj ≤ 1 + m
theorem step_small {b : Bd} {j : Jt} {K id n e : Int} {gone : Bool} {P P' : PW} {m : Nat} (h : Small P m) (k : StepP b j K id P n e gone P') : Small P' (m + 1) := by
 obtain ⟨h1, h2, h3, h4, h5⟩ := h
 have same : Small P (m + 1) := ⟨h1, by omega, by omega, by omega, by omega⟩
 rcases k with ⟨_, _, k⟩ | ⟨_, _, _, k⟩ | ⟨_, _, _, k⟩ | ⟨_, _, k⟩
 ·rcases k with ⟨_, _, _, rfl⟩ | ⟨_, _, _, _, rfl⟩ | ⟨_, _, _, _, _, rfl⟩ | ⟨_, _, _, _, _, _, rfl⟩
  ·exact same
  ·exact same
  ·exact same
  ·exact ⟨h1, by simp only []; omega, by simp only [List.length_append, List.length_singleton]; omega, by simp only []; omega, by simp only []; omega⟩
 ·rcases k with ⟨_, _, rfl⟩ | ⟨_, _, rfl⟩
  ·exact same
  ·refine ⟨by simp [remB, h1], ?_, ?_, ?_, ?_⟩
   ·exact Nat.le_trans (List.length_filter_le _ _) (by omega)
   ·exact Nat.le_trans (List.length_filter_le _ _) (by omega)
   ·show P.nb ≤ _; omega
   ·show P.nj ≤ _; omega
 ·rcases k with ⟨_, _, rfl⟩ | ⟨_, _, rfl⟩
  ·exact same
  ·refine ⟨h1, ?_, ?_, ?_, ?_⟩
   ·show P.B.length ≤ _; omega
   ·exact Nat.le_trans (List.length_filter_le _ _) (by omega)
   ·show P.nb ≤ _; omega
   ·show P.nj ≤ _; omega
 ·rcases k with ⟨_, _, _, rfl⟩ | ⟨_, _, _, _, rfl⟩ | ⟨_, _, _, _, _, ao, c, rfl⟩
  ·exact same
  ·exact same
  ·exact ⟨h1, by simp only [List.length_append, List.length_singleton]; omega, by simp only []; omega, by simp only []; omega, by simp only []; omega⟩
def WVal (X : Nat → Prop) (v : World) (val : Value) (P : PW) : Prop := ∃ ob oj oc cb cj cc, val = wdV 0 P.nb P.nj 0 0 (.slice ob P.B.length cb) (.slice oj P.J.length cj) (.slice oc P.C.length cc) ∧ WLs X v ob cb P.B oj cj P.J oc cc P.C
theorem WLs.free {X Y : Nat → Prop} {w : World} {ob oj oc : Option Addr} {cb cj cc : Nat} {B : List Bd} {J : List Jt} {C : List Ct} (h : WLs X w ob cb B oj cj J oc cc C) (hY : ∀ b, Y b → X b ∨ w.heap.size ≤ b) : WLs Y w ob cb B oj cj J oc cc C := by
 have key : ∀ {α : Type} {enc : α → List Value} {k : Nat} {ao : Option Addr} {l : List α}, LsT enc k w ao l → (0 < l.length → Offs X ao) → 0 < l.length → Offs Y ao := fun hl hx h0 b off s e hb => by
  obtain ⟨b', off', e', hlt, _⟩ := hl h0
  rcases hY b hb with h1 | h1
  ·exact hx h0 b off s e h1
  ·rw [e] at e'
   cases e'
   omega
 refine ⟨h.at_, h.okB, h.okJ, h.okC, key h.at_.lB h.offB, key h.at_.lJ h.offJ, key h.at_.lC h.offC, fun b hb hn b' off s e hx => ?_, h.okP⟩
 obtain ⟨b'', off'', e', hp⟩ := (h.at_.sB b hb).1 hn
 have hlt := hp.here hn
 rw [e] at e'
 cases e'
 rcases hY b' hx with h1 | h1
 ·exact h.offP b hb hn _ _ _ e h1
 ·omega
theorem WVal.kept {X : Nat → Prop} {w v : World} {val : Value} {P : PW} (h : WVal X w val P) (k : Made w.heap.size w v) : WVal X v val P := by
 obtain ⟨ob, oj, oc, cb, cj, cc, e, hL⟩ := h
 exact ⟨ob, oj, oc, cb, cj, cc, e, hL.kept k⟩
def WVal0 (X : Nat → Prop) (v : World) (val : Value) (P : PW) : Prop := ∃ ob oj cb cj, val = wdV 0 P.nb P.nj 0 0 (.slice ob P.B.length cb) (.slice oj P.J.length cj) (.slice none P.C.length 0) ∧ WLs X v ob cb P.B oj cj P.J none 0 P.C
theorem WVal0.up {X : Nat → Prop} {v : World} {val : Value} {P : PW} (h : WVal0 X v val P) : WVal X v val P := by
 obtain ⟨ob, oj, cb, cj, e, hL⟩ := h
 exact ⟨ob, oj, none, cb, cj, 0, e, hL⟩
theorem WV0.open {X : Nat → Prop} {w : World} {gw : Nat} {P : PW} (h : WV0 X w gw P) : ∃ ob oj oc cb cj cc, (oc = none ∧ cc = 0) ∧ Has w gw 31 #[.int .i64 0, .int .i64 P.nb, .int .i64 P.nj, .int .i64 0, .int .i64 0, .slice ob P.B.length cb, .slice oj P.J.length cj, .slice oc P.C.length cc] ∧ WLs X w ob cb P.B oj cj P.J oc cc P.C := by
 obtain ⟨ob, oj, cb, cj, hH, hL⟩ := h
 exact ⟨ob, oj, none, cb, cj, 0, ⟨rfl, rfl⟩, hH, hL⟩
theorem ls_new (X : Nat → Prop) (w : World) : WLs X w none 0 [] none 0 [] none 0 [] :=
 ⟨⟨fun h => absurd h (by simp), fun h => absurd h (by simp), fun h => absurd h (by simp), fun b hb => by simp at hb, fun b hb => by simp at hb, fun b hb => by simp at hb⟩, ⟨Nat.le_refl _, by unfold maxLen; omega, .inl ⟨rfl, rfl, rfl⟩⟩, ⟨Nat.le_refl _, by unfold maxLen; omega, .inl ⟨rfl, rfl, rfl⟩⟩, ⟨Nat.le_refl _, by unfold maxLen; omega, .inl ⟨rfl, rfl, rfl⟩⟩,
  fun h => absurd h (by simp), fun h => absurd h (by simp), fun h => absurd h (by simp), fun b hb => by simp at hb, fun b hb => by simp at hb⟩
theorem Small.mono {P : PW} {k m : Nat} (h : Small P k) (hm : k ≤ m) : Small P m := ⟨h.1, by have := h.2.1; omega, by have := h.2.2.1; omega, by have := h.2.2.2.1; omega, by have := h.2.2.2.2; omega⟩
theorem made_0 {l : List De} {ao : Option Addr} {n c : Nat} {w : World} (most : Nat) (hmost : most ≤ 64) (hn : l.length = n) (hD : DesAt w ao l) (hnc : n ≤ c) (hcm : c ≤ maxLen) (ho : (ao = none ∧ n = 0 ∧ c = 0) ∨ ∃ a, ao = some a) :
  Calls Tryz.prog 5 #[.slice ao n c, .int .i64 (most : Nat)] w fun e v => ∃ P val, e = .returned val ∧ WVal0 Nil0 v val P ∧ POk P ∧ Small P most ∧ Made w.heap.size w v := by
 unfold maxLen at hcm
 obtain ⟨m, em⟩ : ∃ m, min n most = m := ⟨_, rfl⟩
 have hmm : min (n : Int) (most : Int) = (m : Int) := by omega
 have hmn : m ≤ n := by omega
 have hmo : m ≤ most := by omega
 have HN := hid hn
 have HD := hid (fun v (k : Made w.heap.size w v) => hD.kept k)
 have HLs := hid hD.1
 obtain ⟨W, eW⟩ : ∃ W, W = w.alloc (.cells #[.int .i64 0, .int .i64 0, .int .i64 0, .int .i64 0, .int .i64 0, .slice none 0 0, .slice none 0 0, .slice none 0 0] 31) := ⟨_, rfl⟩
 have KW : Hid (Made w.heap.size w W) := by unfold Hid; rw [eW]; exact (Made.rfl_ _ _).cells (Nat.le_refl _) _ _
 have HR : Hid (Has W w.heap.size 31 #[.int .i64 0, .int .i64 0, .int .i64 0, .int .i64 0, .int .i64 0, .slice none 0 0, .slice none 0 0, .slice none 0 0]) := by unfold Hid; rw [eW]; exact has_new _ _ _
 obtain ⟨gr, egr⟩ : ∃ g, w.heap.size = g := ⟨_, rfl⟩
 rw [egr] at HR
 clear hn hD em
 go_enter Tryz.func5, Tryz.ntmps5
 go_upto_region 1 with fail
 rw [← eW]
 clear eW
 try rw [egr]
 go_wp2_with fail
 refine (new_c _).mono ?_
 rintro e w1 ⟨rfl, k1⟩
 have K1 := hid (KW.out.then_ (k1.low KW.out.1.size))
 have HR1 := hid (HR.out.stays k1 HR.out.here)
 clear k1 KW HR
 obtain ⟨W2, eW2⟩ : ∃ V, V = w1.alloc (.cells #[.int .i64 0, .int .i64 1, .int .i64 1, .int .i64 0, .int .i64 0, .slice none 0 0, .slice none 0 0, .slice none 0 0] 31) := ⟨_, rfl⟩
 have K2 : Hid (Made w.heap.size w W2) := by unfold Hid; rw [eW2]; exact K1.out.cells K1.out.1.size _ _
 have HR2 : Hid (Has W2 gr 31 #[.int .i64 0, .int .i64 0, .int .i64 0, .int .i64 0, .int .i64 0, .slice none 0 0, .slice none 0 0, .slice none 0 0]) := by unfold Hid; rw [eW2]; exact HR1.out.more _
 have HM2 : Hid (Has W2 w1.heap.size 31 #[.int .i64 0, .int .i64 1, .int .i64 1, .int .i64 0, .int .i64 0, .slice none 0 0, .slice none 0 0, .slice none 0 0]) := by unfold Hid; rw [eW2]; exact has_new _ _ _
 have hgm : gr < w1.heap.size := HR1.out.here
 obtain ⟨gm, egm⟩ : ∃ g, w1.heap.size = g := ⟨_, rfl⟩
 rw [egm] at HM2 hgm
 have HV2 : Hid (WV0 (fun b => b = gr ∨ b = gm) W2 gm ⟨1, 1, [], [], []⟩) := ⟨none, none, 0, 0, HM2.out, ls_new _ _⟩
 clear K1 HR1
 go_upto_region 2 with fail
 rw [← eW2]
 clear eW2
 try rw [egm]
 rcases ho with ⟨rfl, rfl, rfl⟩ | ⟨adr, rfl⟩
 ·have hm0 : m = 0 := by omega
  subst hm0
  go_wp2_with fail
  go_loopg [7, 16] 0 (fun gg s7 s16 wx => ∃ (k : Nat) (P : PW), k + gg = 0 ∧ s16 = .int .i64 (k : Nat) ∧ Hid ((Made w.heap.size w wx ∧ Has wx gr 31 #[.int .i64 0, .int .i64 0, .int .i64 0, .int .i64 0, .int .i64 0, .slice none 0 0, .slice none 0 0, .slice none 0 0]) ∧ WV0 (fun b => b = gr ∨ b = gm) wx gm P ∧ (POk P ∧ Small P k)))
  case atStart => exact ⟨0, ⟨1, 1, [], [], []⟩, rfl, rfl, ⟨K2.out, HR2.out⟩, HV2.out, ok_new, rfl, Nat.le_refl _, Nat.le_refl _, by show (1 : Int) ≤ _; omega, by show (1 : Int) ≤ _; omega⟩
  case round =>
   obtain ⟨k, P, hk, rfl, HB⟩ := hrel
   have hk0 : k = 0 := by omega
   subst hk0
   obtain ⟨ob, oj, oc, cb, cj, cc, hoc, hH, hL⟩ := WV0.open HB.out.2.1
   have HOC := hid hoc
   clear hoc
   have HL := hid hL
   have HH := hid hH
   obtain ⟨pB, eB⟩ : ∃ m, P.B.length = m := ⟨_, rfl⟩
   obtain ⟨pJ, eJ⟩ : ∃ m, P.J.length = m := ⟨_, rfl⟩
   obtain ⟨pC, eC⟩ : ∃ m, P.C.length = m := ⟨_, rfl⟩
   obtain ⟨pb, eb⟩ : ∃ m, P.nb = m := ⟨_, rfl⟩
   obtain ⟨pj, ej⟩ : ∃ m, P.nj = m := ⟨_, rfl⟩
   rw [eB, eJ, eC, eb, ej] at HH
   have HE := hid (And.intro eB (And.intro eJ (And.intro eC (And.intro eb ej))))
   have HR1 := hid (HB.out.1.2)
   have HM1 := hid (HB.out.1.1)
   have HPk := hid HB.out.2.2
   clear hH hL HB eB eJ eC eb ej
   have b0 := HH.out.at_ 0
   have b1 := HH.out.at_ 1
   have b2 := HH.out.at_ 2
   have b3 := HH.out.at_ 3
   have b4 := HH.out.at_ 4
   have b5 := HH.out.at_ 5
   have b6 := HH.out.at_ 6
   have b7 := HH.out.at_ 7
   simp at b0 b1 b2 b3 b4 b5 b6 b7
   have lm : gm < wr.heap.size := HH.out.here
   have c0 := HR1.out.at_ 0
   have c1 := HR1.out.at_ 1
   have c2 := HR1.out.at_ 2
   have c3 := HR1.out.at_ 3
   have c4 := HR1.out.at_ 4
   have c5 := HR1.out.at_ 5
   have c6 := HR1.out.at_ 6
   have c7 := HR1.out.at_ 7
   simp at c0 c1 c2 c3 c4 c5 c6 c7
   have lr : gr < wr.heap.size := HR1.out.here
   have fr : ∀ i, wr.frozen? ⟨gr, i, none⟩ = false := HR1.out.free
   go_wp2_with fail
   obtain ⟨V, eV⟩ : ∃ V, V = (((((((wr.setCell ⟨gr, 0, none⟩ (.int .i64 0)).setCell ⟨gr, 1, none⟩ (.int .i64 pb)).setCell ⟨gr, 2, none⟩ (.int .i64 pj)).setCell ⟨gr, 3, none⟩ (.int .i64 0)).setCell ⟨gr, 4, none⟩ (.int .i64 0)).setCell ⟨gr, 5, none⟩ (.slice ob pB cb)).setCell ⟨gr, 6, none⟩ (.slice oj pJ cj)).setCell ⟨gr, 7, none⟩ (.slice oc pC cc) := ⟨_, rfl⟩
   have hV : Has V gr 31 #[.int .i64 0, .int .i64 pb, .int .i64 pj, .int .i64 0, .int .i64 0, .slice ob pB cb, .slice oj pJ cj, .slice oc pC cc] := by rw [eV]; exact (((((((HR1.out.put 0 _).put 1 _).put 2 _).put 3 _).put 4 _).put 5 _).put 6 _).put 7 _
   have kV : But (fun b => b = gr ∨ b = gm) wr V := by rw [eV]; exact ((((((((But.rfl_ (fun b => b = gr ∨ b = gm) _).put (p := ⟨gr, 0, none⟩) (.inl (.inl rfl)) _).put (p := ⟨gr, 1, none⟩) (.inl (.inl rfl)) _).put (p := ⟨gr, 2, none⟩) (.inl (.inl rfl)) _).put (p := ⟨gr, 3, none⟩) (.inl (.inl rfl)) _).put (p := ⟨gr, 4, none⟩) (.inl (.inl rfl)) _).put (p := ⟨gr, 5, none⟩) (.inl (.inl rfl)) _).put (p := ⟨gr, 6, none⟩) (.inl (.inl rfl)) _).put (p := ⟨gr, 7, none⟩) (.inl (.inl rfl)) _
   rw [← eV]
   clear eV c0 c1 c2 c3 c4 c5 c6 c7
   have q0 := hV.at_ 0
   have q1 := hV.at_ 1
   have q2 := hV.at_ 2
   have q3 := hV.at_ 3
   have q4 := hV.at_ 4
   have q5 := hV.at_ 5
   have q6 := hV.at_ 6
   have q7 := hV.at_ 7
   simp at q0 q1 q2 q3 q4 q5 q6 q7
   obtain ⟨a1, a2, a3, a4, a5⟩ := HE.out
   refine bodyPost_ret (v := wdV 0 pb pj 0 0 (.slice ob pB cb) (.slice oj pJ cj) (.slice oc pC cc)) (by simp [results, Tryz.results5, go_sem, q0, q1, q2, q3, q4, q5, q6, q7]) rfl ⟨P, _, rfl, ⟨ob, oj, cb, cj, by rw [a1, a2, a3, a4, a5, HOC.out.1, HOC.out.2], ?_⟩, HPk.out.1, ?_, ?_⟩
   ·have h := (HL.out.but kV (fun b hb => hb)).free (Y := Nil0) (fun b hb => hb.elim)
    rw [HOC.out.1, HOC.out.2] at h
    exact h
   ·exact HPk.out.2.mono (by omega)
   ·exact But.made_ HM1.out kV HM1.out.1.size (fun b hb => by rcases hb with hb | hb <;> omega)
 ·rcases Nat.eq_zero_or_pos n with h0 | h0
  ·subst h0
   have hm0 : m = 0 := by omega
   subst hm0
   go_wp2_with fail
   go_loopg [7, 16] 0 (fun gg s7 s16 wx => ∃ (k : Nat) (P : PW), k + gg = 0 ∧ s16 = .int .i64 (k : Nat) ∧ Hid ((Made w.heap.size w wx ∧ Has wx gr 31 #[.int .i64 0, .int .i64 0, .int .i64 0, .int .i64 0, .int .i64 0, .slice none 0 0, .slice none 0 0, .slice none 0 0]) ∧ WV0 (fun b => b = gr ∨ b = gm) wx gm P ∧ (POk P ∧ Small P k)))
   case atStart => exact ⟨0, ⟨1, 1, [], [], []⟩, rfl, rfl, ⟨K2.out, HR2.out⟩, HV2.out, ok_new, rfl, Nat.le_refl _, Nat.le_refl _, by show (1 : Int) ≤ _; omega, by show (1 : Int) ≤ _; omega⟩
   case round =>
    obtain ⟨k, P, hk, rfl, HB⟩ := hrel
    have hk0 : k = 0 := by omega
    subst hk0
    obtain ⟨ob, oj, oc, cb, cj, cc, hoc, hH, hL⟩ := WV0.open HB.out.2.1
    have HOC := hid hoc
    clear hoc
    have HL := hid hL
    have HH := hid hH
    obtain ⟨pB, eB⟩ : ∃ m, P.B.length = m := ⟨_, rfl⟩
    obtain ⟨pJ, eJ⟩ : ∃ m, P.J.length = m := ⟨_, rfl⟩
    obtain ⟨pC, eC⟩ : ∃ m, P.C.length = m := ⟨_, rfl⟩
    obtain ⟨pb, eb⟩ : ∃ m, P.nb = m := ⟨_, rfl⟩
    obtain ⟨pj, ej⟩ : ∃ m, P.nj = m := ⟨_, rfl⟩
    rw [eB, eJ, eC, eb, ej] at HH
    have HE := hid (And.intro eB (And.intro eJ (And.intro eC (And.intro eb ej))))
    have HR1 := hid (HB.out.1.2)
    have HM1 := hid (HB.out.1.1)
    have HPk := hid HB.out.2.2
    clear hH hL HB eB eJ eC eb ej
    have b0 := HH.out.at_ 0
    have b1 := HH.out.at_ 1
    have b2 := HH.out.at_ 2
    have b3 := HH.out.at_ 3
    have b4 := HH.out.at_ 4
    have b5 := HH.out.at_ 5
    have b6 := HH.out.at_ 6
    have b7 := HH.out.at_ 7
    simp at b0 b1 b2 b3 b4 b5 b6 b7
    have lm : gm < wr.heap.size := HH.out.here
    have c0 := HR1.out.at_ 0
    have c1 := HR1.out.at_ 1
    have c2 := HR1.out.at_ 2
    have c3 := HR1.out.at_ 3
    have c4 := HR1.out.at_ 4
    have c5 := HR1.out.at_ 5
    have c6 := HR1.out.at_ 6
    have c7 := HR1.out.at_ 7
    simp at c0 c1 c2 c3 c4 c5 c6 c7
    have lr : gr < wr.heap.size := HR1.out.here
    have fr : ∀ i, wr.frozen? ⟨gr, i, none⟩ = false := HR1.out.free
    go_wp2_with fail
    obtain ⟨V, eV⟩ : ∃ V, V = (((((((wr.setCell ⟨gr, 0, none⟩ (.int .i64 0)).setCell ⟨gr, 1, none⟩ (.int .i64 pb)).setCell ⟨gr, 2, none⟩ (.int .i64 pj)).setCell ⟨gr, 3, none⟩ (.int .i64 0)).setCell ⟨gr, 4, none⟩ (.int .i64 0)).setCell ⟨gr, 5, none⟩ (.slice ob pB cb)).setCell ⟨gr, 6, none⟩ (.slice oj pJ cj)).setCell ⟨gr, 7, none⟩ (.slice oc pC cc) := ⟨_, rfl⟩
    have hV : Has V gr 31 #[.int .i64 0, .int .i64 pb, .int .i64 pj, .int .i64 0, .int .i64 0, .slice ob pB cb, .slice oj pJ cj, .slice oc pC cc] := by rw [eV]; exact (((((((HR1.out.put 0 _).put 1 _).put 2 _).put 3 _).put 4 _).put 5 _).put 6 _).put 7 _
    have kV : But (fun b => b = gr ∨ b = gm) wr V := by rw [eV]; exact ((((((((But.rfl_ (fun b => b = gr ∨ b = gm) _).put (p := ⟨gr, 0, none⟩) (.inl (.inl rfl)) _).put (p := ⟨gr, 1, none⟩) (.inl (.inl rfl)) _).put (p := ⟨gr, 2, none⟩) (.inl (.inl rfl)) _).put (p := ⟨gr, 3, none⟩) (.inl (.inl rfl)) _).put (p := ⟨gr, 4, none⟩) (.inl (.inl rfl)) _).put (p := ⟨gr, 5, none⟩) (.inl (.inl rfl)) _).put (p := ⟨gr, 6, none⟩) (.inl (.inl rfl)) _).put (p := ⟨gr, 7, none⟩) (.inl (.inl rfl)) _
    rw [← eV]
    clear eV c0 c1 c2 c3 c4 c5 c6 c7
    have q0 := hV.at_ 0
    have q1 := hV.at_ 1
    have q2 := hV.at_ 2
    have q3 := hV.at_ 3
    have q4 := hV.at_ 4
    have q5 := hV.at_ 5
    have q6 := hV.at_ 6
    have q7 := hV.at_ 7
    simp at q0 q1 q2 q3 q4 q5 q6 q7
    obtain ⟨a1, a2, a3, a4, a5⟩ := HE.out
    refine bodyPost_ret (v := wdV 0 pb pj 0 0 (.slice ob pB cb) (.slice oj pJ cj) (.slice oc pC cc)) (by simp [results, Tryz.results5, go_sem, q0, q1, q2, q3, q4, q5, q6, q7]) rfl ⟨P, _, rfl, ⟨ob, oj, cb, cj, by rw [a1, a2, a3, a4, a5, HOC.out.1, HOC.out.2], ?_⟩, HPk.out.1, ?_, ?_⟩
    ·have h := (HL.out.but kV (fun b hb => hb)).free (Y := Nil0) (fun b hb => hb.elim)
     rw [HOC.out.1, HOC.out.2] at h
     exact h
    ·exact HPk.out.2.mono (by omega)
    ·exact But.made_ HM1.out kV HM1.out.1.size (fun b hb => by rcases hb with hb | hb <;> omega)
  ·obtain ⟨b, off, e, hbl, _⟩ := HLs.out (by rw [HN.out]; exact h0)
   cases e
   go_wp2_with fail
   go_loopg [7, 16] m (fun gg s7 s16 wx => ∃ (k : Nat) (P : PW), k + gg = m ∧ s16 = .int .i64 (k : Nat) ∧ Hid ((Made w.heap.size w wx ∧ Has wx gr 31 #[.int .i64 0, .int .i64 0, .int .i64 0, .int .i64 0, .int .i64 0, .slice none 0 0, .slice none 0 0, .slice none 0 0]) ∧ WV0 (fun b => b = gr ∨ b = gm) wx gm P ∧ (POk P ∧ Small P k)))
   case atStart => exact ⟨0, ⟨1, 1, [], [], []⟩, by omega, rfl, ⟨K2.out, HR2.out⟩, HV2.out, ok_new, rfl, Nat.le_refl _, Nat.le_refl _, by show (1 : Int) ≤ _; omega, by show (1 : Int) ≤ _; omega⟩
   case round =>
    obtain ⟨k, P, hk, rfl, HB⟩ := hrel
    by_cases hlt : k < m
    ·obtain ⟨d, ed⟩ : ∃ a, l[k]? = some a := ⟨_, List.getElem?_eq_getElem (by rw [HN.out]; omega)⟩
     have hDk := HD.out wr HB.out.1.1
     obtain ⟨b', off', e, hbl', hLB⟩ := hDk.1 (by rw [HN.out]; omega)
     cases e
     have HRg := hid (hLB.rangeAt ed)
     have HDI := hid (hDk.2 d (List.mem_of_getElem? ed))
     obtain ⟨cs, ecs⟩ : ∃ cs, encD d = cs := ⟨_, rfl⟩
     have hlen : cs.length = 30 := by rw [← ecs]; exact encD_len d
     have h1c : ∀ v ∈ cs, v.oneCell' = true := by rw [← ecs]; exact encD_one d
     have HCS : Hid (deV d = .agg cs.toArray) := by unfold Hid; rw [← ecs]; rfl
     rw [ecs] at HRg
     have H1C := hid h1c
     have HLEN := hid hlen
     clear hDk hLB ed h1c hlen ecs
     obtain ⟨gd, egd⟩ : ∃ g, wr.heap.size = g := ⟨_, rfl⟩
     have HMk := hid HB.out.1.1
     have HRk := hid HB.out.1.2
     have HVk := hid HB.out.2.1
     have HPk := hid HB.out.2.2
     clear HB
     have lgr : gr < wr.heap.size := HRk.out.here
     obtain ⟨bd, hbd⟩ := dbody_c d HDI.out.1
     have HBD := hid hbd
     clear hbd
     have HTH : Hid ((wr.alloc (.cells #[.int .i64 0, .int .i64 0, .int .i64 0, .int .i64 0, .int .i64 0, .int .i64 0, .int .i64 0, .int .i64 0, .int .i64 0, .int .i64 0, .int .i64 0, .int .i64 0, .int .i64 0, .int .i64 0, .int .i64 0, .int .i64 0, .int .i64 0, .int .i64 0, .int .i64 0, .int .i64 0, .int .i64 0, .int .i64 0, .int .i64 0, .int .i64 0, .int .i64 0, .int .i64 0, .int .i64 0, .int .i64 0, .int .i64 0, .slice none 0 0] 74)).there gd 0 cs.length) := by unfold Hid; rw [HLEN.out, ← egd]; exact there_of (has_new _ _ _) (by decide)
     go_upto_region 5 with (first
      | refine wpList_load_mid rfl 74 (.tmp 18) rfl b (off + k * 30) rfl cs _ HRg.out Tryz.underlying74 rfl (by rw [HLEN.out]; kernel_rfl) ?_
      | refine wpList_store_mid rfl 74 (.tmp 7) (.tmp 19) rfl gd 0 cs.toArray rfl rfl HTH.out (by rw [List.size_toArray, HLEN.out]; kernel_rfl) (all_oneCell_toArray H1C.out) ?_)
     obtain ⟨W4, e4⟩ : ∃ V, V = (wr.alloc (.cells #[.int .i64 0, .int .i64 0, .int .i64 0, .int .i64 0, .int .i64 0, .int .i64 0, .int .i64 0, .int .i64 0, .int .i64 0, .int .i64 0, .int .i64 0, .int .i64 0, .int .i64 0, .int .i64 0, .int .i64 0, .int .i64 0, .int .i64 0, .int .i64 0, .int .i64 0, .int .i64 0, .int .i64 0, .int .i64 0, .int .i64 0, .int .i64 0, .int .i64 0, .int .i64 0, .int .i64 0, .int .i64 0, .int .i64 0, .slice none 0 0] 74)).setCells gd 0 cs.toArray.toList := ⟨_, rfl⟩
     have k4 : Made wr.heap.size wr W4 := by rw [e4]; exact Made.setCells (Nat.le_of_eq egd) _ _ ((Made.rfl_ _ _).cells (Nat.le_refl _) _ _)
     have HRd : Hid (W4.rangeAt gd 0 cs) := by unfold Hid; rw [e4]; exact World.rangeAt_setCells_same _ _ _ _ HTH.out
     rw [← e4]
     clear e4
     have K4 := hid (HMk.out.then_ (k4.low HMk.out.1.size))
     have HRk4 := hid (HRk.out.stays k4 lgr)
     have HVk4 := hid (WVarO.kept HVk.out k4)
     have HS4 : Hid (Sl W4 d.rao d.rn d.rf) := fun hn => by obtain ⟨b, off, e, hp⟩ := HDI.out.2 hn; exact ⟨b, off, e, hp.kept k4⟩
     have HDO := hid (do_0 (X := fun b => b = gr ∨ b = gm) d bd HBD.out HDI.out.1 HVk4.out HPk.out.1 (.inr rfl) (fun b hb => by
      rcases hb with hb | hb
      ·rw [hb]; exact HRk4.out.here
      ·rw [hb]; exact WVar.here HVk4.out.up) HS4.out (by rw [HPk.out.2.1]; simp))
     rw [HCS.out] at HDO
     clear k4 HTH HRk HVk HMk lgr
     go_wp2_with (refine wpList_load_mid rfl 74 (.tmp 7) rfl gd 0 rfl cs _ HRd.out Tryz.underlying74 rfl (by rw [HLEN.out]; kernel_rfl) ?_)
     refine HDO.out.mono ?_
     rintro e w5 ⟨n', er, gone, P', rfl, hst, hv, kb⟩
     have HST := hid hst
     have HV5 := hid hv
     have HR5 := hid (HRk4.out.but kb (by show ¬ gr = gm; omega))
     have K5 : Hid (Made w.heap.size w w5) := But.made_ K4.out kb K4.out.1.size (fun b hb => by have hb : b = gm := hb; omega)
     clear hst hv kb HDO
     go_wp2_with fail
     go_roundg (m - (k + 1))
     case measure => omega
     case rel => exact ⟨k + 1, P', by omega, by go_num, ⟨K5.out, HR5.out⟩, HV5.out, step_ok HPk.out.1 HST.out, step_small HPk.out.2 HST.out⟩
    ·have hkm : k = m := by omega
     subst hkm
     obtain ⟨ob, oj, oc, cb, cj, cc, hoc, hH, hL⟩ := WV0.open HB.out.2.1
     have HOC := hid hoc
     clear hoc
     have HL := hid hL
     have HH := hid hH
     obtain ⟨pB, eB⟩ : ∃ m, P.B.length = m := ⟨_, rfl⟩
     obtain ⟨pJ, eJ⟩ : ∃ m, P.J.length = m := ⟨_, rfl⟩
     obtain ⟨pC, eC⟩ : ∃ m, P.C.length = m := ⟨_, rfl⟩
     obtain ⟨pb, eb⟩ : ∃ m, P.nb = m := ⟨_, rfl⟩
     obtain ⟨pj, ej⟩ : ∃ m, P.nj = m := ⟨_, rfl⟩
     rw [eB, eJ, eC, eb, ej] at HH
     have HE := hid (And.intro eB (And.intro eJ (And.intro eC (And.intro eb ej))))
     have HR1 := hid (HB.out.1.2)
     have HM1 := hid (HB.out.1.1)
     have HPk := hid HB.out.2.2
     clear hH hL HB eB eJ eC eb ej
     have b0 := HH.out.at_ 0
     have b1 := HH.out.at_ 1
     have b2 := HH.out.at_ 2
     have b3 := HH.out.at_ 3
     have b4 := HH.out.at_ 4
     have b5 := HH.out.at_ 5
     have b6 := HH.out.at_ 6
     have b7 := HH.out.at_ 7
     simp at b0 b1 b2 b3 b4 b5 b6 b7
     have lm : gm < wr.heap.size := HH.out.here
     have c0 := HR1.out.at_ 0
     have c1 := HR1.out.at_ 1
     have c2 := HR1.out.at_ 2
     have c3 := HR1.out.at_ 3
     have c4 := HR1.out.at_ 4
     have c5 := HR1.out.at_ 5
     have c6 := HR1.out.at_ 6
     have c7 := HR1.out.at_ 7
     simp at c0 c1 c2 c3 c4 c5 c6 c7
     have lr : gr < wr.heap.size := HR1.out.here
     have fr : ∀ i, wr.frozen? ⟨gr, i, none⟩ = false := HR1.out.free
     go_wp2_with fail
     obtain ⟨V, eV⟩ : ∃ V, V = (((((((wr.setCell ⟨gr, 0, none⟩ (.int .i64 0)).setCell ⟨gr, 1, none⟩ (.int .i64 pb)).setCell ⟨gr, 2, none⟩ (.int .i64 pj)).setCell ⟨gr, 3, none⟩ (.int .i64 0)).setCell ⟨gr, 4, none⟩ (.int .i64 0)).setCell ⟨gr, 5, none⟩ (.slice ob pB cb)).setCell ⟨gr, 6, none⟩ (.slice oj pJ cj)).setCell ⟨gr, 7, none⟩ (.slice oc pC cc) := ⟨_, rfl⟩
     have hV : Has V gr 31 #[.int .i64 0, .int .i64 pb, .int .i64 pj, .int .i64 0, .int .i64 0, .slice ob pB cb, .slice oj pJ cj, .slice oc pC cc] := by rw [eV]; exact (((((((HR1.out.put 0 _).put 1 _).put 2 _).put 3 _).put 4 _).put 5 _).put 6 _).put 7 _
     have kV : But (fun b => b = gr ∨ b = gm) wr V := by rw [eV]; exact ((((((((But.rfl_ (fun b => b = gr ∨ b = gm) _).put (p := ⟨gr, 0, none⟩) (.inl (.inl rfl)) _).put (p := ⟨gr, 1, none⟩) (.inl (.inl rfl)) _).put (p := ⟨gr, 2, none⟩) (.inl (.inl rfl)) _).put (p := ⟨gr, 3, none⟩) (.inl (.inl rfl)) _).put (p := ⟨gr, 4, none⟩) (.inl (.inl rfl)) _).put (p := ⟨gr, 5, none⟩) (.inl (.inl rfl)) _).put (p := ⟨gr, 6, none⟩) (.inl (.inl rfl)) _).put (p := ⟨gr, 7, none⟩) (.inl (.inl rfl)) _
     rw [← eV]
     clear eV c0 c1 c2 c3 c4 c5 c6 c7
     have q0 := hV.at_ 0
     have q1 := hV.at_ 1
     have q2 := hV.at_ 2
     have q3 := hV.at_ 3
     have q4 := hV.at_ 4
     have q5 := hV.at_ 5
     have q6 := hV.at_ 6
     have q7 := hV.at_ 7
     simp at q0 q1 q2 q3 q4 q5 q6 q7
     obtain ⟨a1, a2, a3, a4, a5⟩ := HE.out
     refine bodyPost_ret (v := wdV 0 pb pj 0 0 (.slice ob pB cb) (.slice oj pJ cj) (.slice oc pC cc)) (by simp [results, Tryz.results5, go_sem, q0, q1, q2, q3, q4, q5, q6, q7]) rfl ⟨P, _, rfl, ⟨ob, oj, cb, cj, by rw [a1, a2, a3, a4, a5, HOC.out.1, HOC.out.2], ?_⟩, HPk.out.1, ?_, ?_⟩
     ·have h := (HL.out.but kV (fun b hb => hb)).free (Y := Nil0) (fun b hb => hb.elim)
      rw [HOC.out.1, HOC.out.2] at h
      exact h
     ·exact HPk.out.2.mono (by omega)
     ·exact But.made_ HM1.out kV HM1.out.1.size (fun b hb => by rcases hb with hb | hb <;> omega)
theorem made_c {l : List De} {ao : Option Addr} {n c : Nat} {w : World} (most : Nat) (hmost : most ≤ 64) (hn : l.length = n) (hD : DesAt w ao l) (hnc : n ≤ c) (hcm : c ≤ maxLen) (ho : (ao = none ∧ n = 0 ∧ c = 0) ∨ ∃ a, ao = some a) :
  Calls Tryz.prog 5 #[.slice ao n c, .int .i64 (most : Nat)] w fun e v => ∃ P val, e = .returned val ∧ WVal Nil0 v val P ∧ POk P ∧ Small P most ∧ Made w.heap.size w v :=
 (made_0 most hmost hn hD hnc hcm ho).mono fun _ _ ⟨P, val, h1, h2, h3⟩ => ⟨P, val, h1, h2.up, h3⟩
end Go.Proofs.YtjhcejmfiekjgaaGreat.Fx
/- The anchor; world variables in walks. -/
namespace Go.Proofs.YtjhcejmfiekjgaaGreat.Fx
open Go.ChangeShapes Go.WideShapes Go.ChangeAt Go.RowKit
set_option linter.unusedVariables false
theorem i64_0 : I64 0 := by unfold I64; omega
theorem disc_ok (d : Int) (h0 : 0 ≤ d) (h1 : d ≤ 4398046511104) : BodyP ⟨0, 0, 0, 0, 0, 0, 0, d, 1, 4294967296, none, 0, 0, fun _ => (0, 0)⟩ :=
 ⟨.inl ⟨rfl, rfl, (by show (16777216 : Int) ≤ 4294967296; decide), (by show (4294967296 : Int) ≤ 274877906944; decide)⟩, by unfold Inn; simp, by unfold Inn; simp, by unfold Inn; simp, by unfold Inn; simp, by unfold Inn; simp, by simp, ⟨h0, h1⟩, fun _ => ⟨rfl, rfl, rfl⟩⟩
theorem disc_i (d : Int) (h0 : 0 ≤ d) (h1 : d ≤ 4398046511104) : BdI ⟨0, 0, 0, 0, 0, 0, 0, d, 1, 4294967296, none, 0, 0, fun _ => (0, 0)⟩ :=
 ⟨i64_0, i64_0, i64_0, i64_0, i64_0, i64_0, i64_0, by show I64 d; unfold I64; omega, by show I64 1; unfold I64; omega, by show I64 4294967296; unfold I64; omega, fun i hi => absurd hi (by simp)⟩
end Go.Proofs.YtjhcejmfiekjgaaGreat.Fx
/- WorldNumbers. -/
namespace Go.Proofs.YtjhcejmfiekjgaaGreat.Fx
open Go.ChangeShapes Go.WideShapes Go.ChangeAt Go.RowKit
set_option linter.unusedVariables false
def U8At (w : World) (ao : Option Addr) (n : Nat) (f : Nat → Int) : Prop := 0 < n → ∃ b off, ao = some ⟨b, off, none⟩ ∧ ∀ i, i < n → w.cell? ⟨b, off + i, none⟩ = some (.int .u8 (f i)) ∧ 0 ≤ f i ∧ f i < 256
theorem U8At.kept {w v : World} {ao : Option Addr} {n : Nat} {f : Nat → Int} (h : U8At w ao n f) (k : Made w.heap.size w v) : U8At v ao n f := fun hn => by
 obtain ⟨b, off, e, h⟩ := h hn
 exact ⟨b, off, e, fun i hi => ⟨k.reads (h i hi).1, (h i hi).2⟩⟩
end Go.Proofs.YtjhcejmfiekjgaaGreat.Fx
/- WorldRights. -/
namespace Go.Proofs.YtjhcejmfiekjgaaGreat.Fx
open Go.ChangeShapes Go.WideShapes Go.ChangeAt Go.RowKit
set_option linter.unusedVariables false
theorem SameB.i {b b' : Bd} (h : SameB b b') (k : BdI b) : BdI b' := by
 obtain ⟨h0, h1, h2, h3, h4, h5, h6, h7, h8, h9, h10, h11⟩ := h
 exact ⟨h0 ▸ k.id, h1 ▸ k.x, h2 ▸ k.y, h3 ▸ k.vx, h4 ▸ k.vy, h5 ▸ k.an, h6 ▸ k.sp, h7 ▸ k.de, h8 ▸ k.k, h9 ▸ k.r, h10 ▸ h11 ▸ k.f⟩
theorem same_at {B B' : List Bd} {n : Nat} (hn : B.length = n) (hn' : B'.length = n) (h : ∀ (i : Nat) b b', B[i]? = some b → B'[i]? = some b' → SameB b b') {i : Nat} {b' : Bd} (hb : B'[i]? = some b') : ∃ b, B[i]? = some b ∧ SameB b b' := by
 have hi := (List.getElem?_eq_some_iff.1 hb).1
 have hx : B[i]? = some (B[i]'(by omega)) := List.getElem?_eq_getElem (by omega)
 exact ⟨_, hx, h i _ _ hx hb⟩
end Go.Proofs.YtjhcejmfiekjgaaGreat.Fx
/- Regions that draw their order: quiet operations and makings in any order that the text gives, later ones on the answers of earlier ones, and pure ones that come up late; then the others, in one order alone. -/
namespace Go.Proofs.YtjhcejmfiekjgaaGreat.Fx.MI
open Go.ChangeShapes Go.WideShapes Go.ChangeAt Go.RowKit
set_option linter.unusedVariables false
structure Ex where
 hi : Nat
 v : Value
 bs : List Bd
instance : OfNat Ex 0 := ⟨⟨0, .bool false, []⟩⟩
def upd (G : Nat → Option (Nat × Ex)) (i : Nat) (t : Nat × Ex) : Nat → Option (Nat × Ex) := fun x => if x = i then some t else G x
theorem upd_comm (G : Nat → Option (Nat × Ex)) {i j : Nat} (h : i ≠ j) (g k : Nat × Ex) : upd (upd G i g) j k = upd (upd G j k) i g := by
 funext x; unfold upd
 by_cases h1 : x = i
 ·have h2 : ¬ x = j := fun e => h (h1.symm.trans e)
  simp [h1, h]
 ·simp [h1]
def Cm (w : World) (al : Nat → World → Nat → Ex → Prop) (G : Nat → Option (Nat × Ex)) (v : World) : Prop :=
 Made w.heap.size w v ∧ (∀ i t, G i = some t → w.heap.size ≤ t.1 ∧ t.1 ≤ t.2.hi ∧ t.2.hi ≤ v.heap.size ∧ al i v t.1 t.2) ∧ (∀ i j t u, G i = some t → G j = some u → i ≠ j → t.2.hi ≤ u.1 ∨ u.2.hi ≤ t.1)
def Lasts (al : Nat → World → Nat → Ex → Prop) : Prop := ∀ i u v g e, al i u g e → e.hi ≤ u.heap.size → Made u.heap.size u v → al i v g e
def MkUpon (P : Program) (w : World) (al : Nat → World → Nat → Ex → Prop) (val : Nat → Nat → Ex → Value) (i : Nat) (G : Nat → Option (Nat × Ex)) : Result Next → Prop
 | .ok (.value x) u' => ∃ g e, x = val i g e ∧ Cm w al (upd G i (g, e)) u'
 | .ok (.enter f args) u' => Calls P f args u' fun z u'' => ∃ g e, z = .returned (val i g e) ∧ Cm w al (upd G i (g, e)) u''
 | _ => False
def agree (ds : List Nat) (G G' : Nat → Option (Nat × Ex)) : Prop := ∀ m, m ∈ ds → G' m = G m
theorem agree.rfl_ (ds : List Nat) (G : Nat → Option (Nat × Ex)) : agree ds G G := fun _ _ => rfl
theorem agree_un {ds : List Nat} {G G' : Nat → Option (Nat × Ex)} {i : Nat} {g : Nat × Ex} (h : agree ds (upd G i g) G') (hi : i ∉ ds) : agree ds G G' := fun m hm => by
 have hne : m ≠ i := fun e => hi (e ▸ hm)
 rw [h m hm]; unfold upd; rw [if_neg hne]
section
variable {P : Program} {ops : Array Oper} {md : Region.Mode} {w : World} {al : Nat → World → Nat → Ex → Prop} {val : Nat → Nat → Ex → Value} {k : Nat} {qs ms ps : List Nat} {dp : Nat → List Nat}
def YD (P : Program) (ops : Array Oper) (w : World) (al : Nat → World → Nat → Ex → Prop) (ds : List Nat) (G : Nat → Option (Nat × Ex)) (o : Oper) (v : Value) (a : Act) : Prop :=
 ∀ G', agree ds G G' → (∃ u, Cm w al G' u) → YieldsIn P ops (Cm w al G') o v a
theorem YD.put {ds : List Nat} {G : Nat → Option (Nat × Ex)} {oi oj : Oper} {v u : Value} {a : Act} (hy : YD P ops w al ds G oi v a) (hsi : ∀ cs b, oi.op ≠ .select cs b) (h : ∀ d, oj.dst = some d → d ∉ oi.looksAt ops) : YD P ops w al ds G oi v (a.put oj.dst u) :=
 fun G' ha hG => (hy G' ha hG).of_same (execOp_put oi hsi a oj.dst u h) (wanted_put oi a oj.dst u h)
theorem YD.more {ds : List Nat} {G : Nat → Option (Nat × Ex)} {i : Nat} {g : Nat × Ex} {o : Oper} {v : Value} {a : Act} (hy : YD P ops w al ds G o v a) (hi : i ∉ ds) : YD P ops w al ds (upd G i g) o v a := fun G' ha hG => hy G' (agree_un ha hi) hG
structure MkD (P : Program) (w : World) (al : Nat → World → Nat → Ex → Prop) (val : Nat → Nat → Ex → Value) (ds : List Nat) (G : Nat → Option (Nat × Ex)) (i : Nat) (o : Oper) (d : Tmp) (a : Act) : Prop where
 dst : o.dst = some d
 guard : o.guard = none
 runs : ∀ G' u, agree ds G G' → Cm w al G' u → MkUpon P w al val i G' ((execOp a.eval o).run P u)
theorem MkD.put {ds : List Nat} {G : Nat → Option (Nat × Ex)} {i : Nat} {oi oj : Oper} {d : Tmp} {u : Value} {a : Act} (h : MkD P w al val ds G i oi d a) (hsi : ∀ cs b, oi.op ≠ .select cs b) (hd : ∀ x, oj.dst = some x → x ∉ oi.looksAt ops) : MkD P w al val ds G i oi d (a.put oj.dst u) :=
 ⟨h.dst, h.guard, fun G' x ha hx => by rw [execOp_put (ops := ops) oi hsi a oj.dst u hd]; exact h.runs G' x ha hx⟩
theorem MkD.more {ds : List Nat} {G : Nat → Option (Nat × Ex)} {i j : Nat} {g : Nat × Ex} {o : Oper} {d : Tmp} {a : Act} (h : MkD P w al val ds G j o d a) (hi : i ∉ ds) : MkD P w al val ds (upd G i g) j o d a := ⟨h.dst, h.guard, fun G' x ha hx => h.runs G' x (agree_un ha hi) hx⟩
def depB (md : Region.Mode) (ops : Array Oper) (j i : Nat) : Bool := Region.waitsFor md ops j i || (down md ops 6 ((List.range ops.size).filter fun x => Region.waitsFor md ops j x)).contains i
def GM (P : Program) (md : Region.Mode) (ops : Array Oper) (w : World) (al : Nat → World → Nat → Ex → Prop) (val : Nat → Nat → Ex → Value) (k : Nat) (qs ms : List Nat) (dp : Nat → List Nat) (g : Nat) (Q : Exit → Act → World → Prop) (L : (Nat → Option (Nat × Ex)) → Array Bool → Act → Prop) : Nat → (Nat → Option (Nat × Ex)) → Array Bool → Act → Prop
 | 0, G, got, a => L G got a
 | f + 1, G, got, a => Region.ready md ops got ≠ [] ∧ ∀ i ∈ Region.ready md ops got,
   (i ∈ qs ∧ i < k ∧ ∃ o v, ops[i]? = some o ∧ YD P ops w al (dp i) G o v a ∧ GM P md ops w al val k qs ms dp g Q L f G (got.setIfInBounds i true) (a.put o.dst v)) ∨
   (i ∈ ms ∧ i < k ∧ ∃ o d, ops[i]? = some o ∧ MkD P w al val (dp i) G i o d a ∧ ∀ b e, GM P md ops w al val k qs ms dp g Q L f (upd G i (b, e)) (got.setIfInBounds i true) (a.put (some d) (val i b e))) ∨
   (i = k ∧ ∀ u, Cm w al G u → wpOp P ops Q i (wpAny P md ops Q (f + g) (got.setIfInBounds i true)) a u)
def ordB (md : Region.Mode) (ops : Array Oper) (g k : Nat) (qs ms : List Nat) : List Nat → Array Bool → Bool
 | [], got => Region.seqB md ops g k got
 | i :: l, got => (Region.ready md ops got).contains i && Region.free md ops got i && (qs.contains i || (ms.contains i && qs.all fun j => got.getD j true || depB md ops j i)) && ordB md ops g k qs ms l (got.setIfInBounds i true)
def Can (P : Program) (ops : Array Oper) (w : World) (al : Nat → World → Nat → Ex → Prop) (val : Nat → Nat → Ex → Value) (qs ms : List Nat) (dp : Nat → List Nat) (Lq : (Nat → Option (Nat × Ex)) → Act → Prop) : List Nat → (Nat → Option (Nat × Ex)) → Act → Prop
 | [], G, a => Lq G a
 | i :: l, G, a => (qs.contains i = true ∧ ∃ o v, ops[i]? = some o ∧ YD P ops w al (dp i) G o v a ∧ Can P ops w al val qs ms dp Lq l G (a.put o.dst v)) ∨
   (qs.contains i = false ∧ ∃ o d, ops[i]? = some o ∧ MkD P w al val (dp i) G i o d a ∧ ∀ b e, Can P ops w al val qs ms dp Lq l (upd G i (b, e)) (a.put (some d) (val i b e)))
def mkB (md : Region.Mode) (ops : Array Oper) (k : Nat) (cs qs ms ps : List Nat) (dp : Nat → List Nat) : Bool :=
 Region.noSelect ops && decide (k < ops.size) && FS.waitB md ops k ps && Region.chainB md ops k && cs.all (fun i => decide (i < k)) && decide (cs.length = k) && (List.range k).all (fun j => (dp j).all fun m => depB md ops j m) && ms.all (fun i => !(ps.contains i)) && ordB md ops (ops.size - k) k qs ms cs (Array.replicate ops.size false)
end
section
variable {P : Program}
theorem any_class {w : World} {al : Nat → World → Nat → Ex → Prop} (G : Nat → Option (Nat × Ex)) : ∃ G', agree [] G G' ∧ ∃ u, Cm w al G' u :=
 ⟨fun _ => none, fun m hm => (by cases hm), w, Made.rfl_ _ _, fun i g e => (by cases e), fun i j t u e => (by cases e)⟩
end
end Go.Proofs.YtjhcejmfiekjgaaGreat.Fx.MI
/- Regions that draw their order, the head of which is no first stretch of the text: as Mak, with a set of operations in the place of 'the first k'. -/
namespace Go.Proofs.YtjhcejmfiekjgaaGreat.Fx.MJ
open Go.ChangeShapes Go.WideShapes Go.ChangeAt Go.RowKit MI
set_option linter.unusedVariables false
structure HI (md : Region.Mode) (ops : Array Oper) (hd : Nat → Bool) (listed : Array Bool) : Prop where
 size : listed.size = ops.size
 closed : ∀ j oj, ops[j]? = some oj → listed.getD j false = true → ∀ e ∈ oj.after, Region.binds md e = true → listed.getD e.on false = true
 tail : ∀ t, t < ops.size → hd t = false → listed.getD t true = false
section
variable {ops : Array Oper} {md : Region.Mode} {hd : Nat → Bool}
def chainS (md : Region.Mode) (ops : Array Oper) (hd : Nat → Bool) (k : Nat) : Bool :=
 (List.range ops.size).all fun t => hd t || t == k || (List.range ops.size).any fun u => !hd u && Region.waitsFor md ops t u
def waitS (md : Region.Mode) (ops : Array Oper) (hd : Nat → Bool) (k : Nat) (ps : List Nat) : Bool := (List.range ops.size).all fun i => !hd i || ps.contains i || Region.waitsFor md ops k i || (down md ops 6 ((List.range ops.size).filter fun j => Region.waitsFor md ops k j)).contains i
def seqS (md : Region.Mode) (ops : Array Oper) : List Nat → Array Bool → Bool
 | [], listed => (Region.ready md ops listed).isEmpty
 | k :: ts, listed => decide (Region.ready md ops listed = [k]) && seqS md ops ts (listed.setIfInBounds k true)
end
section
variable {P : Program} {ops : Array Oper} {md : Region.Mode} {w : World} {al : Nat → World → Nat → Ex → Prop} {val : Nat → Nat → Ex → Value} {hd : Nat → Bool} {k : Nat} {ts qs ms ps : List Nat} {dp : Nat → List Nat}
def GM (P : Program) (md : Region.Mode) (ops : Array Oper) (hd : Nat → Bool) (w : World) (al : Nat → World → Nat → Ex → Prop) (val : Nat → Nat → Ex → Value) (k : Nat) (qs ms : List Nat) (dp : Nat → List Nat) (g : Nat) (Q : Exit → Act → World → Prop) (L : (Nat → Option (Nat × Ex)) → Array Bool → Act → Prop) : Nat → (Nat → Option (Nat × Ex)) → Array Bool → Act → Prop
 | 0, G, got, a => L G got a
 | f + 1, G, got, a => Region.ready md ops got ≠ [] ∧ ∀ i ∈ Region.ready md ops got,
   (i ∈ qs ∧ hd i = true ∧ ∃ o v, ops[i]? = some o ∧ YD P ops w al (dp i) G o v a ∧ GM P md ops hd w al val k qs ms dp g Q L f G (got.setIfInBounds i true) (a.put o.dst v)) ∨
   (i ∈ ms ∧ hd i = true ∧ ∃ o d, ops[i]? = some o ∧ MkD P w al val (dp i) G i o d a ∧ ∀ b e, GM P md ops hd w al val k qs ms dp g Q L f (MI.upd G i (b, e)) (got.setIfInBounds i true) (a.put (some d) (val i b e))) ∨
   (i = k ∧ ∀ u, Cm w al G u → wpOp P ops Q i (wpAny P md ops Q (f + g) (got.setIfInBounds i true)) a u)
def ordS (md : Region.Mode) (ops : Array Oper) (ts qs ms : List Nat) : List Nat → Array Bool → Bool
 | [], got => seqS md ops ts got
 | i :: l, got => (Region.ready md ops got).contains i && Region.free md ops got i && (qs.contains i || (ms.contains i && qs.all fun j => got.getD j true || depB md ops j i)) && ordS md ops ts qs ms l (got.setIfInBounds i true)
def mkS (md : Region.Mode) (ops : Array Oper) (k : Nat) (ts cs qs ms ps : List Nat) (dp : Nat → List Nat) : Bool :=
 Region.noSelect ops && !(cs.contains k) && waitS md ops (fun i => cs.contains i) k ps && chainS md ops (fun i => cs.contains i) k && ts.all (fun t => !(cs.contains t)) && decide (cs.length + ts.length = ops.size) && cs.all (fun j => (dp j).all fun m => depB md ops j m) && ms.all (fun i => !(ps.contains i)) && ordS md ops ts qs ms cs (Array.replicate ops.size false)
end
section
variable {P : Program}
end
end Go.Proofs.YtjhcejmfiekjgaaGreat.Fx.MJ
/- Copies of a world, each in a stretch of blocks of its own. -/
namespace Go.Proofs.YtjhcejmfiekjgaaGreat.Fx
open Go.ChangeShapes Go.WideShapes Go.ChangeAt Go.RowKit
set_option linter.unusedVariables false
def SameBs (B B' : List Bd) : Prop := B'.length = B.length ∧ ∀ (i : Nat) b b', B[i]? = some b → B'[i]? = some b' → SameB b b'
def CopyV (P : PW) (v : World) (lo : Nat) (e : MI.Ex) : Prop :=
 ∃ ob oj cb cj, e.v = wdV 0 P.nb P.nj 0 0 (.slice ob P.B.length cb) (.slice oj P.J.length cj) (.slice none 0 0) ∧ SameBs P.B e.bs ∧ WLs (fun b => b < lo ∨ e.hi ≤ b) v ob cb e.bs oj cj P.J none 0 [] ∧
  (0 < P.B.length → ∃ g, ob = some ⟨g, 0, none⟩ ∧ RowL encB 11 v g 43 P.B.length e.bs) ∧ (0 < P.B.length → 0 < P.J.length → ∀ g o s o' s', ob = some ⟨g, o, s⟩ → oj = some ⟨g, o', s'⟩ → False) ∧ (0 < P.J.length → ∃ g, oj = some ⟨g, 0, none⟩) ∧ ∀ b ∈ e.bs, Mine (fun g => ob = some ⟨g, 0, none⟩ ∨ oj = some ⟨g, 0, none⟩) lo v b
theorem CopyV.kept {P : PW} {u v : World} {lo : Nat} {e : MI.Ex} (h : CopyV P u lo e) (hh : e.hi ≤ u.heap.size) (k : Made u.heap.size u v) : CopyV P v lo e := by
 obtain ⟨ob, oj, cb, cj, h1, h2, h3, h4, h6, h7, h5⟩ := h
 refine ⟨ob, oj, cb, cj, h1, h2, h3.kept k, fun hn => ?_, h6, h7, fun b hb => MadeMine (h5 b hb) k⟩
 obtain ⟨g, e, hr⟩ := h4 hn
 exact ⟨g, e, hr.stays k hr.here⟩
theorem same_in {B B' : List Bd} (h : SameBs B B') {b' : Bd} (hb : b' ∈ B') : ∃ b ∈ B, SameB b b' := by
 obtain ⟨i, hi⟩ := List.mem_iff_getElem?.1 hb
 obtain ⟨b, hb, hs⟩ := same_at rfl h.1 h.2 hi
 exact ⟨b, List.mem_of_getElem? hb, hs⟩
theorem SameB.ok {b b' : Bd} (h : SameB b b') (k : BodyP b) : BodyP b' := by
 obtain ⟨h0, h1, h2, h3, h4, h5, h6, h7, h8, h9, h10, h11⟩ := h
 refine ⟨?_, ?_, ?_, ?_, ?_, ?_, ?_, ?_, ?_⟩
 ·rw [h8, h9, h10, h11]; exact k.shape
 ·rw [h1]; exact k.x
 ·rw [h2]; exact k.y
 ·rw [h3]; exact k.vx
 ·rw [h4]; exact k.vy
 ·rw [h6]; exact k.sp
 ·rw [h5]; exact k.an
 ·rw [h7]; exact k.de
 ·rw [h7, h3, h4, h6]; exact k.still
theorem SameB.eqb {b b' : Bd} (h : SameB b b') : EqB b b' := by
 obtain ⟨h0, h1, h2, h3, h4, h5, h6, h7, h8, h9, h10, h11⟩ := h
 exact ⟨h0.symm, ⟨h1.symm, h2.symm⟩, ⟨h3.symm, h4.symm⟩, h5.symm, h6.symm, h7.symm, h8.symm, h9.symm, h10.symm, fun i _ => by rw [h11]⟩
theorem EqB.symm {b b' : Bd} (h : EqB b b') : EqB b' b := by
 obtain ⟨h0, h1, h2, h3, h4, h5, h6, h7, h8, h9⟩ := h
 exact ⟨h0.symm, ⟨h1.1.symm, h1.2.symm⟩, ⟨h2.1.symm, h2.2.symm⟩, h3.symm, h4.symm, h5.symm, h6.symm, h7.symm, h8.symm, fun i hi => (h9 i (h8 ▸ hi)).symm⟩
theorem EqB.trans {a b c : Bd} (h : EqB a b) (k : EqB b c) : EqB a c := by
 obtain ⟨h0, h1, h2, h3, h4, h5, h6, h7, h8, h9⟩ := h
 obtain ⟨k0, k1, k2, k3, k4, k5, k6, k7, k8, k9⟩ := k
 exact ⟨h0.trans k0, ⟨h1.1.trans k1.1, h1.2.trans k1.2⟩, ⟨h2.1.trans k2.1, h2.2.trans k2.2⟩, h3.trans k3, h4.trans k4, h5.trans k5, h6.trans k6, h7.trans k7, h8.trans k8, fun i hi => (h9 i hi).trans (k9 i (h8 ▸ hi))⟩
theorem SameBs.eq {B B' : List Bd} (h : SameBs B B') : EqBs B B' := ⟨h.1.symm, fun i x y hx hy => (h.2 i x y hx hy).eqb⟩
theorem EqBs.symm {B B' : List Bd} (h : EqBs B B') : EqBs B' B := ⟨h.1.symm, fun i x y hx hy => (h.2 i y x hy hx).symm⟩
theorem EqBs.trans {A B C : List Bd} (h : EqBs A B) (k : EqBs B C) : EqBs A C := ⟨h.1.trans k.1, fun i x z hx hz => by
 have hi := (List.getElem?_eq_some_iff.1 hx).1
 have hy : B[i]? = some (B[i]'(by rw [← h.1]; exact hi)) := List.getElem?_eq_getElem _
 exact (h.2 i _ _ hx hy).trans (k.2 i _ _ hy hz)⟩
abbrev Out (lo hi : Nat) : Nat → Prop := fun b => b < lo ∨ hi ≤ b
def turnB (ao : Option Addr) (p : Int) (b : Bd) : Bd := ⟨b.id, b.x, b.y, b.vx, b.vy, b.an, b.sp, b.de, b.k, b.r, b.ao, b.n, b.c, open Classical in if b.ao = ao ∧ 0 < b.n then fun i => if i = 0 then (p, (b.f 0).2) else b.f i else b.f⟩
theorem LsT.map {α : Type} {enc : α → List Value} {k : Nat} {w : World} {ao : Option Addr} {l : List α} (h : LsT enc k w ao l) (g : α → α) (hg : ∀ x, enc (g x) = enc x) : LsT enc k w ao (l.map g) := fun hn => by
 obtain ⟨b, off, e, hb, hl⟩ := h (by simpa using hn)
 refine ⟨b, off, e, hb, fun i x hx j u hu => ?_⟩
 rw [List.getElem?_map] at hx
 cases hy : l[i]? with
 | none => rw [hy] at hx; cases hx
 | some y =>
  rw [hy] at hx
  simp at hx
  rw [← hx, hg] at hu
  exact hl i y hy j u hu
end Go.Proofs.YtjhcejmfiekjgaaGreat.Fx
/- Orders, plain. -/
namespace Go.Proofs.YtjhcejmfiekjgaaGreat.Fx
open Go.ChangeShapes Go.WideShapes Go.ChangeAt Go.RowKit
set_option linter.unusedVariables false
structure Or where
 kd : Int
 id : Int
 a : Int
 b : Int
 x : Int
 y : Int
 vx : Int
 vy : Int
 an : Int
 sp : Int
 de : Int
 ln : Int
 k : Int
 r : Int
 ao : Option Addr
 n : Nat
 c : Nat
 f : Cs
abbrev orV (o : Or) : Value := .agg #[.int .i64 o.kd, .int .i64 o.id, .int .i64 o.a, .int .i64 o.b, .int .i64 o.x, .int .i64 o.y, .int .i64 o.vx, .int .i64 o.vy, .int .i64 o.an, .int .i64 o.sp, .int .i64 o.de, .int .i64 o.ln, .int .i64 o.k, .int .i64 o.r, .slice o.ao o.n o.c]
def encO (o : Or) : List Value := [.int .i64 o.kd, .int .i64 o.id, .int .i64 o.a, .int .i64 o.b, .int .i64 o.x, .int .i64 o.y, .int .i64 o.vx, .int .i64 o.vy, .int .i64 o.an, .int .i64 o.sp, .int .i64 o.de, .int .i64 o.ln, .int .i64 o.k, .int .i64 o.r, .slice o.ao o.n o.c]
structure OrI (o : Or) : Prop where
 kd : I64 o.kd
 id : I64 o.id
 a : I64 o.a
 b : I64 o.b
 x : I64 o.x
 y : I64 o.y
 vx : I64 o.vx
 vy : I64 o.vy
 an : I64 o.an
 sp : I64 o.sp
 de : I64 o.de
 ln : I64 o.ln
 k : I64 o.k
 r : I64 o.r
 f : Cin o.f o.n
def bodyOr (o : Or) : Bd := ⟨0, o.x, o.y, o.vx, o.vy, o.an, o.sp, o.de, o.k, o.r, o.ao, o.n, o.c, o.f⟩
def jointOr (o : Or) : Jt := ⟨0, o.a, o.b, o.x, o.y, o.vx, o.vy, o.ln⟩
theorem OrI.body {o : Or} (h : OrI o) : BdI (bodyOr o) := ⟨i64_0, h.x, h.y, h.vx, h.vy, h.an, h.sp, h.de, h.k, h.r, h.f⟩
def Or.kind (k : Int) : Or := ⟨k, 0, 0, 0, 0, 0, 0, 0, 0, 0, 0, 0, 0, 0, none, 0, 0, fun _ => (0, 0)⟩
def usedOr (o : Or) : Or :=
 if o.kd = 1 then ⟨1, 0, 0, 0, o.x, o.y, o.vx, o.vy, o.an, o.sp, o.de, 0, o.k, o.r, o.ao, o.n, o.c, o.f⟩
 else if o.kd = 2 ∨ o.kd = 4 then { Or.kind o.kd with id := o.id }
 else if o.kd = 3 then ⟨3, 0, o.a, o.b, o.x, o.y, o.vx, o.vy, 0, 0, 0, o.ln, 0, 0, none, 0, 0, fun _ => (0, 0)⟩
 else if o.kd = 5 then ⟨5, o.id, 0, 0, 0, 0, o.vx, o.vy, 0, o.sp, 0, 0, 0, 0, none, 0, 0, fun _ => (0, 0)⟩
 else if o.kd = 6 then ⟨6, 0, 0, 0, 0, 0, o.vx, o.vy, 0, 0, 0, 0, 0, 0, none, 0, 0, fun _ => (0, 0)⟩
 else Or.kind o.kd
def BareO (o : Or) : Prop := o.k = 0 ∧ o.r = 0 ∧ o.n = 0 ∧ o.de = 0 ∧ o.an = 0
def OrderP (o : Or) : Prop :=
 (o.kd = 1 ∧ o.id = 0 ∧ o.a = 0 ∧ o.b = 0 ∧ o.ln = 0 ∧ BodyP (bodyOr o)) ∨
 ((o.kd = 2 ∨ o.kd = 4) ∧ BareO o ∧ 0 < o.id ∧ o.a = 0 ∧ o.b = 0 ∧ (o.x = 0 ∧ o.y = 0) ∧ (o.vx = 0 ∧ o.vy = 0) ∧ o.sp = 0 ∧ o.ln = 0) ∨
 (o.kd = 3 ∧ BareO o ∧ o.id = 0 ∧ o.sp = 0 ∧ JointP (jointOr o)) ∨
 (o.kd = 5 ∧ BareO o ∧ 0 < o.id ∧ o.a = 0 ∧ o.b = 0 ∧ (o.x = 0 ∧ o.y = 0) ∧ o.ln = 0 ∧ Inn o.vx 4611686018427387904 ∧ Inn o.vy 4611686018427387904 ∧ Inn o.sp 4611686018427387904) ∨
 (o.kd = 6 ∧ BareO o ∧ o.id = 0 ∧ o.a = 0 ∧ o.b = 0 ∧ (o.x = 0 ∧ o.y = 0) ∧ o.sp = 0 ∧ o.ln = 0 ∧ Inn o.vx 17592186044416 ∧ Inn o.vy 17592186044416)
end Go.Proofs.YtjhcejmfiekjgaaGreat.Fx
/- The statements' own area, of a polygon and of a circle. -/
namespace Go.Proofs.YtjhcejmfiekjgaaGreat.Fx
open Go.ChangeShapes Go.WideShapes Go.ChangeAt Go.RowKit
set_option linter.unusedVariables false
theorem mul_is (a b r : Int) (w : World) (ha : I64 a) (hb : I64 b) (e : mulF a b = r) : Calls Tryz.prog 12 #[.int .i64 a, .int .i64 b] w fun e w' => e = .returned (.int .i64 r) ∧ w = w' := by subst e; exact mul_c a b w ha hb
theorem sumT_i64 (T : Int × Int → Int × Int → Int) (f : Cs) (n m : Nat) : I64 (sumT T f n m) := i64_rg (sum_rg T f n m)
end Go.Proofs.YtjhcejmfiekjgaaGreat.Fx
/- Plain words for masses: circles, rectangles, densities. No Go in sight. -/
namespace Go.Proofs.YtjhcejmfiekjgaaGreat.Fx
set_option linter.unusedVariables false
def areaC (R : Int) : Int := mulF 13493037705 (mulF R R)
def roundC (R : Int) : Int := divF (mulF (areaC R) (mulF R R)) 8589934592
def massF (d A : Int) : Int := max (mulF d A) 1
end Go.Proofs.YtjhcejmfiekjgaaGreat.Fx
/- What package mass is to answer, as one premise; the statements' own square. -/
namespace Go.Proofs.YtjhcejmfiekjgaaGreat.Fx
open Go.ChangeShapes Go.WideShapes Go.ChangeAt Go.RowKit
set_option linter.unusedVariables false
abbrev massV (m i v s : Int) : Value := .agg #[.int .i64 m, .int .i64 i, .int .i64 v, .int .i64 s]
def massOf (d a r : Int) : Value := if d ≤ 0 then massV 0 0 0 0 else massV (max (mulF d a) 1) (max (mulF d r) 1) (divF 4294967296 (max (mulF d a) 1)) (divF 4294967296 (max (mulF d r) 1))
structure MassSays : Prop where
 area : ∀ (b off n cap : Nat) (f : Cs) (w : World), 0 < n → n ≤ 8 → Pts w b off n f → Cin f n →
  Calls Tryz.prog 71 #[shapeV 2 0 (.slice (some ⟨b, off, none⟩) n cap)] w fun e w' => e = .returned (.int .i64 (sumT areaT f n n)) ∧ Below w.heap.size w w'
 disc : ∀ (R : Int) (w : World), I64 R →
  Calls Tryz.prog 71 #[shapeV 1 R (.slice none 0 0)] w fun e w' => e = .returned (.int .i64 (areaC R)) ∧ Below w.heap.size w w'
 round : ∀ (b off n cap : Nat) (f : Cs) (w : World), 0 < n → n ≤ 8 → Pts w b off n f → Cin f n →
  Calls Tryz.prog 72 #[shapeV 2 0 (.slice (some ⟨b, off, none⟩) n cap)] w fun e w' => e = .returned (.int .i64 (sumT roundT f n n)) ∧ Below w.heap.size w w'
 discRound : ∀ (R : Int) (w : World), I64 R →
  Calls Tryz.prog 72 #[shapeV 1 R (.slice none 0 0)] w fun e w' => e = .returned (.int .i64 (roundC R)) ∧ Below w.heap.size w w'
 of : ∀ (d : Int) (b off n cap : Nat) (f : Cs) (w : World), I64 d → 0 < n → n ≤ 8 → Pts w b off n f → Cin f n →
  Calls Tryz.prog 37 #[bodyV 0 0 0 0 0 0 0 d 2 0 (.slice (some ⟨b, off, none⟩) n cap)] w fun e w' => e = .returned (massOf d (sumT areaT f n n) (sumT roundT f n n)) ∧ Below w.heap.size w w'
 ofDisc : ∀ (d R : Int) (w : World), I64 d → I64 R →
  Calls Tryz.prog 37 #[bodyV 0 0 0 0 0 0 0 d 1 R (.slice none 0 0)] w fun e w' => e = .returned (massOf d (areaC R) (roundC R)) ∧ Below w.heap.size w w'
end Go.Proofs.YtjhcejmfiekjgaaGreat.Fx