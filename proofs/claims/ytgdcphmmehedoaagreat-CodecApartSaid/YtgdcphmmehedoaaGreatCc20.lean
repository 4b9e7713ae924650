/- WlN WlO WlP WlR WsC OrA Rst OrB OrC OrD OrF OrG OrE OrH OrN -/
import Derived.Test.YtgdcphmmehedoaaGreatCc5
import Derived.Test.YtgdcphmmehedoaaGreatCc6
import Derived.Test.YtgdcphmmehedoaaGreatCc14
import Derived.Test.YtgdcphmmehedoaaGreatCc15
import Derived.Test.YtgdcphmmehedoaaGreatCc19
import Derived.Deep.MidRow
import Derived.Deep.LoopGhost
import Derived.LoopN
import Derived.WalkMore
import Derived.BigQuiet
set_option maxRecDepth 100000
set_option maxHeartbeats 64000000
/- Made; the anchor. -/
namespace Go.Proofs.YtgdcphmmehedoaaGreat.Fx
open Go.ChangeShapes Go.WideShapes Go.ChangeAt Go.RowKit
set_option linter.unusedVariables false
theorem encD_one (x : De) : ∀ v ∈ encD x, v.oneCell' = true := by
 intro v hv; simp [encD] at hv; rcases hv with rfl | rfl | rfl | rfl | rfl | rfl | rfl | rfl | rfl | rfl | rfl | rfl | rfl | rfl | rfl | rfl | rfl | rfl | rfl | rfl | rfl | rfl | rfl | rfl | rfl | rfl | rfl | rfl | rfl | rfl <;> rfl
def DesAt (w : World) (ao : Option Addr) (l : List De) : Prop := LsT encD 30 w ao l ∧ ∀ d ∈ l, DeI d ∧ Sl w d.rao d.rn d.rf
theorem DesAt.kept {w v : World} {ao : Option Addr} {l : List De} (h : DesAt w ao l) (k : Made w.heap.size w v) : DesAt v ao l :=
 ⟨h.1.below k.1, fun d hd => ⟨(h.2 d hd).1, fun hn => by obtain ⟨b, off, e, hp⟩ := (h.2 d hd).2 hn; exact ⟨b, off, e, hp.kept k⟩⟩⟩
def Small (P : PW) (m : Nat) : Prop := P.C = [] ∧ P.B.length ≤ m ∧ P.J.length ≤ m ∧ P.nb ≤ 1 + m ∧ P.nj ≤ 1 + m
theorem step_small {b : Bd} {j : Jt} {K id n e : Int} {gone : Bool} {P P' : PW} {m : Nat} (h : Small P m) (k : StepP b j K id P n e gone P') : Small P' (m + 1) := by
 obtain ⟨h1, h2, h3, h4, h5⟩ := h
 have same : Small P (m + 1) := ⟨h1, by omega, by omega, by omega, by omega⟩
 rcases k with ⟨_, _, k⟩ | ⟨_, _, _, k⟩ | ⟨_, _, _, k⟩ | ⟨_, _, k⟩
 ·rcases k with ⟨_, _, _, rfl⟩ | ⟨_, _, _, _, rfl⟩ | ⟨_, _, _, _, _, rfl⟩ | ⟨_, _, _, _, _, _, rfl⟩
  ·exact same
  ·exact same
  ·exact same
  ·exact ⟨h1, by simp only []; omega, by simp only [List.length_append, List.length_singleton]; omega, by simp only []; omega, by simp only []; omega⟩
 ·rcases k with ⟨_, _, rfl⟩ | ⟨_, _, rfl⟩
  ·exact same
  ·refine ⟨by simp [remB, h1], ?_, ?_, ?_, ?_⟩
   ·exact Nat.le_trans (List.length_filter_le _ _) (by omega)
   ·exact Nat.le_trans (List.length_filter_le _ _) (by omega)
   ·show P.nb ≤ _; omega
   ·show P.nj ≤ _; omega
 ·rcases k with ⟨_, _, rfl⟩ | ⟨_, _, rfl⟩
  ·exact same
  ·refine ⟨h1, ?_, ?_, ?_, ?_⟩
   ·show P.B.length ≤ _; omega
   ·exact Nat.le_trans (List.length_filter_le _ _) (by omega)
   ·show P.nb ≤ _; omega
   ·show P.nj ≤ _; omega
 ·rcases k with ⟨_, _, _, rfl⟩ | ⟨_, _, _, _, rfl⟩ | ⟨_, _, _, _, _, ao, c, rfl⟩
  ·exact same
  ·exact same
  ·exact ⟨h1, by simp only [List.length_append, List.length_singleton]; omega, by simp only []; omega, by simp only []; omega, by simp only []; omega⟩
def WVal (X : Nat → Prop) (v : World) (val : Value) (P : PW) : Prop := ∃ ob oj oc cb cj cc, val = wdV 0 P.nb P.nj 0 0 (.slice ob P.B.length cb) (.slice oj P.J.length cj) (.slice oc P.C.length cc) ∧ WLs X v ob cb P.B oj cj P.J oc cc P.C
theorem WLs.free {X Y : Nat → Prop} {w : World} {ob oj oc : Option Addr} {cb cj cc : Nat} {B : List Bd} {J : List Jt} {C : List Ct} (h : WLs X w ob cb B oj cj J oc cc C) (hY : ∀ b, Y b → X b ∨ w.heap.size ≤ b) : WLs Y w ob cb B oj cj J oc cc C := by
 have key : ∀ {α : Type} {enc : α → List Value} {k : Nat} {ao : Option Addr} {l : List α}, LsT enc k w ao l → (0 < l.length → Offs X ao) → 0 < l.length → Offs Y ao := fun hl hx h0 b off s e hb => by
  obtain ⟨b', off', e', hlt, _⟩ := hl h0
  rcases hY b hb with h1 | h1
  ·exact hx h0 b off s e h1
  ·rw [e] at e'
   cases e'
   omega
 refine ⟨h.at_, h.okB, h.okJ, h.okC, key h.at_.lB h.offB, key h.at_.lJ h.offJ, key h.at_.lC h.offC, fun b hb hn b' off s e hx => ?_, h.okP⟩
 obtain ⟨b'', off'', e', hp⟩ := (h.at_.sB b hb).1 hn
 have hlt := hp.here hn
 rw [e] at e'
 cases e'
 rcases hY b' hx with h1 | h1
 ·exact h.offP b hb hn _ _ _ e h1
 ·omega
theorem WVal.kept {X : Nat → Prop} {w v : World} {val : Value} {P : PW} (h : WVal X w val P) (k : Made w.heap.size w v) : WVal X v val P := by
 obtain ⟨ob, oj, oc, cb, cj, cc, e, hL⟩ := h
 exact ⟨ob, oj, oc, cb, cj, cc, e, hL.kept k⟩
def WVal0 (X : Nat → Prop) (v : World) (val : Value) (P : PW) : Prop := ∃ ob oj cb cj, val = wdV 0 P.nb P.nj 0 0 (.slice ob P.B.length cb) (.slice oj P.J.length cj) (.slice none P.C.length 0) ∧ WLs X v ob cb P.B oj cj P.J none 0 P.C
theorem WVal0.up {X : Nat → Prop} {v : World} {val : Value} {P : PW} (h : WVal0 X v val P) : WVal X v val P := by
 obtain ⟨ob, oj, cb, cj, e, hL⟩ := h
 exact ⟨ob, oj, none, cb, cj, 0, e, hL⟩
theorem WV0.open {X : Nat → Prop} {w : World} {gw : Nat} {P : PW} (h : WV0 X w gw P) : ∃ ob oj oc cb cj cc, (oc = none ∧ cc = 0) ∧ Has w gw 56 #[.int .i64 0, .int .i64 P.nb, .int .i64 P.nj, .int .i64 0, .int .i64 0, .slice ob P.B.length cb, .slice oj P.J.length cj, .slice oc P.C.length cc] ∧ WLs X w ob cb P.B oj cj P.J oc cc P.C := by
 obtain ⟨ob, oj, cb, cj, hH, hL⟩ := h
 exact ⟨ob, oj, none, cb, cj, 0, ⟨rfl, rfl⟩, hH, hL⟩
theorem ls_new (X : Nat → Prop) (w : World) : WLs X w none 0 [] none 0 [] none 0 [] :=
 ⟨⟨fun h => absurd h (by simp), fun h => absurd h (by simp), fun h => absurd h (by simp), fun b hb => by simp at hb, fun b hb => by simp at hb, fun b hb => by simp at hb⟩, ⟨Nat.le_refl _, by unfold maxLen; omega, .inl ⟨rfl, rfl, rfl⟩⟩, ⟨Nat.le_refl _, by unfold maxLen; omega, .inl ⟨rfl, rfl, rfl⟩⟩, ⟨Nat.le_refl _, by unfold maxLen; omega, .inl ⟨rfl, rfl, rfl⟩⟩,
  fun h => absurd h (by simp), fun h => absurd h (by simp), fun h => absurd h (by simp), fun b hb => by simp at hb, fun b hb => by simp at hb⟩
theorem Small.mono {P : PW} {k m : Nat} (h : Small P k) (hm : k ≤ m) : Small P m := ⟨h.1, by have := h.2.1; omega, by have := h.2.2.1; omega, by have := h.2.2.2.1; omega, by have := h.2.2.2.2; omega⟩
theorem made_0 {l : List De} {ao : Option Addr} {n c : Nat} {w : World} (most : Nat) (hmost : most ≤ 64) (hn : l.length = n) (hD : DesAt w ao l) (hnc : n ≤ c) (hcm : c ≤ maxLen) (ho : (ao = none ∧ n = 0 ∧ c = 0) ∨ ∃ a, ao = some a) :
  Calls Tryz.prog 14 #[.slice ao n c, .int .i64 (most : Nat)] w fun e v => ∃ P val, e = .returned val ∧ WVal0 Nil0 v val P ∧ POk P ∧ Small P most ∧ Made w.heap.size w v := by
 unfold maxLen at hcm
 obtain ⟨m, em⟩ : ∃ m, min n most = m := ⟨_, rfl⟩
 have hmm : min (n : Int) (most : Int) = (m : Int) := by omega
 have hmn : m ≤ n := by omega
 have hmo : m ≤ most := by omega
 have HN := hid hn
 have HD := hid (fun v (k : Made w.heap.size w v) => hD.kept k)
 have HLs := hid hD.1
 obtain ⟨W, eW⟩ : ∃ W, W = w.alloc (.cells #[.int .i64 0, .int .i64 0, .int .i64 0, .int .i64 0, .int .i64 0, .slice none 0 0, .slice none 0 0, .slice none 0 0] 56) := ⟨_, rfl⟩
 have KW : Hid (Made w.heap.size w W) := by unfold Hid; rw [eW]; exact (Made.rfl_ _ _).cells (Nat.le_refl _) _ _
 have HR : Hid (Has W w.heap.size 56 #[.int .i64 0, .int .i64 0, .int .i64 0, .int .i64 0, .int .i64 0, .slice none 0 0, .slice none 0 0, .slice none 0 0]) := by unfold Hid; rw [eW]; exact has_new _ _ _
 obtain ⟨gr, egr⟩ : ∃ g, w.heap.size = g := ⟨_, rfl⟩
 rw [egr] at HR
 clear hn hD em
 go_enter Tryz.func14, Tryz.ntmps14
 go_upto_region 1 with fail
 rw [← eW]
 clear eW
 try rw [egr]
 go_wp2_with fail
 refine (new_c _).mono ?_
 rintro e w1 ⟨rfl, k1⟩
 have K1 := hid (KW.out.then_ (k1.low KW.out.1.size))
 have HR1 := hid (HR.out.stays k1 HR.out.here)
 clear k1 KW HR
 obtain ⟨W2, eW2⟩ : ∃ V, V = w1.alloc (.cells #[.int .i64 0, .int .i64 1, .int .i64 1, .int .i64 0, .int .i64 0, .slice none 0 0, .slice none 0 0, .slice none 0 0] 56) := ⟨_, rfl⟩
 have K2 : Hid (Made w.heap.size w W2) := by unfold Hid; rw [eW2]; exact K1.out.cells K1.out.1.size _ _
 have HR2 : Hid (Has W2 gr 56 #[.int .i64 0, .int .i64 0, .int .i64 0, .int .i64 0, .int .i64 0, .slice none 0 0, .slice none 0 0, .slice none 0 0]) := by unfold Hid; rw [eW2]; exact HR1.out.more _
 have HM2 : Hid (Has W2 w1.heap.size 56 #[.int .i64 0, .int .i64 1, .int .i64 1, .int .i64 0, .int .i64 0, .slice none 0 0, .slice none 0 0, .slice none 0 0]) := by unfold Hid; rw [eW2]; exact has_new _ _ _
 have hgm : gr < w1.heap.size := HR1.out.here
 obtain ⟨gm, egm⟩ : ∃ g, w1.heap.size = g := ⟨_, rfl⟩
 rw [egm] at HM2 hgm
 have HV2 : Hid (WV0 (fun b => b = gr ∨ b = gm) W2 gm ⟨1, 1, [], [], []⟩) := ⟨none, none, 0, 0, HM2.out, ls_new _ _⟩
 clear K1 HR1
 go_upto_region 2 with fail
 rw [← eW2]
 clear eW2
 try rw [egm]
 rcases ho with ⟨rfl, rfl, rfl⟩ | ⟨adr, rfl⟩
 ·have hm0 : m = 0 := by omega
  subst hm0
  go_wp2_with fail
  go_loopg [7, 16] 0 (fun gg s7 s16 wx => ∃ (k : Nat) (P : PW), k + gg = 0 ∧ s16 = .int .i64 (k : Nat) ∧ Hid ((Made w.heap.size w wx ∧ Has wx gr 56 #[.int .i64 0, .int .i64 0, .int .i64 0, .int .i64 0, .int .i64 0, .slice none 0 0, .slice none 0 0, .slice none 0 0]) ∧ WV0 (fun b => b = gr ∨ b = gm) wx gm P ∧ (POk P ∧ Small P k)))
  case atStart => exact ⟨0, ⟨1, 1, [], [], []⟩, rfl, rfl, ⟨K2.out, HR2.out⟩, HV2.out, ok_new, rfl, Nat.le_refl _, Nat.le_refl _, by show (1 : Int) ≤ _; omega, by show (1 : Int) ≤ _; omega⟩
  case round =>
   obtain ⟨k, P, hk, rfl, HB⟩ := hrel
   have hk0 : k = 0 := by omega
   subst hk0
   obtain ⟨ob, oj, oc, cb, cj, cc, hoc, hH, hL⟩ := WV0.open HB.out.2.1
   have HOC := hid hoc
   clear hoc
   have HL := hid hL
   have HH := hid hH
   obtain ⟨pB, eB⟩ : ∃ m, P.B.length = m := ⟨_, rfl⟩
   obtain ⟨pJ, eJ⟩ : ∃ m, P.J.length = m := ⟨_, rfl⟩
   obtain ⟨pC, eC⟩ : ∃ m, P.C.length = m := ⟨_, rfl⟩
   obtain ⟨pb, eb⟩ : ∃ m, P.nb = m := ⟨_, rfl⟩
   obtain ⟨pj, ej⟩ : ∃ m, P.nj = m := ⟨_, rfl⟩
   rw [eB, eJ, eC, eb, ej] at HH
   have HE := hid (And.intro eB (And.intro eJ (And.intro eC (And.intro eb ej))))
   have HR1 := hid (HB.out.1.2)
   have HM1 := hid (HB.out.1.1)
   have HPk := hid HB.out.2.2
   clear hH hL HB eB eJ eC eb ej
   have b0 := HH.out.at_ 0
   have b1 := HH.out.at_ 1
   have b2 := HH.out.at_ 2
   have b3 := HH.out.at_ 3
   have b4 := HH.out.at_ 4
   have b5 := HH.out.at_ 5
   have b6 := HH.out.at_ 6
   have b7 := HH.out.at_ 7
   simp at b0 b1 b2 b3 b4 b5 b6 b7
   have lm : gm < wr.heap.size := HH.out.here
   have c0 := HR1.out.at_ 0
   have c1 := HR1.out.at_ 1
   have c2 := HR1.out.at_ 2
   have c3 := HR1.out.at_ 3
   have c4 := HR1.out.at_ 4
   have c5 := HR1.out.at_ 5
   have c6 := HR1.out.at_ 6
   have c7 := HR1.out.at_ 7
   simp at c0 c1 c2 c3 c4 c5 c6 c7
   have lr : gr < wr.heap.size := HR1.out.here
   have fr : ∀ i, wr.frozen? ⟨gr, i, none⟩ = false := HR1.out.free
   go_wp2_with fail
   obtain ⟨V, eV⟩ : ∃ V, V = (((((((wr.setCell ⟨gr, 0, none⟩ (.int .i64 0)).setCell ⟨gr, 1, none⟩ (.int .i64 pb)).setCell ⟨gr, 2, none⟩ (.int .i64 pj)).setCell ⟨gr, 3, none⟩ (.int .i64 0)).setCell ⟨gr, 4, none⟩ (.int .i64 0)).setCell ⟨gr, 5, none⟩ (.slice ob pB cb)).setCell ⟨gr, 6, none⟩ (.slice oj pJ cj)).setCell ⟨gr, 7, none⟩ (.slice oc pC cc) := ⟨_, rfl⟩
   have hV : Has V gr 56 #[.int .i64 0, .int .i64 pb, .int .i64 pj, .int .i64 0, .int .i64 0, .slice ob pB cb, .slice oj pJ cj, .slice oc pC cc] := by rw [eV]; exact (((((((HR1.out.put 0 _).put 1 _).put 2 _).put 3 _).put 4 _).put 5 _).put 6 _).put 7 _
   have kV : But (fun b => b = gr ∨ b = gm) wr V := by rw [eV]; exact ((((((((But.rfl_ (fun b => b = gr ∨ b = gm) _).put (p := ⟨gr, 0, none⟩) (.inl (.inl rfl)) _).put (p := ⟨gr, 1, none⟩) (.inl (.inl rfl)) _).put (p := ⟨gr, 2, none⟩) (.inl (.inl rfl)) _).put (p := ⟨gr, 3, none⟩) (.inl (.inl rfl)) _).put (p := ⟨gr, 4, none⟩) (.inl (.inl rfl)) _).put (p := ⟨gr, 5, none⟩) (.inl (.inl rfl)) _).put (p := ⟨gr, 6, none⟩) (.inl (.inl rfl)) _).put (p := ⟨gr, 7, none⟩) (.inl (.inl rfl)) _
   rw [← eV]
   clear eV c0 c1 c2 c3 c4 c5 c6 c7
   have q0 := hV.at_ 0
   have q1 := hV.at_ 1
   have q2 := hV.at_ 2
   have q3 := hV.at_ 3
   have q4 := hV.at_ 4
   have q5 := hV.at_ 5
   have q6 := hV.at_ 6
   have q7 := hV.at_ 7
   simp at q0 q1 q2 q3 q4 q5 q6 q7
   obtain ⟨a1, a2, a3, a4, a5⟩ := HE.out
   refine bodyPost_ret (v := wdV 0 pb pj 0 0 (.slice ob pB cb) (.slice oj pJ cj) (.slice oc pC cc)) (by simp [results, Tryz.results14, go_sem, q0, q1, q2, q3, q4, q5, q6, q7]) rfl ⟨P, _, rfl, ⟨ob, oj, cb, cj, by rw [a1, a2, a3, a4, a5, HOC.out.1, HOC.out.2], ?_⟩, HPk.out.1, ?_, ?_⟩
   ·have h := (HL.out.but kV (fun b hb => hb)).free (Y := Nil0) (fun b hb => hb.elim)
    rw [HOC.out.1, HOC.out.2] at h
    exact h
   ·exact HPk.out.2.mono (by omega)
   ·exact But.made_ HM1.out kV HM1.out.1.size (fun b hb => by rcases hb with hb | hb <;> omega)
 ·rcases Nat.eq_zero_or_pos n with h0 | h0
  ·subst h0
   have hm0 : m = 0 := by omega
   subst hm0
   go_wp2_with fail
   go_loopg [7, 16] 0 (fun gg s7 s16 wx => ∃ (k : Nat) (P : PW), k + gg = 0 ∧ s16 = .int .i64 (k : Nat) ∧ Hid ((Made w.heap.size w wx ∧ Has wx gr 56 #[.int .i64 0, .int .i64 0, .int .i64 0, .int .i64 0, .int .i64 0, .slice none 0 0, .slice none 0 0, .slice none 0 0]) ∧ WV0 (fun b => b = gr ∨ b = gm) wx gm P ∧ (POk P ∧ Small P k)))
   case atStart => exact ⟨0, ⟨1, 1, [], [], []⟩, rfl, rfl, ⟨K2.out, HR2.out⟩, HV2.out, ok_new, rfl, Nat.le_refl _, Nat.le_refl _, by show (1 : Int) ≤ _; omega, by show (1 : Int) ≤ _; omega⟩
   case round =>
    obtain ⟨k, P, hk, rfl, HB⟩ := hrel
    have hk0 : k = 0 := by omega
    subst hk0
    obtain ⟨ob, oj, oc, cb, cj, cc, hoc, hH, hL⟩ := WV0.open HB.out.2.1
    have HOC := hid hoc
    clear hoc
    have HL := hid hL
    have HH := hid hH
    obtain ⟨pB, eB⟩ : ∃ m, P.B.length = m := ⟨_, rfl⟩
    obtain ⟨pJ, eJ⟩ : ∃ m, P.J.length = m := ⟨_, rfl⟩
    obtain ⟨pC, eC⟩ : ∃ m, P.C.length = m := ⟨_, rfl⟩
    obtain ⟨pb, eb⟩ : ∃ m, P.nb = m := ⟨_, rfl⟩
    obtain ⟨pj, ej⟩ : ∃ m, P.nj = m := ⟨_, rfl⟩
    rw [eB, eJ, eC, eb, ej] at HH
    have HE := hid (And.intro eB (And.intro eJ (And.intro eC (And.intro eb ej))))
    have HR1 := hid (HB.out.1.2)
    have HM1 := hid (HB.out.1.1)
    have HPk := hid HB.out.2.2
    clear hH hL HB eB eJ eC eb ej
    have b0 := HH.out.at_ 0
    have b1 := HH.out.at_ 1
    have b2 := HH.out.at_ 2
    have b3 := HH.out.at_ 3
    have b4 := HH.out.at_ 4
    have b5 := HH.out.at_ 5
    have b6 := HH.out.at_ 6
    have b7 := HH.out.at_ 7
    simp at b0 b1 b2 b3 b4 b5 b6 b7
    have lm : gm < wr.heap.size := HH.out.here
    have c0 := HR1.out.at_ 0
    have c1 := HR1.out.at_ 1
    have c2 := HR1.out.at_ 2
    have c3 := HR1.out.at_ 3
    have c4 := HR1.out.at_ 4
    have c5 := HR1.out.at_ 5
    have c6 := HR1.out.at_ 6
    have c7 := HR1.out.at_ 7
    simp at c0 c1 c2 c3 c4 c5 c6 c7
    have lr : gr < wr.heap.size := HR1.out.here
    have fr : ∀ i, wr.frozen? ⟨gr, i, none⟩ = false := HR1.out.free
    go_wp2_with fail
    obtain ⟨V, eV⟩ : ∃ V, V = (((((((wr.setCell ⟨gr, 0, none⟩ (.int .i64 0)).setCell ⟨gr, 1, none⟩ (.int .i64 pb)).setCell ⟨gr, 2, none⟩ (.int .i64 pj)).setCell ⟨gr, 3, none⟩ (.int .i64 0)).setCell ⟨gr, 4, none⟩ (.int .i64 0)).setCell ⟨gr, 5, none⟩ (.slice ob pB cb)).setCell ⟨gr, 6, none⟩ (.slice oj pJ cj)).setCell ⟨gr, 7, none⟩ (.slice oc pC cc) := ⟨_, rfl⟩
    have hV : Has V gr 56 #[.int .i64 0, .int .i64 pb, .int .i64 pj, .int .i64 0, .int .i64 0, .slice ob pB cb, .slice oj pJ cj, .slice oc pC cc] := by rw [eV]; exact (((((((HR1.out.put 0 _).put 1 _).put 2 _).put 3 _).put 4 _).put 5 _).put 6 _).put 7 _
    have kV : But (fun b => b = gr ∨ b = gm) wr V := by rw [eV]; exact ((((((((But.rfl_ (fun b => b = gr ∨ b = gm) _).put (p := ⟨gr, 0, none⟩) (.inl (.inl rfl)) _).put (p := ⟨gr, 1, none⟩) (.inl (.inl rfl)) _).put (p := ⟨gr, 2, none⟩) (.inl (.inl rfl)) _).put (p := ⟨gr, 3, none⟩) (.inl (.inl rfl)) _).put (p := ⟨gr, 4, none⟩) (.inl (.inl rfl)) _).put (p := ⟨gr, 5, none⟩) (.inl (.inl rfl)) _).put (p := ⟨gr, 6, none⟩) (.inl (.inl rfl)) _).put (p := ⟨gr, 7, none⟩) (.inl (.inl rfl)) _
    rw [← eV]
    clear eV c0 c1 c2 c3 c4 c5 c6 c7
    have q0 := hV.at_ 0
    have q1 := hV.at_ 1
    have q2 := hV.at_ 2
    have q3 := hV.at_ 3
    have q4 := hV.at_ 4
    have q5 := hV.at_ 5
    have q6 := hV.at_ 6
    have q7 := hV.at_ 7
    simp at q0 q1 q2 q3 q4 q5 q6 q7
    obtain ⟨a1, a2, a3, a4, a5⟩ := HE.out
    refine bodyPost_ret (v := wdV 0 pb pj 0 0 (.slice ob pB cb) (.slice oj pJ cj) (.slice oc pC cc)) (by simp [results, Tryz.results14, go_sem, q0, q1, q2, q3, q4, q5, q6, q7]) rfl ⟨P, _, rfl, ⟨ob, oj, cb, cj, by rw [a1, a2, a3, a4, a5, HOC.out.1, HOC.out.2], ?_⟩, HPk.out.1, ?_, ?_⟩
    ·have h := (HL.out.but kV (fun b hb => hb)).free (Y := Nil0) (fun b hb => hb.elim)
     rw [HOC.out.1, HOC.out.2] at h
     exact h
    ·exact HPk.out.2.mono (by omega)
    ·exact But.made_ HM1.out kV HM1.out.1.size (fun b hb => by rcases hb with hb | hb <;> omega)
  ·obtain ⟨b, off, e, hbl, _⟩ := HLs.out (by rw [HN.out]; exact h0)
   cases e
   go_wp2_with fail
   go_loopg [7, 16] m (fun gg s7 s16 wx => ∃ (k : Nat) (P : PW), k + gg = m ∧ s16 = .int .i64 (k : Nat) ∧ Hid ((Made w.heap.size w wx ∧ Has wx gr 56 #[.int .i64 0, .int .i64 0, .int .i64 0, .int .i64 0, .int .i64 0, .slice none 0 0, .slice none 0 0, .slice none 0 0]) ∧ WV0 (fun b => b = gr ∨ b = gm) wx gm P ∧ (POk P ∧ Small P k)))
   case atStart => exact ⟨0, ⟨1, 1, [], [], []⟩, by omega, rfl, ⟨K2.out, HR2.out⟩, HV2.out, ok_new, rfl, Nat.le_refl _, Nat.le_refl _, by show (1 : Int) ≤ _; omega, by show (1 : Int) ≤ _; omega⟩
   case round =>
    obtain ⟨k, P, hk, rfl, HB⟩ := hrel
    by_cases hlt : k < m
    ·obtain ⟨d, ed⟩ : ∃ a, l[k]? = some a := ⟨_, List.getElem?_eq_getElem (by rw [HN.out]; omega)⟩
     have hDk := HD.out wr HB.out.1.1
     obtain ⟨b', off', e, hbl', hLB⟩ := hDk.1 (by rw [HN.out]; omega)
     cases e
     have HRg := hid (hLB.rangeAt ed)
     have HDI := hid (hDk.2 d (List.mem_of_getElem? ed))
     obtain ⟨cs, ecs⟩ : ∃ cs, encD d = cs := ⟨_, rfl⟩
     have hlen : cs.length = 30 := by rw [← ecs]; exact encD_len d
     have h1c : ∀ v ∈ cs, v.oneCell' = true := by rw [← ecs]; exact encD_one d
     have HCS : Hid (deV d = .agg cs.toArray) := by unfold Hid; rw [← ecs]; rfl
     rw [ecs] at HRg
     have H1C := hid h1c
     have HLEN := hid hlen
     clear hDk hLB ed h1c hlen ecs
     obtain ⟨gd, egd⟩ : ∃ g, wr.heap.size = g := ⟨_, rfl⟩
     have HMk := hid HB.out.1.1
     have HRk := hid HB.out.1.2
     have HVk := hid HB.out.2.1
     have HPk := hid HB.out.2.2
     clear HB
     have lgr : gr < wr.heap.size := HRk.out.here
     obtain ⟨bd, hbd⟩ := dbody_c d HDI.out.1
     have HBD := hid hbd
     clear hbd
     have HTH : Hid ((wr.alloc (.cells #[.int .i64 0, .int .i64 0, .int .i64 0, .int .i64 0, .int .i64 0, .int .i64 0, .int .i64 0, .int .i64 0, .int .i64 0, .int .i64 0, .int .i64 0, .int .i64 0, .int .i64 0, .int .i64 0, .int .i64 0, .int .i64 0, .int .i64 0, .int .i64 0, .int .i64 0, .int .i64 0, .int .i64 0, .int .i64 0, .int .i64 0, .int .i64 0, .int .i64 0, .int .i64 0, .int .i64 0, .int .i64 0, .int .i64 0, .slice none 0 0] 37)).there gd 0 cs.length) := by unfold Hid; rw [HLEN.out, ← egd]; exact there_of (has_new _ _ _) (by decide)
     go_upto_region 5 with (first
      | refine wpList_load_mid rfl 37 (.tmp 18) rfl b (off + k * 30) rfl cs _ HRg.out Tryz.underlying37 rfl (by rw [HLEN.out]; kernel_rfl) ?_
      | refine wpList_store_mid rfl 37 (.tmp 7) (.tmp 19) rfl gd 0 cs.toArray rfl rfl HTH.out (by rw [List.size_toArray, HLEN.out]; kernel_rfl) (all_oneCell_toArray H1C.out) ?_)
     obtain ⟨W4, e4⟩ : ∃ V, V = (wr.alloc (.cells #[.int .i64 0, .int .i64 0, .int .i64 0, .int .i64 0, .int .i64 0, .int .i64 0, .int .i64 0, .int .i64 0, .int .i64 0, .int .i64 0, .int .i64 0, .int .i64 0, .int .i64 0, .int .i64 0, .int .i64 0, .int .i64 0, .int .i64 0, .int .i64 0, .int .i64 0, .int .i64 0, .int .i64 0, .int .i64 0, .int .i64 0, .int .i64 0, .int .i64 0, .int .i64 0, .int .i64 0, .int .i64 0, .int .i64 0, .slice none 0 0] 37)).setCells gd 0 cs.toArray.toList := ⟨_, rfl⟩
     have k4 : Made wr.heap.size wr W4 := by rw [e4]; exact Made.setCells (Nat.le_of_eq egd) _ _ ((Made.rfl_ _ _).cells (Nat.le_refl _) _ _)
     have HRd : Hid (W4.rangeAt gd 0 cs) := by unfold Hid; rw [e4]; exact World.rangeAt_setCells_same _ _ _ _ HTH.out
     rw [← e4]
     clear e4
     have K4 := hid (HMk.out.then_ (k4.low HMk.out.1.size))
     have HRk4 := hid (HRk.out.stays k4 lgr)
     have HVk4 := hid (WVarO.kept HVk.out k4)
     have HS4 : Hid (Sl W4 d.rao d.rn d.rf) := fun hn => by obtain ⟨b, off, e, hp⟩ := HDI.out.2 hn; exact ⟨b, off, e, hp.kept k4⟩
     have HDO := hid (do_0 (X := fun b => b = gr ∨ b = gm) d bd HBD.out HDI.out.1 HVk4.out HPk.out.1 (.inr rfl) (fun b hb => by
      rcases hb with hb | hb
      ·rw [hb]; exact HRk4.out.here
      ·rw [hb]; exact WVar.here HVk4.out.up) HS4.out (by rw [HPk.out.2.1]; simp))
     rw [HCS.out] at HDO
     clear k4 HTH HRk HVk HMk lgr
     go_wp2_with (refine wpList_load_mid rfl 37 (.tmp 7) rfl gd 0 rfl cs _ HRd.out Tryz.underlying37 rfl (by rw [HLEN.out]; kernel_rfl) ?_)
     refine HDO.out.mono ?_
     rintro e w5 ⟨n', er, gone, P', rfl, hst, hv, kb⟩
     have HST := hid hst
     have HV5 := hid hv
     have HR5 := hid (HRk4.out.but kb (by show ¬ gr = gm; omega))
     have K5 : Hid (Made w.heap.size w w5) := But.made_ K4.out kb K4.out.1.size (fun b hb => by have hb : b = gm := hb; omega)
     clear hst hv kb HDO
     go_wp2_with fail
     go_roundg (m - (k + 1))
     case measure => omega
     case rel => exact ⟨k + 1, P', by omega, by go_num, ⟨K5.out, HR5.out⟩, HV5.out, step_ok HPk.out.1 HST.out, step_small HPk.out.2 HST.out⟩
    ·have hkm : k = m := by omega
     subst hkm
     obtain ⟨ob, oj, oc, cb, cj, cc, hoc, hH, hL⟩ := WV0.open HB.out.2.1
     have HOC := hid hoc
     clear hoc
     have HL := hid hL
     have HH := hid hH
     obtain ⟨pB, eB⟩ : ∃ m, P.B.length = m := ⟨_, rfl⟩
     obtain ⟨pJ, eJ⟩ : ∃ m, P.J.length = m := ⟨_, rfl⟩
     obtain ⟨pC, eC⟩ : ∃ m, P.C.length = m := ⟨_, rfl⟩
     obtain ⟨pb, eb⟩ : ∃ m, P.nb = m := ⟨_, rfl⟩
     obtain ⟨pj, ej⟩ : ∃ m, P.nj = m := ⟨_, rfl⟩
     rw [eB, eJ, eC, eb, ej] at HH
     have HE := hid (And.intro eB (And.intro eJ (And.intro eC (And.intro eb ej))))
     have HR1 := hid (HB.out.1.2)
     have HM1 := hid (HB.out.1.1)
     have HPk := hid HB.out.2.2
     clear hH hL HB eB eJ eC eb ej
     have b0 := HH.out.at_ 0
     have b1 := HH.out.at_ 1
     have b2 := HH.out.at_ 2
     have b3 := HH.out.at_ 3
     have b4 := HH.out.at_ 4
     have b5 := HH.out.at_ 5
     have b6 := HH.out.at_ 6
     have b7 := HH.out.at_ 7
     simp at b0 b1 b2 b3 b4 b5 b6 b7
     have lm : gm < wr.heap.size := HH.out.here
     have c0 := HR1.out.at_ 0
     have c1 := HR1.out.at_ 1
     have c2 := HR1.out.at_ 2
     have c3 := HR1.out.at_ 3
     have c4 := HR1.out.at_ 4
     have c5 := HR1.out.at_ 5
     have c6 := HR1.out.at_ 6
     have c7 := HR1.out.at_ 7
     simp at c0 c1 c2 c3 c4 c5 c6 c7
     have lr : gr < wr.heap.size := HR1.out.here
     have fr : ∀ i, wr.frozen? ⟨gr, i, none⟩ = false := HR1.out.free
     go_wp2_with fail
     obtain ⟨V, eV⟩ : ∃ V, V = (((((((wr.setCell ⟨gr, 0, none⟩ (.int .i64 0)).setCell ⟨gr, 1, none⟩ (.int .i64 pb)).setCell ⟨gr, 2, none⟩ (.int .i64 pj)).setCell ⟨gr, 3, none⟩ (.int .i64 0)).setCell ⟨gr, 4, none⟩ (.int .i64 0)).setCell ⟨gr, 5, none⟩ (.slice ob pB cb)).setCell ⟨gr, 6, none⟩ (.slice oj pJ cj)).setCell ⟨gr, 7, none⟩ (.slice oc pC cc) := ⟨_, rfl⟩
     have hV : Has V gr 56 #[.int .i64 0, .int .i64 pb, .int .i64 pj, .int .i64 0, .int .i64 0, .slice ob pB cb, .slice oj pJ cj, .slice oc pC cc] := by rw [eV]; exact (((((((HR1.out.put 0 _).put 1 _).put 2 _).put 3 _).put 4 _).put 5 _).put 6 _).put 7 _
     have kV : But (fun b => b = gr ∨ b = gm) wr V := by rw [eV]; exact ((((((((But.rfl_ (fun b => b = gr ∨ b = gm) _).put (p := ⟨gr, 0, none⟩) (.inl (.inl rfl)) _).put (p := ⟨gr, 1, none⟩) (.inl (.inl rfl)) _).put (p := ⟨gr, 2, none⟩) (.inl (.inl rfl)) _).put (p := ⟨gr, 3, none⟩) (.inl (.inl rfl)) _).put (p := ⟨gr, 4, none⟩) (.inl (.inl rfl)) _).put (p := ⟨gr, 5, none⟩) (.inl (.inl rfl)) _).put (p := ⟨gr, 6, none⟩) (.inl (.inl rfl)) _).put (p := ⟨gr, 7, none⟩) (.inl (.inl rfl)) _
     rw [← eV]
     clear eV c0 c1 c2 c3 c4 c5 c6 c7
     have q0 := hV.at_ 0
     have q1 := hV.at_ 1
     have q2 := hV.at_ 2
     have q3 := hV.at_ 3
     have q4 := hV.at_ 4
     have q5 := hV.at_ 5
     have q6 := hV.at_ 6
     have q7 := hV.at_ 7
     simp at q0 q1 q2 q3 q4 q5 q6 q7
     obtain ⟨a1, a2, a3, a4, a5⟩ := HE.out
     refine bodyPost_ret (v := wdV 0 pb pj 0 0 (.slice ob pB cb) (.slice oj pJ cj) (.slice oc pC cc)) (by simp [results, Tryz.results14, go_sem, q0, q1, q2, q3, q4, q5, q6, q7]) rfl ⟨P, _, rfl, ⟨ob, oj, cb, cj, by rw [a1, a2, a3, a4, a5, HOC.out.1, HOC.out.2], ?_⟩, HPk.out.1, ?_, ?_⟩
     ·have h := (HL.out.but kV (fun b hb => hb)).free (Y := Nil0) (fun b hb => hb.elim)
      rw [HOC.out.1, HOC.out.2] at h
      exact h
     ·exact HPk.out.2.mono (by omega)
     ·exact But.made_ HM1.out kV HM1.out.1.size (fun b hb => by rcases hb with hb | hb <;> omega)
end Go.Proofs.YtgdcphmmehedoaaGreat.Fx
/- WorldNumbers. -/
namespace Go.Proofs.YtgdcphmmehedoaaGreat.Fx
open Go.ChangeShapes Go.WideShapes Go.ChangeAt Go.RowKit
set_option linter.unusedVariables false
def U8At (w : World) (ao : Option Addr) (n : Nat) (f : Nat → Int) : Prop := 0 < n → ∃ b off, ao = some ⟨b, off, none⟩ ∧ ∀ i, i < n → w.cell? ⟨b, off + i, none⟩ = some (.int .u8 (f i)) ∧ 0 ≤ f i ∧ f i < 256
theorem U8At.kept {w v : World} {ao : Option Addr} {n : Nat} {f : Nat → Int} (h : U8At w ao n f) (k : Made w.heap.size w v) : U8At v ao n f := fun hn => by
 obtain ⟨b, off, e, h⟩ := h hn
 exact ⟨b, off, e, fun i hi => ⟨k.reads (h i hi).1, (h i hi).2⟩⟩
end Go.Proofs.YtgdcphmmehedoaaGreat.Fx
/- WorldRights. -/
namespace Go.Proofs.YtgdcphmmehedoaaGreat.Fx
open Go.ChangeShapes Go.WideShapes Go.ChangeAt Go.RowKit
set_option linter.unusedVariables false
theorem SameB.i {b b' : Bd} (h : SameB b b') (k : BdI b) : BdI b' := by
 obtain ⟨h0, h1, h2, h3, h4, h5, h6, h7, h8, h9, h10, h11⟩ := h
 exact ⟨h0 ▸ k.id, h1 ▸ k.x, h2 ▸ k.y, h3 ▸ k.vx, h4 ▸ k.vy, h5 ▸ k.an, h6 ▸ k.sp, h7 ▸ k.de, h8 ▸ k.k, h9 ▸ k.r, h10 ▸ h11 ▸ k.f⟩
theorem same_at {B B' : List Bd} {n : Nat} (hn : B.length = n) (hn' : B'.length = n) (h : ∀ (i : Nat) b b', B[i]? = some b → B'[i]? = some b' → SameB b b') {i : Nat} {b' : Bd} (hb : B'[i]? = some b') : ∃ b, B[i]? = some b ∧ SameB b b' := by
 have hi := (List.getElem?_eq_some_iff.1 hb).1
 have hx : B[i]? = some (B[i]'(by omega)) := List.getElem?_eq_getElem (by omega)
 exact ⟨_, hx, h i _ _ hx hb⟩
theorem same_ids {B B' : List Bd} {n : Nat} (hn : B.length = n) (hn' : B'.length = n) (h : ∀ (i : Nat) b b', B[i]? = some b → B'[i]? = some b' → SameB b b') : ids B' = ids B := by
 refine List.ext_getElem? fun i => ?_
 simp only [ids, List.getElem?_map]
 rcases Nat.lt_or_ge i n with hi | hi
 ·have hx : B[i]? = some (B[i]'(by omega)) := List.getElem?_eq_getElem (by omega)
  have hx' : B'[i]? = some (B'[i]'(by omega)) := List.getElem?_eq_getElem (by omega)
  rw [hx, hx']
  simp [(h i _ _ hx hx').1]
 ·rw [List.getElem?_eq_none (by omega), List.getElem?_eq_none (by omega)]
end Go.Proofs.YtgdcphmmehedoaaGreat.Fx
/- Copies of a world, each in a stretch of blocks of its own. -/
namespace Go.Proofs.YtgdcphmmehedoaaGreat.Fx
open Go.ChangeShapes Go.WideShapes Go.ChangeAt Go.RowKit
set_option linter.unusedVariables false
def SameBs (B B' : List Bd) : Prop := B'.length = B.length ∧ ∀ (i : Nat) b b', B[i]? = some b → B'[i]? = some b' → SameB b b'
def CopyV (P : PW) (v : World) (lo : Nat) (e : MI.Ex) : Prop :=
 ∃ ob oj cb cj, e.v = wdV 0 P.nb P.nj 0 0 (.slice ob P.B.length cb) (.slice oj P.J.length cj) (.slice none 0 0) ∧ SameBs P.B e.bs ∧ WLs (fun b => b < lo ∨ e.hi ≤ b) v ob cb e.bs oj cj P.J none 0 [] ∧
  (0 < P.B.length → ∃ g, ob = some ⟨g, 0, none⟩ ∧ RowL encB 11 v g 35 P.B.length e.bs) ∧ (0 < P.B.length → 0 < P.J.length → ∀ g o s o' s', ob = some ⟨g, o, s⟩ → oj = some ⟨g, o', s'⟩ → False) ∧ (0 < P.J.length → ∃ g, oj = some ⟨g, 0, none⟩) ∧ ∀ b ∈ e.bs, Mine (fun g => ob = some ⟨g, 0, none⟩ ∨ oj = some ⟨g, 0, none⟩) lo v b
theorem CopyV.kept {P : PW} {u v : World} {lo : Nat} {e : MI.Ex} (h : CopyV P u lo e) (hh : e.hi ≤ u.heap.size) (k : Made u.heap.size u v) : CopyV P v lo e := by
 obtain ⟨ob, oj, cb, cj, h1, h2, h3, h4, h6, h7, h5⟩ := h
 refine ⟨ob, oj, cb, cj, h1, h2, h3.kept k, fun hn => ?_, h6, h7, fun b hb => MadeMine (h5 b hb) k⟩
 obtain ⟨g, e, hr⟩ := h4 hn
 exact ⟨g, e, hr.stays k hr.here⟩
theorem same_in {B B' : List Bd} (h : SameBs B B') {b' : Bd} (hb : b' ∈ B') : ∃ b ∈ B, SameB b b' := by
 obtain ⟨i, hi⟩ := List.mem_iff_getElem?.1 hb
 obtain ⟨b, hb, hs⟩ := same_at rfl h.1 h.2 hi
 exact ⟨b, List.mem_of_getElem? hb, hs⟩
theorem SameB.ok {b b' : Bd} (h : SameB b b') (k : BodyP b) : BodyP b' := by
 obtain ⟨h0, h1, h2, h3, h4, h5, h6, h7, h8, h9, h10, h11⟩ := h
 refine ⟨?_, ?_, ?_, ?_, ?_, ?_, ?_, ?_, ?_⟩
 ·rw [h8, h9, h10, h11]; exact k.shape
 ·rw [h1]; exact k.x
 ·rw [h2]; exact k.y
 ·rw [h3]; exact k.vx
 ·rw [h4]; exact k.vy
 ·rw [h6]; exact k.sp
 ·rw [h5]; exact k.an
 ·rw [h7]; exact k.de
 ·rw [h7, h3, h4, h6]; exact k.still
theorem SameB.eqb {b b' : Bd} (h : SameB b b') : EqB b b' := by
 obtain ⟨h0, h1, h2, h3, h4, h5, h6, h7, h8, h9, h10, h11⟩ := h
 exact ⟨h0.symm, ⟨h1.symm, h2.symm⟩, ⟨h3.symm, h4.symm⟩, h5.symm, h6.symm, h7.symm, h8.symm, h9.symm, h10.symm, fun i _ => by rw [h11]⟩
theorem EqB.symm {b b' : Bd} (h : EqB b b') : EqB b' b := by
 obtain ⟨h0, h1, h2, h3, h4, h5, h6, h7, h8, h9⟩ := h
 exact ⟨h0.symm, ⟨h1.1.symm, h1.2.symm⟩, ⟨h2.1.symm, h2.2.symm⟩, h3.symm, h4.symm, h5.symm, h6.symm, h7.symm, h8.symm, fun i hi => (h9 i (h8 ▸ hi)).symm⟩
theorem EqB.trans {a b c : Bd} (h : EqB a b) (k : EqB b c) : EqB a c := by
 obtain ⟨h0, h1, h2, h3, h4, h5, h6, h7, h8, h9⟩ := h
 obtain ⟨k0, k1, k2, k3, k4, k5, k6, k7, k8, k9⟩ := k
 exact ⟨h0.trans k0, ⟨h1.1.trans k1.1, h1.2.trans k1.2⟩, ⟨h2.1.trans k2.1, h2.2.trans k2.2⟩, h3.trans k3, h4.trans k4, h5.trans k5, h6.trans k6, h7.trans k7, h8.trans k8, fun i hi => (h9 i hi).trans (k9 i (h8 ▸ hi))⟩
theorem SameBs.eq {B B' : List Bd} (h : SameBs B B') : EqBs B B' := ⟨h.1.symm, fun i x y hx hy => (h.2 i x y hx hy).eqb⟩
theorem EqBs.symm {B B' : List Bd} (h : EqBs B B') : EqBs B' B := ⟨h.1.symm, fun i x y hx hy => (h.2 i y x hy hx).symm⟩
theorem EqBs.trans {A B C : List Bd} (h : EqBs A B) (k : EqBs B C) : EqBs A C := ⟨h.1.trans k.1, fun i x z hx hz => by
 have hi := (List.getElem?_eq_some_iff.1 hx).1
 have hy : B[i]? = some (B[i]'(by rw [← h.1]; exact hi)) := List.getElem?_eq_getElem _
 exact (h.2 i _ _ hx hy).trans (k.2 i _ _ hy hz)⟩
theorem copy_ok {P : PW} {B' : List Bd} (h : POk P) (hC : P.C = []) (hs : SameBs P.B B') : POk ⟨P.nb, P.nj, B', P.J, []⟩ := by
 have e : ids B' = ids P.B := same_ids rfl hs.1 hs.2
 refine ⟨⟨by show B'.length ≤ _; rw [hs.1]; exact h.hB.len, fun b hb => ?_, ?_⟩, ⟨h.hJ.len, fun j hj => ?_, h.hJ.num⟩, ⟨fun c hc => by simp at hc, List.Pairwise.nil⟩⟩
 ·obtain ⟨b0, hb0, hs0⟩ := same_in hs hb
  exact hs0.ok (h.hB.all b0 hb0)
 ·show NumP (ids B') P.nb
  rw [e]
  exact h.hB.num
 ·have := h.hJ.all j hj
  refine ⟨this.1, ?_, ?_⟩
  ·show j.a ∈ ids B'; rw [e]; exact this.2.1
  ·show j.b ∈ ids B'; rw [e]; exact this.2.2
abbrev Out (lo hi : Nat) : Nat → Prop := fun b => b < lo ∨ hi ≤ b
def turnB (ao : Option Addr) (p : Int) (b : Bd) : Bd := ⟨b.id, b.x, b.y, b.vx, b.vy, b.an, b.sp, b.de, b.k, b.r, b.ao, b.n, b.c, open Classical in if b.ao = ao ∧ 0 < b.n then fun i => if i = 0 then (p, (b.f 0).2) else b.f i else b.f⟩
theorem LsT.map {α : Type} {enc : α → List Value} {k : Nat} {w : World} {ao : Option Addr} {l : List α} (h : LsT enc k w ao l) (g : α → α) (hg : ∀ x, enc (g x) = enc x) : LsT enc k w ao (l.map g) := fun hn => by
 obtain ⟨b, off, e, hb, hl⟩ := h (by simpa using hn)
 refine ⟨b, off, e, hb, fun i x hx j u hu => ?_⟩
 rw [List.getElem?_map] at hx
 cases hy : l[i]? with
 | none => rw [hy] at hx; cases hx
 | some y =>
  rw [hy] at hx
  simp at hx
  rw [← hx, hg] at hu
  exact hl i y hy j u hu
end Go.Proofs.YtgdcphmmehedoaaGreat.Fx
/- Orders, plain. -/
namespace Go.Proofs.YtgdcphmmehedoaaGreat.Fx
open Go.ChangeShapes Go.WideShapes Go.ChangeAt Go.RowKit
set_option linter.unusedVariables false
structure Or where
 kd : Int
 id : Int
 a : Int
 b : Int
 x : Int
 y : Int
 vx : Int
 vy : Int
 an : Int
 sp : Int
 de : Int
 ln : Int
 k : Int
 r : Int
 ao : Option Addr
 n : Nat
 c : Nat
 f : Cs
abbrev orV (o : Or) : Value := .agg #[.int .i64 o.kd, .int .i64 o.id, .int .i64 o.a, .int .i64 o.b, .int .i64 o.x, .int .i64 o.y, .int .i64 o.vx, .int .i64 o.vy, .int .i64 o.an, .int .i64 o.sp, .int .i64 o.de, .int .i64 o.ln, .int .i64 o.k, .int .i64 o.r, .slice o.ao o.n o.c]
def encO (o : Or) : List Value := [.int .i64 o.kd, .int .i64 o.id, .int .i64 o.a, .int .i64 o.b, .int .i64 o.x, .int .i64 o.y, .int .i64 o.vx, .int .i64 o.vy, .int .i64 o.an, .int .i64 o.sp, .int .i64 o.de, .int .i64 o.ln, .int .i64 o.k, .int .i64 o.r, .slice o.ao o.n o.c]
structure OrI (o : Or) : Prop where
 kd : I64 o.kd
 id : I64 o.id
 a : I64 o.a
 b : I64 o.b
 x : I64 o.x
 y : I64 o.y
 vx : I64 o.vx
 vy : I64 o.vy
 an : I64 o.an
 sp : I64 o.sp
 de : I64 o.de
 ln : I64 o.ln
 k : I64 o.k
 r : I64 o.r
 f : Cin o.f o.n
def bodyOr (o : Or) : Bd := ⟨0, o.x, o.y, o.vx, o.vy, o.an, o.sp, o.de, o.k, o.r, o.ao, o.n, o.c, o.f⟩
def jointOr (o : Or) : Jt := ⟨0, o.a, o.b, o.x, o.y, o.vx, o.vy, o.ln⟩
def Or.kind (k : Int) : Or := ⟨k, 0, 0, 0, 0, 0, 0, 0, 0, 0, 0, 0, 0, 0, none, 0, 0, fun _ => (0, 0)⟩
def usedOr (o : Or) : Or :=
 if o.kd = 1 then ⟨1, 0, 0, 0, o.x, o.y, o.vx, o.vy, o.an, o.sp, o.de, 0, o.k, o.r, o.ao, o.n, o.c, o.f⟩
 else if o.kd = 2 ∨ o.kd = 4 then { Or.kind o.kd with id := o.id }
 else if o.kd = 3 then ⟨3, 0, o.a, o.b, o.x, o.y, o.vx, o.vy, 0, 0, 0, o.ln, 0, 0, none, 0, 0, fun _ => (0, 0)⟩
 else if o.kd = 5 then ⟨5, o.id, 0, 0, 0, 0, o.vx, o.vy, 0, o.sp, 0, 0, 0, 0, none, 0, 0, fun _ => (0, 0)⟩
 else if o.kd = 6 then ⟨6, 0, 0, 0, 0, 0, o.vx, o.vy, 0, 0, 0, 0, 0, 0, none, 0, 0, fun _ => (0, 0)⟩
 else Or.kind o.kd
def BareO (o : Or) : Prop := o.k = 0 ∧ o.r = 0 ∧ o.n = 0 ∧ o.de = 0 ∧ o.an = 0
def OrderP (o : Or) : Prop :=
 (o.kd = 1 ∧ o.id = 0 ∧ o.a = 0 ∧ o.b = 0 ∧ o.ln = 0 ∧ BodyP (bodyOr o)) ∨
 ((o.kd = 2 ∨ o.kd = 4) ∧ BareO o ∧ 0 < o.id ∧ o.a = 0 ∧ o.b = 0 ∧ (o.x = 0 ∧ o.y = 0) ∧ (o.vx = 0 ∧ o.vy = 0) ∧ o.sp = 0 ∧ o.ln = 0) ∨
 (o.kd = 3 ∧ BareO o ∧ o.id = 0 ∧ o.sp = 0 ∧ JointP (jointOr o)) ∨
 (o.kd = 5 ∧ BareO o ∧ 0 < o.id ∧ o.a = 0 ∧ o.b = 0 ∧ (o.x = 0 ∧ o.y = 0) ∧ o.ln = 0 ∧ Inn o.vx 4611686018427387904 ∧ Inn o.vy 4611686018427387904 ∧ Inn o.sp 4611686018427387904) ∨
 (o.kd = 6 ∧ BareO o ∧ o.id = 0 ∧ o.a = 0 ∧ o.b = 0 ∧ (o.x = 0 ∧ o.y = 0) ∧ o.sp = 0 ∧ o.ln = 0 ∧ Inn o.vx 17592186044416 ∧ Inn o.vy 17592186044416)
end Go.Proofs.YtgdcphmmehedoaaGreat.Fx
/- Regions that draw their order and hold a chain of stores: quiet operations and stores in whatever order the edges allow, as long as no store turns what a quiet one looks at. -/
namespace Go.Proofs.YtgdcphmmehedoaaGreat.Fx.RS
open Go.ChangeShapes Go.WideShapes Go.ChangeAt Go.RowKit
set_option linter.unusedVariables false
theorem eval_slot {a b : Act} {x : Operand} (h : ∀ t, x = .tmp t → a.tmps[t]? = b.tmps[t]?) : a.eval x = b.eval x := by
 cases x with
 | tmp t => simp [Act.eval, h t rfl]
 | _ => rfl
theorem exec_slot {ops : Array Oper} {a b : Act} {o : Oper} (hs : ∀ cs c, o.op ≠ .select cs c) (h : ∀ t, t ∈ o.looksAt ops → a.tmps[t]? = b.tmps[t]?) : execOp a.eval o = execOp b.eval o :=
 execOp_congr o hs fun x hx => eval_slot fun t e => h t (by
  subst e
  exact List.mem_append_left _ (List.mem_filterMap.2 ⟨.tmp t, by simpa using hx, rfl⟩))
theorem wanted_free {ops : Array Oper} {o : Oper} (a : Act) (h : o.guard = none) : Region.wanted o (yielded ops a.tmps) = true := by unfold Region.wanted; rw [h]
def laterB (ops : Array Oper) : List Oper → Bool
 | [] => true
 | o :: l => (o :: l).all (fun o' => match o'.dst with | some d => !(o.looksAt ops).contains d | none => true) && laterB ops l
section
variable {P : Program} {ops : Array Oper} {md : Region.Mode} {Q : Exit → Act → World → Prop} {A : Act} {U : Nat → World}
theorem defers_put (a : Act) (d : Option Tmp) (v : Value) : (a.put d v).defers = a.defers := by cases d <;> rfl
theorem quiet_defers {C : World → Prop} : ∀ (l : List Oper) (a : Act), wpQuiet P ops C (fun a' => a' = A) l a → A.defers = a.defers ∧ A.tmps.size = a.tmps.size
 | [], a, h => by rw [show a = A from h]; exact ⟨rfl, rfl⟩
 | o :: l, a, h => by
  obtain ⟨v, _, h'⟩ := quiet_cons h
  obtain ⟨h1, h2⟩ := quiet_defers l _ h'
  exact ⟨h1.trans (defers_put a o.dst v), h2.trans (put_size a o.dst v)⟩
theorem quiet_at {C : World → Prop} (hsel : ∀ (j : Nat) (o : Oper) cs b, ops[j]? = some o → o.op ≠ .select cs b) {N : Nat} : ∀ (l : List Oper) (a : Act), wpQuiet P ops C (fun a' => a' = A) l a → a.tmps.size = N → dstB N l = true → laterB ops l = true → (∀ o ∈ l, o.guard = none ∧ ∃ j : Nat, ops[j]? = some o) →
  ∀ o ∈ l, ∃ v d, o.dst = some d ∧ A.tmps[d]? = some v ∧ ∀ u, C u → o.quietAt P A C u v
 | [], a, _, _, _, _, _, o, ho => by cases ho
 | o :: l, a, h, hN, hD, hL, hG, x, hx => by
  obtain ⟨v, hy, h'⟩ := quiet_cons h
  have hD0 := hD
  unfold dstB at hD
  unfold laterB at hL
  simp only [Bool.and_eq_true, List.all_eq_true] at hD hL
  rcases List.mem_cons.1 hx with rfl | hx
  ·cases hd : x.dst with
   | none => rw [hd] at hD; cases hD.1
   | some d =>
    rw [hd] at hD
    simp only [Bool.and_eq_true, decide_eq_true_eq, List.all_eq_true, bne_iff_ne] at hD
    obtain ⟨hg, j, hj⟩ := hG x (List.mem_cons_self ..)
    refine ⟨v, d, rfl, ?_, fun u hu => ?_⟩
    ·rw [last_slot l _ h' hD.1.2, hd]
     exact put_get a d v (by rw [hN]; exact hD.1.1)
    ·rcases hy with ⟨_, hv⟩ | ⟨hw, _⟩
     ·have e : execOp A.eval x = execOp a.eval x := exec_slot (ops := ops) (hsel j x · · hj) fun t ht => last_slot (x :: l) a h fun o' ho' e => by
       have := hL.1 o' ho'
       rw [e] at this
       simp only [Bool.not_eq_true'] at this
       have h2 : (x.looksAt ops).contains t = true := by simpa using ht
       rw [h2] at this
       cases this
      have := hv u hu
      unfold Oper.quietAt at this ⊢
      rw [e]
      exact this
     ·rw [wanted_free a hg] at hw; cases hw
  ·exact quiet_at hsel l _ h' ((put_size ..).trans hN) hD.2 hL.2 (fun o' ho' => hG o' (List.mem_cons_of_mem _ ho')) x hx
def Ag (ops : Array Oper) (A : Act) (got : Array Bool) (a : Act) : Prop :=
 a.tmps.size = A.tmps.size ∧ a.defers = A.defers ∧ ∀ t, (∀ (j : Nat) o, ops[j]? = some o → o.dst = some t → got.getD j true = true) → a.tmps[t]? = A.tmps[t]?
def pend (ops : Array Oper) (got : Array Bool) : Nat := ((List.range ops.size).filter fun j => !got.getD j true).length
theorem pend_set {got : Array Bool} {i : Nat} (hi : i < ops.size) (hs : got.size = ops.size) (hg : got.getD i true = false) : pend ops (got.setIfInBounds i true) + 1 = pend ops got := by
 unfold pend
 have key : ∀ l : List Nat, l.Nodup → i ∈ l → (l.filter fun j => !(got.setIfInBounds i true).getD j true).length + 1 = (l.filter fun j => !got.getD j true).length := by
  intro l
  induction l with
  | nil => intro _ h; cases h
  | cons x l ih =>
   intro hn hm
   rw [List.nodup_cons] at hn
   by_cases e : x = i
   ·subst e
    have h1 : (got.setIfInBounds x true).getD x true = true := by simp [hs, hi]
    have h2 : (l.filter fun j => !(got.setIfInBounds x true).getD j true) = l.filter fun j => !got.getD j true := List.filter_congr fun j hj => by
     have hne : x ≠ j := fun e => hn.1 (by rw [e]; exact hj)
     rw [getD_set_ne true hne]
    simp only [List.filter_cons, h1, hg, Bool.not_true, Bool.not_false, if_true, Bool.false_eq_true, if_false, List.length_cons, h2]
   ·have hm' : i ∈ l := (List.mem_cons.1 hm).resolve_left (fun h => e h.symm)
    have h1 : (got.setIfInBounds i true).getD x true = got.getD x true := getD_set_ne true (fun h => e h.symm)
    simp only [List.filter_cons, h1]
    split
    ·simp only [List.length_cons]; rw [← ih hn.2 hm']
    ·exact ih hn.2 hm'
 exact key _ List.nodup_range (List.mem_range.2 hi)
theorem pend_zero {got : Array Bool} (h : pend ops got = 0) {j : Nat} (hj : j < ops.size) : got.getD j true = true := by
 unfold pend at h
 have := List.length_eq_zero_iff.1 h
 rw [List.filter_eq_nil_iff] at this
 have := this j (List.mem_range.2 hj)
 simpa using this
def storesB (md : Region.Mode) (ops : Array Oper) (ts : List Nat) : Bool :=
 Region.noSelect ops && ops.all (fun o => o.guard.isNone) &&
 (List.range ops.size).all (fun j => match ops[j]? with | some o => o.after.all fun e => !Region.binds md e || decide (e.on < j) | none => true) &&
 (List.range ops.size).all (fun j => (List.range ops.size).all fun m => match ops[j]?, ops[m]? with
  | some o, some o' => (match o'.dst with | some t => !(o.looksAt ops).contains t || o.after.any (fun e => Region.binds md e && e.on == m) | none => true) && (match o.dst with | some t => o'.dst != some t || j == m | none => true)
  | _, _ => true) &&
 ts.all (fun j => match ops[j]? with | some o => o.dst.isNone | none => false) &&
 (List.range ops.size).all (fun j => match ops[j]? with | some o => o.dst.isSome || ts.contains j | none => true) &&
 (List.range ts.length).all (fun k => match ts[k + 1]?, ts[k]? with | some j, some i => (match ops[j]? with | some o => o.after.any (fun e => Region.binds md e && e.on == i) | none => true) | _, _ => true)
def StAt (P : Program) (A : Act) (U : Nat → World) (k : Nat) : Option Oper → Prop
 | some o => (∃ x, (execOp A.eval o).run P (U k) = .ok (.value x) (U (k + 1))) ∨ (execOp A.eval o).run P (U k) = .ok .skip (U (k + 1))
 | none => False
def Sts (P : Program) (A : Act) (U : Nat → World) (ops : Array Oper) : Nat → List Nat → Prop
 | _, [] => True
 | k, j :: ts => StAt P A U k ops[j]? ∧ Sts P A U ops (k + 1) ts
theorem Sts.at_ : ∀ (ts : List Nat) (k : Nat), Sts P A U ops k ts → ∀ (m : Nat) j, ts[m]? = some j → StAt P A U (k + m) ops[j]?
 | [], k, h, m, j, hm => by simp at hm
 | x :: ts, k, h, 0, j, hm => by
  simp at hm
  subst hm
  exact h.1
 | x :: ts, k, h, m + 1, j, hm => by
  have := Sts.at_ ts (k + 1) h.2 m j (by simpa using hm)
  rwa [show k + (m + 1) = k + 1 + m by omega]
end
end Go.Proofs.YtgdcphmmehedoaaGreat.Fx.RS
/- order.used, order.fits. -/
namespace Go.Proofs.YtgdcphmmehedoaaGreat.Fx
open Go.ChangeShapes Go.WideShapes Go.ChangeAt Go.RowKit
set_option linter.unusedVariables false
def FitP (o : Or) : Prop :=
 (o.kd = 1 ∧ BodyP (bodyOr o)) ∨ ((o.kd = 2 ∨ o.kd = 4) ∧ 1 ≤ o.id) ∨ (o.kd = 3 ∧ JointP (jointOr o)) ∨
 (o.kd = 5 ∧ 1 ≤ o.id ∧ (Inn o.vx 4611686018427387904 ∧ Inn o.vy 4611686018427387904) ∧ Inn o.sp 4611686018427387904) ∨
 (o.kd = 6 ∧ Inn o.vx 17592186044416 ∧ Inn o.vy 17592186044416)
end Go.Proofs.YtgdcphmmehedoaaGreat.Fx
/- order.Same. -/
namespace Go.Proofs.YtgdcphmmehedoaaGreat.Fx
open Go.ChangeShapes Go.WideShapes Go.ChangeAt Go.RowKit
set_option linter.unusedVariables false
def EqO (a b : Or) : Prop := a.kd = b.kd ∧ a.id = b.id ∧ a.a = b.a ∧ a.b = b.b ∧ (a.x = b.x ∧ a.y = b.y) ∧ (a.vx = b.vx ∧ a.vy = b.vy) ∧ a.an = b.an ∧ a.sp = b.sp ∧ a.de = b.de ∧ a.ln = b.ln ∧ a.k = b.k ∧ a.r = b.r ∧ a.n = b.n ∧ ∀ i, i < a.n → a.f i = b.f i
end Go.Proofs.YtgdcphmmehedoaaGreat.Fx
/- IndexFunc and ContainsFunc over orders; are all of them right? -/
namespace Go.Proofs.YtgdcphmmehedoaaGreat.Fx
open Go.ChangeShapes Go.WideShapes Go.ChangeAt Go.RowKit
set_option linter.unusedVariables false
theorem ElT.o15 {w : World} {b o : Nat} {x : Or} (h : ElT encO w b o x) : w.cell? ⟨b, o, none⟩ = some (.int .i64 x.kd) ∧ w.cell? ⟨b, o + 1, none⟩ = some (.int .i64 x.id) ∧ w.cell? ⟨b, o + 2, none⟩ = some (.int .i64 x.a) ∧ w.cell? ⟨b, o + 3, none⟩ = some (.int .i64 x.b) ∧ w.cell? ⟨b, o + 4, none⟩ = some (.int .i64 x.x) ∧ w.cell? ⟨b, o + 5, none⟩ = some (.int .i64 x.y) ∧ w.cell? ⟨b, o + 6, none⟩ = some (.int .i64 x.vx) ∧ w.cell? ⟨b, o + 7, none⟩ = some (.int .i64 x.vy) ∧ w.cell? ⟨b, o + 8, none⟩ = some (.int .i64 x.an) ∧ w.cell? ⟨b, o + 9, none⟩ = some (.int .i64 x.sp) ∧ w.cell? ⟨b, o + 10, none⟩ = some (.int .i64 x.de) ∧ w.cell? ⟨b, o + 11, none⟩ = some (.int .i64 x.ln) ∧ w.cell? ⟨b, o + 12, none⟩ = some (.int .i64 x.k) ∧ w.cell? ⟨b, o + 13, none⟩ = some (.int .i64 x.r) ∧ w.cell? ⟨b, o + 14, none⟩ = some (.slice x.ao x.n x.c) :=
 ⟨h 0 _ rfl, h 1 _ rfl, h 2 _ rfl, h 3 _ rfl, h 4 _ rfl, h 5 _ rfl, h 6 _ rfl, h 7 _ rfl, h 8 _ rfl, h 9 _ rfl, h 10 _ rfl, h 11 _ rfl, h 12 _ rfl, h 13 _ rfl, h 14 _ rfl⟩
def OrsAt (w : World) (ao : Option Addr) (l : List Or) : Prop := LsT encO 15 w ao l ∧ ∀ o ∈ l, OrI o ∧ o.n ≤ 1073741824 ∧ Sl w o.ao o.n o.f
theorem OrsAt.kept {w v : World} {ao : Option Addr} {l : List Or} (h : OrsAt w ao l) (k : Made w.heap.size w v) : OrsAt v ao l :=
 ⟨h.1.kept k, fun o ho => ⟨(h.2 o ho).1, (h.2 o ho).2.1, fun hn => by obtain ⟨b, off, e, hp⟩ := (h.2 o ho).2.2 hn; exact ⟨b, off, e, hp.kept k⟩⟩⟩
end Go.Proofs.YtgdcphmmehedoaaGreat.Fx