/- CpB -/
import Derived.Test.YtgdcphmmehedoaaGreatCc20
import Derived.Test.YtgdcphmmehedoaaGreatCc25
set_option maxRecDepth 100000
set_option maxHeartbeats 64000000
/- Layer 15: CodecApart. -/
namespace Go.Proofs.YtgdcphmmehedoaaGreat.Fx
open Go.ChangeShapes Go.WideShapes Go.ChangeAt Go.RowKit
set_option linter.unusedVariables false
def alAB (Z : Nat) (LA LB : List Nat) (nA nX : Nat) (i : Nat) (v : World) (g : Nat) (e : MY.Ex) : Prop := (i = 1 → OB v Z e.v nA (gl LA)) ∧ (i = 4 → OB v Z e.v nX (gl LB))
theorem alAB_lasts (Z : Nat) (LA LB : List Nat) (nA nX : Nat) : MY.Lasts (alAB Z LA LB nA nX) := fun i u v g e h hh k => ⟨fun hi => OB.kept (h.1 hi) k, fun hi => OB.kept (h.2 hi) k⟩
theorem wenc_of {tk nb nj gx gy : Int} {P : PW} {w : World} {ob oj oc : Option Addr} (h : POk P) (hn : I64 tk ∧ I64 nb ∧ I64 nj ∧ I64 gx ∧ I64 gy) (hA : WdAt w ob P.B oj P.J oc P.C) (hC : P.C = []) : WEnc tk nb nj gx gy P.B P.J P.C :=
 ⟨hn, fun b hb => ⟨(h.hB.all b hb).shape, (hA.sB b hb).2⟩, hA.iJ, hA.iC, by have := h.hB.len; omega, by have := h.hJ.len; omega, by rw [hC]; simp⟩
theorem bodyP_n {b : Bd} (h : BodyP b) : b.n ≤ 8 := by
 rcases h.shape with ⟨_, h, _⟩ | ⟨_, _, _, h, _⟩ <;> omega
theorem codecapart_walk (l : List De) (d : De) (how : Nat) (lo : Option Addr) (nl cl : Nat) (w : World) (hhow : how < 256) (hds : Sl w d.rao d.rn d.rf) (hdi : DeI d) (hnl : l.length = nl) (hD : DesAt w lo l) (hnc : nl ≤ cl) (hcm : cl ≤ maxLen) (ho : (lo = none ∧ nl = 0 ∧ cl = 0) ∨ ∃ a, lo = some a) :
  Calls Tryz.prog 5 #[.slice lo nl cl, .agg (encD d).toArray, .int .u8 (how : Nat)] w fun e v => e = .returned (.bool true) ∧ Made w.heap.size w v := by
 obtain ⟨bd, hbd⟩ := dbody_c d hdi
 have HBD := hid hbd
 have HMd := hid (fun v (k : Made w.heap.size w v) => made_0 6 (by omega) hnl (hD.kept k) hnc hcm ho)
 have HDS := hid hds
 have HDI := hid hdi
 obtain ⟨da, eda⟩ : ∃ z, (encD d).toArray = z := ⟨_, rfl⟩
 have HDA := hid eda
 have HSD : Hid (da.size = 30) := by unfold Hid; rw [← eda]; rfl
 have HD29 : Hid (da[29]? = some (.slice d.rao d.rn d.rc)) := by unfold Hid; rw [← eda]; rfl
 have HD8 : Hid (da[8]? = some (.int .i64 d.vx)) := by unfold Hid; rw [← eda]; rfl
 have hq3 : bits .and .u8 (how : Int) 3 = ((how % 4 : Nat) : Int) := by
  have h := u8_and_nat how 3 hhow (by omega)
  rw [show ((3 : Nat) : Int) = 3 from rfl] at h
  rw [h, show (3 : Nat) = 2 ^ 2 - 1 from rfl, Nat.and_two_pow_sub_one_eq_mod]
 rw [eda]
 clear eda hds hdi hnl hD hnc hcm ho hbd
 obtain ⟨W, eW⟩ : ∃ W, W = w.alloc (.cells da 37) := ⟨_, rfl⟩
 have KW : Hid (Made w.heap.size w W) := by unfold Hid; rw [eW]; exact (Made.rfl_ _ _).cells (Nat.le_refl _) _ _
 have HDx : Hid (Has W w.heap.size 37 da) := by unfold Hid; rw [eW]; exact has_new _ _ _
 obtain ⟨gd, egd⟩ : ∃ g, w.heap.size = g := ⟨_, rfl⟩
 rw [egd] at HDx
 have hgd : w.heap.size ≤ gd := Nat.le_of_eq egd
 go_enter Tryz.func5, Tryz.ntmps5
 go_upto_region 1 with fail
 rw [← eW]
 clear eW
 try rw [egd]
 clear egd
 go_wp2_with fail
 refine fit15_c.mono ?_
 rintro e w1 ⟨rfl, k1⟩
 have K1 := hid (KW.out.then_ (k1.low KW.out.1.size))
 have HD1 := hid (HDx.out.stays k1 HDx.out.here)
 clear k1 HDx KW
 have d29 : w1.cell? ⟨gd, 29, none⟩ = some (.slice d.rao d.rn d.rc) := by rw [HD1.out.at_]; exact HD29.out
 have ld : gd < w1.heap.size := HD1.out.here
 by_cases h12 : 12 < d.rn
 ·go_wp2_with fail
  go_ret
  exact ⟨rfl, K1.out⟩
 go_wp2_with fail
 refine (HMd.out _ K1.out).mono ?_
 rintro e w2 ⟨P, val, rfl, hval, hok, hsm, k2⟩
 have K2 := hid (K1.out.then_ (k2.low K1.out.1.size))
 have HD2 := hid (HD1.out.stays k2 HD1.out.here)
 have OK := hid hok
 have SM : Hid (P.C = []) := hsm.1
 have SN := hid hsm
 clear k2 hok hsm HMd d29 ld HD1 K1 h12
 obtain ⟨ob, oj, cb, cj, eval, hLm⟩ := hval
 have HLm := hid hLm
 obtain ⟨nB, eB⟩ : ∃ m, P.B.length = m := ⟨_, rfl⟩
 obtain ⟨nJ, eJ⟩ : ∃ m, P.J.length = m := ⟨_, rfl⟩
 obtain ⟨nb, eb⟩ : ∃ m, P.nb = m := ⟨_, rfl⟩
 obtain ⟨nj, ej⟩ : ∃ m, P.nj = m := ⟨_, rfl⟩
 have eC : P.C.length = 0 := by rw [SM.out]; rfl
 rw [eB, eJ, eC, eb, ej] at eval
 subst eval
 have HE := hid (And.intro eB (And.intro eJ (And.intro eb ej)))
 have HNs : Hid (nB ≤ 1024 ∧ nJ ≤ 1024) := by unfold Hid; rw [← eB, ← eJ]; exact ⟨OK.out.hB.len, OK.out.hJ.len⟩
 have HIn : Hid (I64 nb ∧ I64 nj) := by unfold Hid; rw [← eb, ← ej]; have h := nb_I OK.out; exact ⟨h.1, h.2.2.1⟩
 have H255 : Hid (∀ b ∈ P.B, b.n ≤ 255) := fun b hb => Nat.le_trans (bodyP_n (OK.out.hB.all b hb)) (by omega)
 clear hLm eB eJ eb ej eC
 obtain ⟨W3, eW3⟩ : ∃ V, V = w2.alloc (.cells #[.int .i64 0, .int .i64 nb, .int .i64 nj, .int .i64 0, .int .i64 0, .slice ob nB cb, .slice oj nJ cj, .slice none 0 0] 56) := ⟨_, rfl⟩
 have kk3 : Made w2.heap.size w2 W3 := by rw [eW3]; exact (Made.rfl_ _ _).cells (Nat.le_refl _) _ _
 have K3 := hid (K2.out.then_ (kk3.low K2.out.1.size))
 have HW3 : Hid (Has W3 w2.heap.size 56 #[.int .i64 0, .int .i64 nb, .int .i64 nj, .int .i64 0, .int .i64 0, .slice ob nB cb, .slice oj nJ cj, .slice none 0 0]) := by unfold Hid; rw [eW3]; exact has_new _ _ _
 have HL3 : Hid (WLs (fun b => w2.heap.size ≤ b) W3 ob cb P.B oj cj P.J none 0 []) := by
  have h := (HLm.out.free (Y := fun b => w2.heap.size ≤ b) (fun b hb => .inr hb)).kept kk3
  rw [SM.out] at h
  exact h
 have HD3 := hid (HD2.out.stays kk3 HD2.out.here)
 have hgw : w.heap.size ≤ w2.heap.size := K2.out.1.size
 have hgdw : gd < w2.heap.size := HD2.out.here
 obtain ⟨ga, egw⟩ : ∃ g, w2.heap.size = g := ⟨_, rfl⟩
 rw [egw] at HW3 HL3 hgw hgdw
 clear kk3 HD2
 go_upto_region 6 with fail
 rw [← eW3]
 clear eW3 HLm K2
 try rw [egw]
 clear egw
 have a0 : W3.cell? ⟨ga, 0, none⟩ = some (.int .i64 0) := HW3.out.at_ 0
 have a1 : W3.cell? ⟨ga, 1, none⟩ = some (.int .i64 nb) := HW3.out.at_ 1
 have a2 : W3.cell? ⟨ga, 2, none⟩ = some (.int .i64 nj) := HW3.out.at_ 2
 have a3 : W3.cell? ⟨ga, 3, none⟩ = some (.int .i64 0) := HW3.out.at_ 3
 have a4 : W3.cell? ⟨ga, 4, none⟩ = some (.int .i64 0) := HW3.out.at_ 4
 have a5 : W3.cell? ⟨ga, 5, none⟩ = some (.slice ob nB cb) := HW3.out.at_ 5
 have a6 : W3.cell? ⟨ga, 6, none⟩ = some (.slice oj nJ cj) := HW3.out.at_ 6
 have a7 : W3.cell? ⟨ga, 7, none⟩ = some (.slice none 0 0) := HW3.out.at_ 7
 have HCp := hid (wcopy_x 0 nb nj 0 0 ob oj none nB cb nJ cj 0 0 HL3.out HE.out.1 HE.out.2.1 rfl (by have := HNs.out.1; omega) (by have := HNs.out.2; omega) (by omega) (fun b hb => bodyP_n (OK.out.hB.all b hb)))
 have la : ga < W3.heap.size := HW3.out.here
 go_wp2_with fail
 refine HCp.out.mono ?_
 rintro e w4 ⟨B1, ob1, oj1, oc1, cb1, cj1, cc1, rfl, k4, hl1, hs1, hNB, hNJ, hNC, hrJ, hoc, hMi⟩
 obtain ⟨rfl, rfl⟩ : oc1 = none ∧ cc1 = 0 := by simpa using hoc
 have HCL := hid (copy_wls HL3.out hl1 HE.out.1 hs1 hNB hNJ hNC hMi)
 have hl1 : Hid (B1.length = nB) := hl1
 have HS1 : Hid (SameBs P.B B1) := ⟨hl1.out.trans HE.out.1.symm, hs1⟩
 have HNB := hid hNB
 have HRJ := hid hrJ
 have HMi := hid hMi
 have K4 := hid (K3.out.then_ (k4.low K3.out.1.size))
 have HW4 := hid (HW3.out.stays k4 HW3.out.here)
 have HD4 := hid (HD3.out.stays k4 HD3.out.here)
 have HL4 := hid (HL3.out.kept k4)
 have hz34 : W3.heap.size ≤ w4.heap.size := k4.1.size
 clear k4 hs1 hNB hNJ hNC hrJ hMi hoc a0 a1 a2 a3 a4 a5 a6 a7 HCp
 obtain ⟨W5, eW5⟩ : ∃ V, V = w4.alloc (.cells #[.int .i64 0, .int .i64 nb, .int .i64 nj, .int .i64 0, .int .i64 0, .slice ob1 nB cb1, .slice oj1 nJ cj1, .slice none 0 0] 56) := ⟨_, rfl⟩
 have kk5 : Made w4.heap.size w4 W5 := by rw [eW5]; exact (Made.rfl_ _ _).cells (Nat.le_refl _) _ _
 have K5 := hid (K4.out.then_ (kk5.low K4.out.1.size))
 have HB5 : Hid (Has W5 w4.heap.size 56 #[.int .i64 0, .int .i64 nb, .int .i64 nj, .int .i64 0, .int .i64 0, .slice ob1 nB cb1, .slice oj1 nJ cj1, .slice none 0 0]) := by unfold Hid; rw [eW5]; exact has_new _ _ _
 have HW5 := hid (HW4.out.stays kk5 HW4.out.here)
 have HD5 := hid (HD4.out.stays kk5 HD4.out.here)
 have HL5 := hid (HL4.out.kept kk5)
 have HLb5 : Hid (WLs (fun b => b = w4.heap.size) W5 ob1 cb1 B1 oj1 cj1 P.J none 0 []) := (HCL.out.1.free (Y := fun b => b = w4.heap.size) (fun b hb => .inr (by have hb : b = w4.heap.size := hb; omega))).kept kk5
 have HMi5 : Hid (∀ b ∈ B1, Mine (fun g => ob1 = some ⟨g, 0, none⟩ ∨ oj1 = some ⟨g, 0, none⟩ ∨ none = some (⟨g, 0, none⟩ : Addr)) W3.heap.size W5 b) := fun b hb => MadeMine (HMi.out b hb) kk5
 have HRow5 : Hid (0 < nB → ∃ g, ob1 = some ⟨g, 0, none⟩ ∧ RowL encB 11 W5 g 35 nB B1 ∧ W3.heap.size ≤ g ∧ g < w4.heap.size ∧ ∀ o s, oj1 = some ⟨g, o, s⟩ → False) := fun h0 => by
  obtain ⟨g, e, hr⟩ := HNB.out.row h0
  refine ⟨g, e, hr.stays kk5 hr.here, HNB.out.fresh g 0 none e, hr.here, fun o s e2 => ?_⟩
  obtain ⟨_, A, hA, _⟩ := hr
  refine own_apart HRJ.out hA (by decide) ?_
  rcases HRJ.out.2 with ⟨e3, h3⟩ | ⟨g3, cap, cur, e3, _⟩
  ·have e4 : oj1 = none := by injection e3
   rw [e4] at e2; cases e2
  ·have e4 : oj1 = some ⟨g3, 0, none⟩ := by injection e3
   rw [e4] at e2
   cases e2
   rw [e4]
   rfl
 have OK1 := hid (copy_ok OK.out SM.out HS1.out)
 have hgab : ga < w4.heap.size := HW4.out.here
 obtain ⟨gb, ego⟩ : ∃ g, w4.heap.size = g := ⟨_, rfl⟩
 rw [ego] at HB5 hgab HLb5 hz34
 have HRow6 : Hid (0 < nB → ∃ g, ob1 = some ⟨g, 0, none⟩ ∧ RowL encB 11 W5 g 35 nB B1 ∧ W3.heap.size ≤ g ∧ g < gb ∧ ∀ o s, oj1 = some ⟨g, o, s⟩ → False) := fun h0 => by rw [← ego]; exact HRow5.out h0
 go_upto_region 7 with fail
 rw [← eW5]
 clear eW5 kk5 HW4 HD4 HL4 HMi HNB HRJ HRow5 K4 K3 HW3 HL3 HD3
 try rw [ego]
 clear ego
 have EA : Hid (WEnc 0 nb nj 0 0 P.B P.J []) := by
  have h := wenc_of (tk := 0) (nb := nb) (nj := nj) (gx := 0) (gy := 0) (w := W5) (ob := ob) (oj := oj) (oc := none) OK.out ⟨i0, HIn.out.1, HIn.out.2, i0, i0⟩ (by rw [SM.out]; exact HL5.out.at_) SM.out
  rw [SM.out] at h
  exact h
 have H255b : Hid (∀ b ∈ B1, b.n ≤ 255) := fun b hb => Nat.le_trans (bodyP_n (OK1.out.hB.all b hb)) (by omega)
 have hgne : ¬ ga = gb := by omega
 obtain ⟨qm, eqm⟩ : ∃ z, how % 4 = z := ⟨_, rfl⟩
 rw [eqm] at hq3
 have lqm : qm < 4 := by omega
 have HHow := hid eqm
 clear eqm
 have hcs : qm = 0 ∨ qm = 1 ∨ qm = 2 ∨ qm = 3 := by omega
 clear lqm
 rcases hcs with rfl | rfl | rfl | rfl
 ·skip
  have HDo : Hid (Calls Tryz.prog 16 #[.agg da, .pointer (some ⟨gb, 0, none⟩)] W5 fun e v => ∃ n er gone P', e = .returned (.tuple #[.int .i64 n, .int .i64 er, .bool gone]) ∧ Small P' 7 ∧ POk P' ∧ WV (fun b => b = gb) v gb P' ∧ But (fun g => g = gb) W5 v) := by
   have hV : WV (fun b => b = gb) W5 gb ⟨P.nb, P.nj, B1, P.J, []⟩ := by
    refine ⟨ob1, oj1, none, cb1, cj1, 0, ?_, HLb5.out⟩
    show Has W5 gb _ #[.int .i64 0, .int .i64 P.nb, .int .i64 P.nj, .int .i64 0, .int .i64 0, .slice ob1 B1.length cb1, .slice oj1 P.J.length cj1, .slice none 0 0]
    rw [HE.out.2.2.1, HE.out.2.2.2, hl1.out, HE.out.2.1]
    exact HB5.out
   have h := do_c d bd HBD.out HDI.out hV OK1.out rfl (fun b hb => by have hb : b = gb := hb; have := HB5.out.here; omega) (Sl.kept HDS.out K5.out) (by simp)
   rw [show deV d = .agg da from by rw [← HDA.out]; rfl] at h
   refine h.mono ?_
   rintro e v ⟨n, er, gone, P', rfl, h1, h2, h3⟩
   have hS : Small (⟨P.nb, P.nj, B1, P.J, []⟩ : PW) 6 := ⟨rfl, by show B1.length ≤ 6; rw [hl1.out, ← HE.out.1]; exact SN.out.2.1, SN.out.2.2.1, SN.out.2.2.2.1, SN.out.2.2.2.2⟩
   exact ⟨n, er, gone, P', rfl, step_small hS h1, step_ok OK1.out h1, h2, h3⟩
  go_wp2_with (refine wpList_load_row rfl 37 (.tmp 4) rfl gd rfl 37 _ (0, 0) _ HD5.out Tryz.underlying37 rfl (by rw [HSD.out]; kernel_rfl) ?_)
  refine HDo.out.mono ?_
  rintro e V ⟨n, er, gone, P', rfl, hsm, hok, hV, kv⟩
  obtain ⟨nb2, nj2, B2, J2, C2⟩ := P'
  obtain ⟨ob2, oj2, oc2, cb2, cj2, cc2, hH, hL⟩ := hV
  have hC2 : C2 = [] := hsm.1
  subst hC2
  obtain ⟨nB2, eB2⟩ : ∃ z, B2.length = z := ⟨_, rfl⟩
  obtain ⟨nJ2, eJ2⟩ : ∃ z, J2.length = z := ⟨_, rfl⟩
  have HE2 := hid (And.intro eB2 eJ2)
  have hB2 : nB2 ≤ 1024 := by rw [← eB2]; exact hok.hB.len
  have hJ2 : nJ2 ≤ 1024 := by rw [← eJ2]; exact hok.hJ.len
  have HNs2 := hid (And.intro hB2 hJ2)
  have hH : Has V gb 56 #[.int .i64 0, .int .i64 nb2, .int .i64 nj2, .int .i64 0, .int .i64 0, .slice ob2 nB2 cb2, .slice oj2 nJ2 cj2, .slice oc2 0 cc2] := by
   have h : Has V gb _ #[.int .i64 0, .int .i64 nb2, .int .i64 nj2, .int .i64 0, .int .i64 0, .slice ob2 B2.length cb2, .slice oj2 J2.length cj2, .slice oc2 0 cc2] := hH
   rw [eB2, eJ2] at h
   exact h
  have HAv : Hid (Has V ga 56 #[.int .i64 0, .int .i64 nb, .int .i64 nj, .int .i64 0, .int .i64 0, .slice ob nB cb, .slice oj nJ cj, .slice none 0 0]) := HW5.out.but kv hgne
  have HBv := hid hH
  have HWav : Hid (WdAt V ob P.B oj P.J none []) := (HL5.out.but kv (fun b hb => by have hb : b = gb := hb; show ga ≤ b; omega)).at_
  have HWbv : Hid (WdAt V ob2 B2 oj2 J2 oc2 []) := hL.at_
  have Kv : Hid (Made w.heap.size w V) := But.made_ K5.out kv K5.out.1.size (fun b hb => by have hb : b = gb := hb; omega)
  have hI2 := nb_I hok
  have EB : Hid (WEnc 0 nb2 nj2 0 0 B2 J2 []) := wenc_of (P := ⟨nb2, nj2, B2, J2, []⟩) hok ⟨i0, hI2.1, hI2.2.2.1, i0, i0⟩ HWbv.out rfl
  have H255c : Hid (∀ b ∈ B2, b.n ≤ 255) := fun b hb => Nat.le_trans (bodyP_n (hok.hB.all b hb)) (by omega)
  clear hsm hok hL hH kv eB2 eJ2 hB2 hJ2 hI2 HDo
  obtain ⟨q, hq⟩ := a_bool ((0 : Int) = 0 ∧ nb = nb2 ∧ nj = nj2 ∧ ((0 : Int) = 0 ∧ (0 : Int) = 0) ∧ EqBs P.B B2 ∧ P.J = J2 ∧ ([] : List Ct) = [])
  obtain ⟨LA, eLA⟩ : ∃ L, wdB 0 nb nj 0 0 P.B P.J [] = L := ⟨_, rfl⟩
  obtain ⟨LB, eLB⟩ : ∃ L, wdB (0) nb2 nj2 (0) 0 B2 J2 [] = L := ⟨_, rfl⟩
  have hLA : ∀ x ∈ LA, x < 256 := by rw [← eLA]; exact wdB_lt _ _ _ _ _ _ _ _
  have hLB : ∀ x ∈ LB, x < 256 := by rw [← eLB]; exact wdB_lt _ _ _ _ _ _ _ _
  obtain ⟨XA, eXA⟩ : ∃ X, strB (gl LA) LA.length = X := ⟨_, rfl⟩
  obtain ⟨XB, eXB⟩ : ∃ X, strB (gl LB) LB.length = X := ⟨_, rfl⟩
  have hXX : XA = XB ↔ q = true := by
   rw [hq, ← wdB_iff EA.out EB.out, eLA, eLB, ← eXA, ← eXB]
   exact gl_inj hLA hLB
  have hjj : (XA.toList == XB.toList) = q := by
   cases q with
   | true => exact str_yes (hXX.2 rfl)
   | false => exact str_no (fun h => by have := hXX.1 h; cases this)
  have HQ := hid hq
  have EXA := hid eXA; have EXB := hid eXB
  have ELA := hid eLA; have ELB := hid eLB
  have hqq : (q == q) = true := by simp
  clear hXX hLA hLB eXA eXB eLA eLB hq
  obtain ⟨nA, enA⟩ : ∃ n, LA.length = n := ⟨_, rfl⟩
  obtain ⟨nX, enX⟩ : ∃ n, LB.length = n := ⟨_, rfl⟩
  rw [enA] at EXA
  rw [enX] at EXB
  have ENA := hid enA; have ENX := hid enX
  clear enA enX
  have mkA : Hid (∀ (G' : Nat → Option (Nat × MY.Ex)) (u : World), MY.Cm V (alAB V.heap.size LA LB nA nX) G' u → Calls Tryz.prog 17 #[wdV 0 nb nj 0 0 (.slice ob nB cb) (.slice oj nJ cj) (.slice none 0 0)] u fun e v => ∃ x, e = .returned x ∧ OB v V.heap.size x nA (gl LA) ∧ Made u.heap.size u v) := fun G' u hu => by
   refine (cworld_c (nB := nB) (nJ := nJ) (nC := 0) (HWav.out.kept hu.1) ⟨HE.out.1, HE.out.2.1, rfl⟩ EA.out.n H255.out (by have := HNs.out.1; omega) (by have := HNs.out.2; omega) (by omega)).mono ?_
   rintro e v ⟨ao, m, c, rfl, hm, _, _, hO, h2⟩
   rw [ELA.out] at hm hO
   have hm : m = nA := by rw [← hm, ENA.out]
   subst hm
   exact ⟨_, rfl, hO.low hu.1.1.size, h2⟩
  have mkB : Hid (∀ (G' : Nat → Option (Nat × MY.Ex)) (u : World), MY.Cm V (alAB V.heap.size LA LB nA nX) G' u → Calls Tryz.prog 17 #[wdV (0) nb2 nj2 (0) 0 (.slice ob2 nB2 cb2) (.slice oj2 nJ2 cj2) (.slice oc2 0 cc2)] u fun e v => ∃ x, e = .returned x ∧ OB v V.heap.size x nX (gl LB) ∧ Made u.heap.size u v) := fun G' u hu => by
   refine (cworld_c (nB := nB2) (nJ := nJ2) (nC := 0) (HWbv.out.kept hu.1) ⟨HE2.out.1, HE2.out.2, rfl⟩ EB.out.n H255c.out (by have := HNs2.out.1; omega) (by have := HNs2.out.2; omega) (by omega)).mono ?_
   rintro e v ⟨ao, m, c, rfl, hm, _, _, hO, h2⟩
   rw [ELB.out] at hm hO
   have hm : m = nX := by rw [← hm, ENX.out]
   subst hm
   exact ⟨_, rfl, hO.low hu.1.1.size, h2⟩
  have qa0 : V.cell? ⟨ga, 0, none⟩ = some (.int .i64 0) := HAv.out.at_ 0
  have qa1 : V.cell? ⟨ga, 1, none⟩ = some (.int .i64 nb) := HAv.out.at_ 1
  have qa2 : V.cell? ⟨ga, 2, none⟩ = some (.int .i64 nj) := HAv.out.at_ 2
  have qa3 : V.cell? ⟨ga, 3, none⟩ = some (.int .i64 0) := HAv.out.at_ 3
  have qa4 : V.cell? ⟨ga, 4, none⟩ = some (.int .i64 0) := HAv.out.at_ 4
  have qa5 : V.cell? ⟨ga, 5, none⟩ = some (.slice ob nB cb) := HAv.out.at_ 5
  have qa6 : V.cell? ⟨ga, 6, none⟩ = some (.slice oj nJ cj) := HAv.out.at_ 6
  have qa7 : V.cell? ⟨ga, 7, none⟩ = some (.slice none 0 0) := HAv.out.at_ 7
  have qb0 : V.cell? ⟨gb, 0, none⟩ = some (.int .i64 0) := HBv.out.at_ 0
  have qb1 : V.cell? ⟨gb, 1, none⟩ = some (.int .i64 nb2) := HBv.out.at_ 1
  have qb2 : V.cell? ⟨gb, 2, none⟩ = some (.int .i64 nj2) := HBv.out.at_ 2
  have qb3 : V.cell? ⟨gb, 3, none⟩ = some (.int .i64 0) := HBv.out.at_ 3
  have qb4 : V.cell? ⟨gb, 4, none⟩ = some (.int .i64 0) := HBv.out.at_ 4
  have qb5 : V.cell? ⟨gb, 5, none⟩ = some (.slice ob2 nB2 cb2) := HBv.out.at_ 5
  have qb6 : V.cell? ⟨gb, 6, none⟩ = some (.slice oj2 nJ2 cj2) := HBv.out.at_ 6
  have qb7 : V.cell? ⟨gb, 7, none⟩ = some (.slice oc2 0 cc2) := HBv.out.at_ 7
  go_upto_region 18 with fail
  refine MY.reg_mk (alAB V.heap.size LA LB nA nX) 11 [0, 3, 7, 8, 1, 2, 4, 5, 6, 9, 10] [0, 2, 3, 5, 6, 7, 8, 9, 10] [1, 4] [] (fun i => if i = 2 then [1] else if i = 5 then [4] else []) (val := valBy) (by kernel_rfl) (by kernel_rfl) (fun p hp => absurd hp (by simp)) ?_
  refine MY.can_class (rest := [1, 2, 4, 5, 6, 9, 10]) [0, 3, 7, 8] [] 77 (alAB_lasts _ _ _ _ _) (MY.any_class _) (by kernel_rfl) rfl (by kernel_rfl) (by kernel_rfl) ?_
  apply Exists.intro
  refine ⟨?r1z3, ?r2z3⟩
  case r1z3 =>
   intro Ty hTT fw hf _
   have ya0 := Class.reads hf qa0
   have yb0 := Class.reads hf qb0
   have ya1 := Class.reads hf qa1
   have yb1 := Class.reads hf qb1
   have ya2 := Class.reads hf qa2
   have yb2 := Class.reads hf qb2
   have ya3 := Class.reads hf qa3
   have yb3 := Class.reads hf qb3
   have ya4 := Class.reads hf qa4
   have yb4 := Class.reads hf qb4
   have ya5 := Class.reads hf qa5
   have yb5 := Class.reads hf qb5
   have ya6 := Class.reads hf qa6
   have yb6 := Class.reads hf qb6
   have ya7 := Class.reads hf qa7
   have yb7 := Class.reads hf qb7
   change wpQuiet _ _ _ _ [_, _, _, _] _
   repeat (go_big_quiet_step (rfl))
   exact wpQuiet_nil rfl
  refine MY.can_mk 1 67 _ rfl rfl rfl (by rfl) ?m2z3 fun q2 e2 => ?n2z3
  case m2z3 =>
   intro G' u _ hu
   rw [show (execOp _ _).run Tryz.prog u = .ok (.enter 17 #[wdV 0 nb nj 0 0 (.slice ob nB cb) (.slice oj nJ cj) (.slice none 0 0)]) u by kernel_rfl]
   show Calls _ _ _ _ _
   refine (mkA.out G' u hu).mono ?_
   rintro e v ⟨x, rfl, h1, h2⟩
   exact ⟨u.heap.size, ⟨v.heap.size, x⟩, rfl, hu.next (alAB_lasts _ _ _ _ _) h2 (Nat.le_refl _) h2.1.size (Nat.le_refl _) ⟨fun _ => h1, fun h => absurd h (by decide)⟩⟩
  rw [show valBy 1 q2 e2 = e2.v from rfl]
  simp only [Act.put, List.setIfInBounds_toArray, List.set_cons_succ, List.set_cons_zero]
  refine MY.can_one 2 68 _ (.string XA) [1] (alAB_lasts _ _ _ _ _) (by kernel_rfl) rfl rfl (of_decide_eq_true rfl) (by kernel_rfl) ?r3z3 ?r4z3
  case r3z3 =>
   intro Ty hTT fw hf hmm
   try simp only [List.getElem_toArray, List.getElem_cons_succ, List.getElem_cons_zero]
   have hm2 := fun x => (hmm 1 (by simp) (q2, e2) (by unfold MY.upd; simp) x).2.2.2
   obtain ⟨x0⟩ := hTT
   have hx0 : OB (fw x0) V.heap.size e2.v nA (gl LA) := (hm2 x0).1 rfl
   obtain ⟨ao5, c5, ev5, _⟩ := hx0.shape
   have hq6 : ∀ x, (convert 40 9 (.slice ao5 nA c5)).run Tryz.prog (fw x) = .ok (.string XA) (fw x) := fun x => by
    have h : OB (fw x) V.heap.size e2.v nA (gl LA) := (hm2 x).1 rfl
    rw [ev5] at h
    rw [← EXA.out]
    exact conv_by h.by_
   rw [ev5]
   clear hmm hm2 hx0
   repeat (go_big_quiet_step (rfl))
   exact wpQuiet_nil rfl
  simp only [Act.put, List.setIfInBounds_toArray, List.set_cons_succ, List.set_cons_zero]
  refine MY.can_mk 4 70 _ rfl rfl rfl (by rfl) ?m5z3 fun q5 e5 => ?n5z3
  case m5z3 =>
   intro G' u _ hu
   rw [show (execOp _ _).run Tryz.prog u = .ok (.enter 17 #[wdV (0) nb2 nj2 (0) 0 (.slice ob2 nB2 cb2) (.slice oj2 nJ2 cj2) (.slice oc2 0 cc2)]) u by kernel_rfl]
   show Calls _ _ _ _ _
   refine (mkB.out G' u hu).mono ?_
   rintro e v ⟨x, rfl, h1, h2⟩
   exact ⟨u.heap.size, ⟨v.heap.size, x⟩, rfl, hu.next (alAB_lasts _ _ _ _ _) h2 (Nat.le_refl _) h2.1.size (Nat.le_refl _) ⟨fun h => absurd h (by decide), fun _ => h1⟩⟩
  rw [show valBy 4 q5 e5 = e5.v from rfl]
  simp only [Act.put, List.setIfInBounds_toArray, List.set_cons_succ, List.set_cons_zero]
  refine MY.can_one 5 71 _ (.string XB) [4] (alAB_lasts _ _ _ _ _) (by kernel_rfl) rfl rfl (of_decide_eq_true rfl) (by kernel_rfl) ?r6z3 ?r7z3
  case r6z3 =>
   intro Ty hTT fw hf hmm
   try simp only [List.getElem_toArray, List.getElem_cons_succ, List.getElem_cons_zero]
   have hm2 := fun x => (hmm 4 (by simp) (q5, e5) (by unfold MY.upd; simp) x).2.2.2
   obtain ⟨x0⟩ := hTT
   have hx0 : OB (fw x0) V.heap.size e5.v nX (gl LB) := (hm2 x0).2 rfl
   obtain ⟨ao5, c5, ev5, _⟩ := hx0.shape
   have hq6 : ∀ x, (convert 40 9 (.slice ao5 nX c5)).run Tryz.prog (fw x) = .ok (.string XB) (fw x) := fun x => by
    have h : OB (fw x) V.heap.size e5.v nX (gl LB) := (hm2 x).2 rfl
    rw [ev5] at h
    rw [← EXB.out]
    exact conv_by h.by_
   rw [ev5]
   clear hmm hm2 hx0
   repeat (go_big_quiet_step (rfl))
   exact wpQuiet_nil rfl
  simp only [Act.put, List.setIfInBounds_toArray, List.set_cons_succ, List.set_cons_zero]
  refine MY.can_class (rest := []) [6, 9, 10] [] 77 (alAB_lasts _ _ _ _ _) (MY.any_class _) (by kernel_rfl) rfl (by kernel_rfl) (by kernel_rfl) ?_
  apply Exists.intro
  refine ⟨?r10z3, ?r11z3⟩
  case r10z3 =>
   intro Ty hTT fw hf _
   have HSm := hid (fun x => hf.made (x := x) (wsame_c q 0 nb nj 0 0 (0) nb2 nj2 (0) 0 ob oj none ob2 oj2 oc2 nB cb nJ cj 0 0 nB2 cb2 nJ2 cj2 0 cc2 (HWav.out.kept (hf.1 x)) (HWbv.out.kept (hf.1 x)) ⟨HE.out.1, HE.out.2.1, rfl⟩ ⟨HE2.out.1, HE2.out.2, rfl⟩ ⟨by have := HNs.out.1; omega, by have := HNs.out.2; omega, by omega⟩ (fun b hb => Nat.le_trans (H255.out b hb) (by omega)) (by first | exact HQ.out | (have h := HQ.out; simpa using h))))
   change wpQuiet _ _ _ _ [_, _, _] _
   repeat (go_big_quiet_step ((first
    | (go_at_call 18; with_reducible exact HSm.out _)
    | rfl)))
   exact wpQuiet_nil rfl
  intro w9 hu
  have HM9 : Hid (Made w.heap.size w w9) := Kv.out.then_ (hu.1.low Kv.out.1.size)
  clear hu mkA mkB
  simp only [List.drop_succ_cons, List.drop_zero]
  go_wp2_with fail
  refine NoPanic.normal ?_
  go_wp2_with fail
  go_ret
  exact ⟨rfl, HM9.out⟩
 ·skip
  have t0 : W5.cell? ⟨gb, 0, none⟩ = some (.int .i64 0) := HB5.out.at_ 0
  have z0 := HB5.out.free 0
  have lb := HB5.out.here
  obtain ⟨V, eV⟩ : ∃ z, z = W5.setCell ⟨gb, 0, none⟩ (.int .i64 1) := ⟨_, rfl⟩
  have kv : But (fun b => b = gb) W5 V := by rw [eV]; exact (But.rfl_ (fun b => b = gb) _).put (p := ⟨gb, 0, none⟩) (.inl rfl) _
  have HAv : Hid (Has V ga 56 #[.int .i64 0, .int .i64 nb, .int .i64 nj, .int .i64 0, .int .i64 0, .slice ob nB cb, .slice oj nJ cj, .slice none 0 0]) := HW5.out.but kv hgne
  have HBv : Hid (Has V gb 56 #[.int .i64 1, .int .i64 nb, .int .i64 nj, .int .i64 0, .int .i64 0, .slice ob1 nB cb1, .slice oj1 nJ cj1, .slice none 0 0]) := by unfold Hid; rw [eV]; exact HB5.out.put 0 _
  have HWav : Hid (WdAt V ob P.B oj P.J none []) := (HL5.out.but kv (fun b hb => by have hb : b = gb := hb; show ga ≤ b; omega)).at_
  have HWbv : Hid (WdAt V ob1 B1 oj1 P.J none []) := (HLb5.out.but kv (fun b hb => hb)).at_
  have Kv : Hid (Made w.heap.size w V) := But.made_ K5.out kv K5.out.1.size (fun b hb => by have hb : b = gb := hb; omega)
  have EB : Hid (WEnc 1 nb nj 0 0 B1 P.J []) := wenc_of (P := ⟨P.nb, P.nj, B1, P.J, []⟩) OK1.out ⟨i1, HIn.out.1, HIn.out.2, i0, i0⟩ HWbv.out rfl
  clear kv
  go_upto_region 18 with fail
  rw [← eV]
  clear eV t0 z0 lb
  obtain ⟨q, hq⟩ := a_bool ((0 : Int) = 1 ∧ nb = nb ∧ nj = nj ∧ ((0 : Int) = 0 ∧ (0 : Int) = 0) ∧ EqBs P.B B1 ∧ P.J = P.J ∧ ([] : List Ct) = [])
  obtain ⟨LA, eLA⟩ : ∃ L, wdB 0 nb nj 0 0 P.B P.J [] = L := ⟨_, rfl⟩
  obtain ⟨LB, eLB⟩ : ∃ L, wdB (1) nb nj (0) 0 B1 P.J [] = L := ⟨_, rfl⟩
  have hLA : ∀ x ∈ LA, x < 256 := by rw [← eLA]; exact wdB_lt _ _ _ _ _ _ _ _
  have hLB : ∀ x ∈ LB, x < 256 := by rw [← eLB]; exact wdB_lt _ _ _ _ _ _ _ _
  obtain ⟨XA, eXA⟩ : ∃ X, strB (gl LA) LA.length = X := ⟨_, rfl⟩
  obtain ⟨XB, eXB⟩ : ∃ X, strB (gl LB) LB.length = X := ⟨_, rfl⟩
  have hXX : XA = XB ↔ q = true := by
   rw [hq, ← wdB_iff EA.out EB.out, eLA, eLB, ← eXA, ← eXB]
   exact gl_inj hLA hLB
  have hjj : (XA.toList == XB.toList) = q := by
   cases q with
   | true => exact str_yes (hXX.2 rfl)
   | false => exact str_no (fun h => by have := hXX.1 h; cases this)
  have HQ := hid hq
  have EXA := hid eXA; have EXB := hid eXB
  have ELA := hid eLA; have ELB := hid eLB
  have hqq : (q == q) = true := by simp
  clear hXX hLA hLB eXA eXB eLA eLB hq
  obtain ⟨nA, enA⟩ : ∃ n, LA.length = n := ⟨_, rfl⟩
  obtain ⟨nX, enX⟩ : ∃ n, LB.length = n := ⟨_, rfl⟩
  rw [enA] at EXA
  rw [enX] at EXB
  have ENA := hid enA; have ENX := hid enX
  clear enA enX
  have mkA : Hid (∀ (G' : Nat → Option (Nat × MY.Ex)) (u : World), MY.Cm V (alAB V.heap.size LA LB nA nX) G' u → Calls Tryz.prog 17 #[wdV 0 nb nj 0 0 (.slice ob nB cb) (.slice oj nJ cj) (.slice none 0 0)] u fun e v => ∃ x, e = .returned x ∧ OB v V.heap.size x nA (gl LA) ∧ Made u.heap.size u v) := fun G' u hu => by
   refine (cworld_c (nB := nB) (nJ := nJ) (nC := 0) (HWav.out.kept hu.1) ⟨HE.out.1, HE.out.2.1, rfl⟩ EA.out.n H255.out (by have := HNs.out.1; omega) (by have := HNs.out.2; omega) (by omega)).mono ?_
   rintro e v ⟨ao, m, c, rfl, hm, _, _, hO, h2⟩
   rw [ELA.out] at hm hO
   have hm : m = nA := by rw [← hm, ENA.out]
   subst hm
   exact ⟨_, rfl, hO.low hu.1.1.size, h2⟩
  have mkB : Hid (∀ (G' : Nat → Option (Nat × MY.Ex)) (u : World), MY.Cm V (alAB V.heap.size LA LB nA nX) G' u → Calls Tryz.prog 17 #[wdV (1) nb nj (0) 0 (.slice ob1 nB cb1) (.slice oj1 nJ cj1) (.slice none 0 0)] u fun e v => ∃ x, e = .returned x ∧ OB v V.heap.size x nX (gl LB) ∧ Made u.heap.size u v) := fun G' u hu => by
   refine (cworld_c (nB := nB) (nJ := nJ) (nC := 0) (HWbv.out.kept hu.1) ⟨hl1.out, HE.out.2.1, rfl⟩ EB.out.n H255b.out (by have := HNs.out.1; omega) (by have := HNs.out.2; omega) (by omega)).mono ?_
   rintro e v ⟨ao, m, c, rfl, hm, _, _, hO, h2⟩
   rw [ELB.out] at hm hO
   have hm : m = nX := by rw [← hm, ENX.out]
   subst hm
   exact ⟨_, rfl, hO.low hu.1.1.size, h2⟩
  have qa0 : V.cell? ⟨ga, 0, none⟩ = some (.int .i64 0) := HAv.out.at_ 0
  have qa1 : V.cell? ⟨ga, 1, none⟩ = some (.int .i64 nb) := HAv.out.at_ 1
  have qa2 : V.cell? ⟨ga, 2, none⟩ = some (.int .i64 nj) := HAv.out.at_ 2
  have qa3 : V.cell? ⟨ga, 3, none⟩ = some (.int .i64 0) := HAv.out.at_ 3
  have qa4 : V.cell? ⟨ga, 4, none⟩ = some (.int .i64 0) := HAv.out.at_ 4
  have qa5 : V.cell? ⟨ga, 5, none⟩ = some (.slice ob nB cb) := HAv.out.at_ 5
  have qa6 : V.cell? ⟨ga, 6, none⟩ = some (.slice oj nJ cj) := HAv.out.at_ 6
  have qa7 : V.cell? ⟨ga, 7, none⟩ = some (.slice none 0 0) := HAv.out.at_ 7
  have qb0 : V.cell? ⟨gb, 0, none⟩ = some (.int .i64 1) := HBv.out.at_ 0
  have qb1 : V.cell? ⟨gb, 1, none⟩ = some (.int .i64 nb) := HBv.out.at_ 1
  have qb2 : V.cell? ⟨gb, 2, none⟩ = some (.int .i64 nj) := HBv.out.at_ 2
  have qb3 : V.cell? ⟨gb, 3, none⟩ = some (.int .i64 0) := HBv.out.at_ 3
  have qb4 : V.cell? ⟨gb, 4, none⟩ = some (.int .i64 0) := HBv.out.at_ 4
  have qb5 : V.cell? ⟨gb, 5, none⟩ = some (.slice ob1 nB cb1) := HBv.out.at_ 5
  have qb6 : V.cell? ⟨gb, 6, none⟩ = some (.slice oj1 nJ cj1) := HBv.out.at_ 6
  have qb7 : V.cell? ⟨gb, 7, none⟩ = some (.slice none 0 0) := HBv.out.at_ 7
  go_upto_region 18 with fail
  refine MY.reg_mk (alAB V.heap.size LA LB nA nX) 11 [0, 3, 7, 8, 1, 2, 4, 5, 6, 9, 10] [0, 2, 3, 5, 6, 7, 8, 9, 10] [1, 4] [] (fun i => if i = 2 then [1] else if i = 5 then [4] else []) (val := valBy) (by kernel_rfl) (by kernel_rfl) (fun p hp => absurd hp (by simp)) ?_
  refine MY.can_class (rest := [1, 2, 4, 5, 6, 9, 10]) [0, 3, 7, 8] [] 77 (alAB_lasts _ _ _ _ _) (MY.any_class _) (by kernel_rfl) rfl (by kernel_rfl) (by kernel_rfl) ?_
  apply Exists.intro
  refine ⟨?r1z1, ?r2z1⟩
  case r1z1 =>
   intro Ty hTT fw hf _
   have ya0 := Class.reads hf qa0
   have yb0 := Class.reads hf qb0
   have ya1 := Class.reads hf qa1
   have yb1 := Class.reads hf qb1
   have ya2 := Class.reads hf qa2
   have yb2 := Class.reads hf qb2
   have ya3 := Class.reads hf qa3
   have yb3 := Class.reads hf qb3
   have ya4 := Class.reads hf qa4
   have yb4 := Class.reads hf qb4
   have ya5 := Class.reads hf qa5
   have yb5 := Class.reads hf qb5
   have ya6 := Class.reads hf qa6
   have yb6 := Class.reads hf qb6
   have ya7 := Class.reads hf qa7
   have yb7 := Class.reads hf qb7
   change wpQuiet _ _ _ _ [_, _, _, _] _
   repeat (go_big_quiet_step (rfl))
   exact wpQuiet_nil rfl
  refine MY.can_mk 1 67 _ rfl rfl rfl (by rfl) ?m2z1 fun q2 e2 => ?n2z1
  case m2z1 =>
   intro G' u _ hu
   rw [show (execOp _ _).run Tryz.prog u = .ok (.enter 17 #[wdV 0 nb nj 0 0 (.slice ob nB cb) (.slice oj nJ cj) (.slice none 0 0)]) u by kernel_rfl]
   show Calls _ _ _ _ _
   refine (mkA.out G' u hu).mono ?_
   rintro e v ⟨x, rfl, h1, h2⟩
   exact ⟨u.heap.size, ⟨v.heap.size, x⟩, rfl, hu.next (alAB_lasts _ _ _ _ _) h2 (Nat.le_refl _) h2.1.size (Nat.le_refl _) ⟨fun _ => h1, fun h => absurd h (by decide)⟩⟩
  rw [show valBy 1 q2 e2 = e2.v from rfl]
  simp only [Act.put, List.setIfInBounds_toArray, List.set_cons_succ, List.set_cons_zero]
  refine MY.can_one 2 68 _ (.string XA) [1] (alAB_lasts _ _ _ _ _) (by kernel_rfl) rfl rfl (of_decide_eq_true rfl) (by kernel_rfl) ?r3z1 ?r4z1
  case r3z1 =>
   intro Ty hTT fw hf hmm
   try simp only [List.getElem_toArray, List.getElem_cons_succ, List.getElem_cons_zero]
   have hm2 := fun x => (hmm 1 (by simp) (q2, e2) (by unfold MY.upd; simp) x).2.2.2
   obtain ⟨x0⟩ := hTT
   have hx0 : OB (fw x0) V.heap.size e2.v nA (gl LA) := (hm2 x0).1 rfl
   obtain ⟨ao5, c5, ev5, _⟩ := hx0.shape
   have hq6 : ∀ x, (convert 40 9 (.slice ao5 nA c5)).run Tryz.prog (fw x) = .ok (.string XA) (fw x) := fun x => by
    have h : OB (fw x) V.heap.size e2.v nA (gl LA) := (hm2 x).1 rfl
    rw [ev5] at h
    rw [← EXA.out]
    exact conv_by h.by_
   rw [ev5]
   clear hmm hm2 hx0
   repeat (go_big_quiet_step (rfl))
   exact wpQuiet_nil rfl
  simp only [Act.put, List.setIfInBounds_toArray, List.set_cons_succ, List.set_cons_zero]
  refine MY.can_mk 4 70 _ rfl rfl rfl (by rfl) ?m5z1 fun q5 e5 => ?n5z1
  case m5z1 =>
   intro G' u _ hu
   rw [show (execOp _ _).run Tryz.prog u = .ok (.enter 17 #[wdV (1) nb nj (0) 0 (.slice ob1 nB cb1) (.slice oj1 nJ cj1) (.slice none 0 0)]) u by kernel_rfl]
   show Calls _ _ _ _ _
   refine (mkB.out G' u hu).mono ?_
   rintro e v ⟨x, rfl, h1, h2⟩
   exact ⟨u.heap.size, ⟨v.heap.size, x⟩, rfl, hu.next (alAB_lasts _ _ _ _ _) h2 (Nat.le_refl _) h2.1.size (Nat.le_refl _) ⟨fun h => absurd h (by decide), fun _ => h1⟩⟩
  rw [show valBy 4 q5 e5 = e5.v from rfl]
  simp only [Act.put, List.setIfInBounds_toArray, List.set_cons_succ, List.set_cons_zero]
  refine MY.can_one 5 71 _ (.string XB) [4] (alAB_lasts _ _ _ _ _) (by kernel_rfl) rfl rfl (of_decide_eq_true rfl) (by kernel_rfl) ?r6z1 ?r7z1
  case r6z1 =>
   intro Ty hTT fw hf hmm
   try simp only [List.getElem_toArray, List.getElem_cons_succ, List.getElem_cons_zero]
   have hm2 := fun x => (hmm 4 (by simp) (q5, e5) (by unfold MY.upd; simp) x).2.2.2
   obtain ⟨x0⟩ := hTT
   have hx0 : OB (fw x0) V.heap.size e5.v nX (gl LB) := (hm2 x0).2 rfl
   obtain ⟨ao5, c5, ev5, _⟩ := hx0.shape
   have hq6 : ∀ x, (convert 40 9 (.slice ao5 nX c5)).run Tryz.prog (fw x) = .ok (.string XB) (fw x) := fun x => by
    have h : OB (fw x) V.heap.size e5.v nX (gl LB) := (hm2 x).2 rfl
    rw [ev5] at h
    rw [← EXB.out]
    exact conv_by h.by_
   rw [ev5]
   clear hmm hm2 hx0
   repeat (go_big_quiet_step (rfl))
   exact wpQuiet_nil rfl
  simp only [Act.put, List.setIfInBounds_toArray, List.set_cons_succ, List.set_cons_zero]
  refine MY.can_class (rest := []) [6, 9, 10] [] 77 (alAB_lasts _ _ _ _ _) (MY.any_class _) (by kernel_rfl) rfl (by kernel_rfl) (by kernel_rfl) ?_
  apply Exists.intro
  refine ⟨?r10z1, ?r11z1⟩
  case r10z1 =>
   intro Ty hTT fw hf _
   have HSm := hid (fun x => hf.made (x := x) (wsame_c q 0 nb nj 0 0 (1) nb nj (0) 0 ob oj none ob1 oj1 none nB cb nJ cj 0 0 nB cb1 nJ cj1 0 0 (HWav.out.kept (hf.1 x)) (HWbv.out.kept (hf.1 x)) ⟨HE.out.1, HE.out.2.1, rfl⟩ ⟨hl1.out, HE.out.2.1, rfl⟩ ⟨by have := HNs.out.1; omega, by have := HNs.out.2; omega, by omega⟩ (fun b hb => Nat.le_trans (H255.out b hb) (by omega)) (by first | exact HQ.out | (have h := HQ.out; simpa using h))))
   change wpQuiet _ _ _ _ [_, _, _] _
   repeat (go_big_quiet_step ((first
    | (go_at_call 18; with_reducible exact HSm.out _)
    | rfl)))
   exact wpQuiet_nil rfl
  intro w9 hu
  have HM9 : Hid (Made w.heap.size w w9) := Kv.out.then_ (hu.1.low Kv.out.1.size)
  clear hu mkA mkB
  simp only [List.drop_succ_cons, List.drop_zero]
  go_wp2_with fail
  refine NoPanic.normal ?_
  go_wp2_with fail
  go_ret
  exact ⟨rfl, HM9.out⟩
 ·skip
  have d8 : W5.cell? ⟨gd, 8, none⟩ = some (.int .i64 d.vx) := by rw [HD5.out.at_]; exact HD8.out
  have t3 : W5.cell? ⟨gb, 3, none⟩ = some (.int .i64 0) := HB5.out.at_ 3
  have z3 := HB5.out.free 3
  have lb := HB5.out.here
  have ld := HD5.out.here
  obtain ⟨vx, evx⟩ : ∃ z, d.vx = z := ⟨_, rfl⟩
  rw [evx] at d8
  have hand := and_low vx 8 (by omega)
  rw [show ((2 : Int) ^ 8 - 1) = 255 from by decide, show ((2 : Int) ^ 8) = 256 from by decide] at hand
  obtain ⟨m8, em8⟩ : ∃ z, vx % 256 = z := ⟨_, rfl⟩
  have hm8 : 0 ≤ m8 ∧ m8 ≤ 255 := by omega
  have hm8a := hm8.1; have hm8b := hm8.2
  rw [em8] at hand
  obtain ⟨gx2, egx⟩ : ∃ z, (1 : Int) + m8 = z := ⟨_, rfl⟩
  have hgx : 1 ≤ gx2 ∧ gx2 ≤ 256 := by omega
  have HGX := hid hgx
  clear em8 hgx hm8 evx
  obtain ⟨V, eV⟩ : ∃ z, z = W5.setCell ⟨gb, 3, none⟩ (.int .i64 gx2) := ⟨_, rfl⟩
  have kv : But (fun b => b = gb) W5 V := by rw [eV]; exact (But.rfl_ (fun b => b = gb) _).put (p := ⟨gb, 3, none⟩) (.inl rfl) _
  have HAv : Hid (Has V ga 56 #[.int .i64 0, .int .i64 nb, .int .i64 nj, .int .i64 0, .int .i64 0, .slice ob nB cb, .slice oj nJ cj, .slice none 0 0]) := HW5.out.but kv hgne
  have HBv : Hid (Has V gb 56 #[.int .i64 0, .int .i64 nb, .int .i64 nj, .int .i64 gx2, .int .i64 0, .slice ob1 nB cb1, .slice oj1 nJ cj1, .slice none 0 0]) := by unfold Hid; rw [eV]; exact HB5.out.put 3 _
  have HWav : Hid (WdAt V ob P.B oj P.J none []) := (HL5.out.but kv (fun b hb => by have hb : b = gb := hb; show ga ≤ b; omega)).at_
  have HWbv : Hid (WdAt V ob1 B1 oj1 P.J none []) := (HLb5.out.but kv (fun b hb => hb)).at_
  have Kv : Hid (Made w.heap.size w V) := But.made_ K5.out kv K5.out.1.size (fun b hb => by have hb : b = gb := hb; omega)
  have EB : Hid (WEnc 0 nb nj gx2 0 B1 P.J []) := wenc_of (P := ⟨P.nb, P.nj, B1, P.J, []⟩) OK1.out ⟨i0, HIn.out.1, HIn.out.2, by have := HGX.out; unfold I64; omega, i0⟩ HWbv.out rfl
  clear kv
  go_upto_region 18 with fail
  rw [← eV]
  clear eV d8 t3 z3 lb ld hand egx hm8a hm8b
  obtain ⟨q, hq⟩ := a_bool ((0 : Int) = 0 ∧ nb = nb ∧ nj = nj ∧ ((0 : Int) = gx2 ∧ (0 : Int) = 0) ∧ EqBs P.B B1 ∧ P.J = P.J ∧ ([] : List Ct) = [])
  obtain ⟨LA, eLA⟩ : ∃ L, wdB 0 nb nj 0 0 P.B P.J [] = L := ⟨_, rfl⟩
  obtain ⟨LB, eLB⟩ : ∃ L, wdB (0) nb nj (gx2) 0 B1 P.J [] = L := ⟨_, rfl⟩
  have hLA : ∀ x ∈ LA, x < 256 := by rw [← eLA]; exact wdB_lt _ _ _ _ _ _ _ _
  have hLB : ∀ x ∈ LB, x < 256 := by rw [← eLB]; exact wdB_lt _ _ _ _ _ _ _ _
  obtain ⟨XA, eXA⟩ : ∃ X, strB (gl LA) LA.length = X := ⟨_, rfl⟩
  obtain ⟨XB, eXB⟩ : ∃ X, strB (gl LB) LB.length = X := ⟨_, rfl⟩
  have hXX : XA = XB ↔ q = true := by
   rw [hq, ← wdB_iff EA.out EB.out, eLA, eLB, ← eXA, ← eXB]
   exact gl_inj hLA hLB
  have hjj : (XA.toList == XB.toList) = q := by
   cases q with
   | true => exact str_yes (hXX.2 rfl)
   | false => exact str_no (fun h => by have := hXX.1 h; cases this)
  have HQ := hid hq
  have EXA := hid eXA; have EXB := hid eXB
  have ELA := hid eLA; have ELB := hid eLB
  have hqq : (q == q) = true := by simp
  clear hXX hLA hLB eXA eXB eLA eLB hq
  obtain ⟨nA, enA⟩ : ∃ n, LA.length = n := ⟨_, rfl⟩
  obtain ⟨nX, enX⟩ : ∃ n, LB.length = n := ⟨_, rfl⟩
  rw [enA] at EXA
  rw [enX] at EXB
  have ENA := hid enA; have ENX := hid enX
  clear enA enX
  have mkA : Hid (∀ (G' : Nat → Option (Nat × MY.Ex)) (u : World), MY.Cm V (alAB V.heap.size LA LB nA nX) G' u → Calls Tryz.prog 17 #[wdV 0 nb nj 0 0 (.slice ob nB cb) (.slice oj nJ cj) (.slice none 0 0)] u fun e v => ∃ x, e = .returned x ∧ OB v V.heap.size x nA (gl LA) ∧ Made u.heap.size u v) := fun G' u hu => by
   refine (cworld_c (nB := nB) (nJ := nJ) (nC := 0) (HWav.out.kept hu.1) ⟨HE.out.1, HE.out.2.1, rfl⟩ EA.out.n H255.out (by have := HNs.out.1; omega) (by have := HNs.out.2; omega) (by omega)).mono ?_
   rintro e v ⟨ao, m, c, rfl, hm, _, _, hO, h2⟩
   rw [ELA.out] at hm hO
   have hm : m = nA := by rw [← hm, ENA.out]
   subst hm
   exact ⟨_, rfl, hO.low hu.1.1.size, h2⟩
  have mkB : Hid (∀ (G' : Nat → Option (Nat × MY.Ex)) (u : World), MY.Cm V (alAB V.heap.size LA LB nA nX) G' u → Calls Tryz.prog 17 #[wdV (0) nb nj (gx2) 0 (.slice ob1 nB cb1) (.slice oj1 nJ cj1) (.slice none 0 0)] u fun e v => ∃ x, e = .returned x ∧ OB v V.heap.size x nX (gl LB) ∧ Made u.heap.size u v) := fun G' u hu => by
   refine (cworld_c (nB := nB) (nJ := nJ) (nC := 0) (HWbv.out.kept hu.1) ⟨hl1.out, HE.out.2.1, rfl⟩ EB.out.n H255b.out (by have := HNs.out.1; omega) (by have := HNs.out.2; omega) (by omega)).mono ?_
   rintro e v ⟨ao, m, c, rfl, hm, _, _, hO, h2⟩
   rw [ELB.out] at hm hO
   have hm : m = nX := by rw [← hm, ENX.out]
   subst hm
   exact ⟨_, rfl, hO.low hu.1.1.size, h2⟩
  have qa0 : V.cell? ⟨ga, 0, none⟩ = some (.int .i64 0) := HAv.out.at_ 0
  have qa1 : V.cell? ⟨ga, 1, none⟩ = some (.int .i64 nb) := HAv.out.at_ 1
  have qa2 : V.cell? ⟨ga, 2, none⟩ = some (.int .i64 nj) := HAv.out.at_ 2
  have qa3 : V.cell? ⟨ga, 3, none⟩ = some (.int .i64 0) := HAv.out.at_ 3
  have qa4 : V.cell? ⟨ga, 4, none⟩ = some (.int .i64 0) := HAv.out.at_ 4
  have qa5 : V.cell? ⟨ga, 5, none⟩ = some (.slice ob nB cb) := HAv.out.at_ 5
  have qa6 : V.cell? ⟨ga, 6, none⟩ = some (.slice oj nJ cj) := HAv.out.at_ 6
  have qa7 : V.cell? ⟨ga, 7, none⟩ = some (.slice none 0 0) := HAv.out.at_ 7
  have qb0 : V.cell? ⟨gb, 0, none⟩ = some (.int .i64 0) := HBv.out.at_ 0
  have qb1 : V.cell? ⟨gb, 1, none⟩ = some (.int .i64 nb) := HBv.out.at_ 1
  have qb2 : V.cell? ⟨gb, 2, none⟩ = some (.int .i64 nj) := HBv.out.at_ 2
  have qb3 : V.cell? ⟨gb, 3, none⟩ = some (.int .i64 gx2) := HBv.out.at_ 3
  have qb4 : V.cell? ⟨gb, 4, none⟩ = some (.int .i64 0) := HBv.out.at_ 4
  have qb5 : V.cell? ⟨gb, 5, none⟩ = some (.slice ob1 nB cb1) := HBv.out.at_ 5
  have qb6 : V.cell? ⟨gb, 6, none⟩ = some (.slice oj1 nJ cj1) := HBv.out.at_ 6
  have qb7 : V.cell? ⟨gb, 7, none⟩ = some (.slice none 0 0) := HBv.out.at_ 7
  go_upto_region 18 with fail
  refine MY.reg_mk (alAB V.heap.size LA LB nA nX) 11 [0, 3, 7, 8, 1, 2, 4, 5, 6, 9, 10] [0, 2, 3, 5, 6, 7, 8, 9, 10] [1, 4] [] (fun i => if i = 2 then [1] else if i = 5 then [4] else []) (val := valBy) (by kernel_rfl) (by kernel_rfl) (fun p hp => absurd hp (by simp)) ?_
  refine MY.can_class (rest := [1, 2, 4, 5, 6, 9, 10]) [0, 3, 7, 8] [] 77 (alAB_lasts _ _ _ _ _) (MY.any_class _) (by kernel_rfl) rfl (by kernel_rfl) (by kernel_rfl) ?_
  apply Exists.intro
  refine ⟨?r1z2, ?r2z2⟩
  case r1z2 =>
   intro Ty hTT fw hf _
   have ya0 := Class.reads hf qa0
   have yb0 := Class.reads hf qb0
   have ya1 := Class.reads hf qa1
   have yb1 := Class.reads hf qb1
   have ya2 := Class.reads hf qa2
   have yb2 := Class.reads hf qb2
   have ya3 := Class.reads hf qa3
   have yb3 := Class.reads hf qb3
   have ya4 := Class.reads hf qa4
   have yb4 := Class.reads hf qb4
   have ya5 := Class.reads hf qa5
   have yb5 := Class.reads hf qb5
   have ya6 := Class.reads hf qa6
   have yb6 := Class.reads hf qb6
   have ya7 := Class.reads hf qa7
   have yb7 := Class.reads hf qb7
   change wpQuiet _ _ _ _ [_, _, _, _] _
   repeat (go_big_quiet_step (rfl))
   exact wpQuiet_nil rfl
  refine MY.can_mk 1 67 _ rfl rfl rfl (by rfl) ?m2z2 fun q2 e2 => ?n2z2
  case m2z2 =>
   intro G' u _ hu
   rw [show (execOp _ _).run Tryz.prog u = .ok (.enter 17 #[wdV 0 nb nj 0 0 (.slice ob nB cb) (.slice oj nJ cj) (.slice none 0 0)]) u by kernel_rfl]
   show Calls _ _ _ _ _
   refine (mkA.out G' u hu).mono ?_
   rintro e v ⟨x, rfl, h1, h2⟩
   exact ⟨u.heap.size, ⟨v.heap.size, x⟩, rfl, hu.next (alAB_lasts _ _ _ _ _) h2 (Nat.le_refl _) h2.1.size (Nat.le_refl _) ⟨fun _ => h1, fun h => absurd h (by decide)⟩⟩
  rw [show valBy 1 q2 e2 = e2.v from rfl]
  simp only [Act.put, List.setIfInBounds_toArray, List.set_cons_succ, List.set_cons_zero]
  refine MY.can_one 2 68 _ (.string XA) [1] (alAB_lasts _ _ _ _ _) (by kernel_rfl) rfl rfl (of_decide_eq_true rfl) (by kernel_rfl) ?r3z2 ?r4z2
  case r3z2 =>
   intro Ty hTT fw hf hmm
   try simp only [List.getElem_toArray, List.getElem_cons_succ, List.getElem_cons_zero]
   have hm2 := fun x => (hmm 1 (by simp) (q2, e2) (by unfold MY.upd; simp) x).2.2.2
   obtain ⟨x0⟩ := hTT
   have hx0 : OB (fw x0) V.heap.size e2.v nA (gl LA) := (hm2 x0).1 rfl
   obtain ⟨ao5, c5, ev5, _⟩ := hx0.shape
   have hq6 : ∀ x, (convert 40 9 (.slice ao5 nA c5)).run Tryz.prog (fw x) = .ok (.string XA) (fw x) := fun x => by
    have h : OB (fw x) V.heap.size e2.v nA (gl LA) := (hm2 x).1 rfl
    rw [ev5] at h
    rw [← EXA.out]
    exact conv_by h.by_
   rw [ev5]
   clear hmm hm2 hx0
   repeat (go_big_quiet_step (rfl))
   exact wpQuiet_nil rfl
  simp only [Act.put, List.setIfInBounds_toArray, List.set_cons_succ, List.set_cons_zero]
  refine MY.can_mk 4 70 _ rfl rfl rfl (by rfl) ?m5z2 fun q5 e5 => ?n5z2
  case m5z2 =>
   intro G' u _ hu
   rw [show (execOp _ _).run Tryz.prog u = .ok (.enter 17 #[wdV (0) nb nj (gx2) 0 (.slice ob1 nB cb1) (.slice oj1 nJ cj1) (.slice none 0 0)]) u by kernel_rfl]
   show Calls _ _ _ _ _
   refine (mkB.out G' u hu).mono ?_
   rintro e v ⟨x, rfl, h1, h2⟩
   exact ⟨u.heap.size, ⟨v.heap.size, x⟩, rfl, hu.next (alAB_lasts _ _ _ _ _) h2 (Nat.le_refl _) h2.1.size (Nat.le_refl _) ⟨fun h => absurd h (by decide), fun _ => h1⟩⟩
  rw [show valBy 4 q5 e5 = e5.v from rfl]
  simp only [Act.put, List.setIfInBounds_toArray, List.set_cons_succ, List.set_cons_zero]
  refine MY.can_one 5 71 _ (.string XB) [4] (alAB_lasts _ _ _ _ _) (by kernel_rfl) rfl rfl (of_decide_eq_true rfl) (by kernel_rfl) ?r6z2 ?r7z2
  case r6z2 =>
   intro Ty hTT fw hf hmm
   try simp only [List.getElem_toArray, List.getElem_cons_succ, List.getElem_cons_zero]
   have hm2 := fun x => (hmm 4 (by simp) (q5, e5) (by unfold MY.upd; simp) x).2.2.2
   obtain ⟨x0⟩ := hTT
   have hx0 : OB (fw x0) V.heap.size e5.v nX (gl LB) := (hm2 x0).2 rfl
   obtain ⟨ao5, c5, ev5, _⟩ := hx0.shape
   have hq6 : ∀ x, (convert 40 9 (.slice ao5 nX c5)).run Tryz.prog (fw x) = .ok (.string XB) (fw x) := fun x => by
    have h : OB (fw x) V.heap.size e5.v nX (gl LB) := (hm2 x).2 rfl
    rw [ev5] at h
    rw [← EXB.out]
    exact conv_by h.by_
   rw [ev5]
   clear hmm hm2 hx0
   repeat (go_big_quiet_step (rfl))
   exact wpQuiet_nil rfl
  simp only [Act.put, List.setIfInBounds_toArray, List.set_cons_succ, List.set_cons_zero]
  refine MY.can_class (rest := []) [6, 9, 10] [] 77 (alAB_lasts _ _ _ _ _) (MY.any_class _) (by kernel_rfl) rfl (by kernel_rfl) (by kernel_rfl) ?_
  apply Exists.intro
  refine ⟨?r10z2, ?r11z2⟩
  case r10z2 =>
   intro Ty hTT fw hf _
   have HSm := hid (fun x => hf.made (x := x) (wsame_c q 0 nb nj 0 0 (0) nb nj (gx2) 0 ob oj none ob1 oj1 none nB cb nJ cj 0 0 nB cb1 nJ cj1 0 0 (HWav.out.kept (hf.1 x)) (HWbv.out.kept (hf.1 x)) ⟨HE.out.1, HE.out.2.1, rfl⟩ ⟨hl1.out, HE.out.2.1, rfl⟩ ⟨by have := HNs.out.1; omega, by have := HNs.out.2; omega, by omega⟩ (fun b hb => Nat.le_trans (H255.out b hb) (by omega)) (by first | exact HQ.out | (have h := HQ.out; simpa using h))))
   change wpQuiet _ _ _ _ [_, _, _] _
   repeat (go_big_quiet_step ((first
    | (go_at_call 18; with_reducible exact HSm.out _)
    | rfl)))
   exact wpQuiet_nil rfl
  intro w9 hu
  have HM9 : Hid (Made w.heap.size w w9) := Kv.out.then_ (hu.1.low Kv.out.1.size)
  clear hu mkA mkB
  simp only [List.drop_succ_cons, List.drop_zero]
  go_wp2_with fail
  refine NoPanic.normal ?_
  go_wp2_with fail
  go_ret
  exact ⟨rfl, HM9.out⟩
 ·skip
  have q5 : W5.cell? ⟨gb, 5, none⟩ = some (.slice ob1 nB cb1) := HB5.out.at_ 5
  by_cases hn0 : nB = 0
  ·have EB : Hid (WEnc 0 nb nj 0 0 B1 P.J []) := wenc_of (P := ⟨P.nb, P.nj, B1, P.J, []⟩) OK1.out ⟨i0, HIn.out.1, HIn.out.2, i0, i0⟩ HLb5.out.at_ rfl
   have HWaw : Hid (WdAt W5 ob P.B oj P.J none []) := HL5.out.at_
   have HWbw : Hid (WdAt W5 ob1 B1 oj1 P.J none []) := HLb5.out.at_
   go_upto_region 18 with fail
   clear hn0
   obtain ⟨q, hq⟩ := a_bool ((0 : Int) = 0 ∧ nb = nb ∧ nj = nj ∧ ((0 : Int) = 0 ∧ (0 : Int) = 0) ∧ EqBs P.B B1 ∧ P.J = P.J ∧ ([] : List Ct) = [])
   obtain ⟨LA, eLA⟩ : ∃ L, wdB 0 nb nj 0 0 P.B P.J [] = L := ⟨_, rfl⟩
   obtain ⟨LB, eLB⟩ : ∃ L, wdB (0) nb nj (0) 0 B1 P.J [] = L := ⟨_, rfl⟩
   have hLA : ∀ x ∈ LA, x < 256 := by rw [← eLA]; exact wdB_lt _ _ _ _ _ _ _ _
   have hLB : ∀ x ∈ LB, x < 256 := by rw [← eLB]; exact wdB_lt _ _ _ _ _ _ _ _
   obtain ⟨XA, eXA⟩ : ∃ X, strB (gl LA) LA.length = X := ⟨_, rfl⟩
   obtain ⟨XB, eXB⟩ : ∃ X, strB (gl LB) LB.length = X := ⟨_, rfl⟩
   have hXX : XA = XB ↔ q = true := by
    rw [hq, ← wdB_iff EA.out EB.out, eLA, eLB, ← eXA, ← eXB]
    exact gl_inj hLA hLB
   have hjj : (XA.toList == XB.toList) = q := by
    cases q with
    | true => exact str_yes (hXX.2 rfl)
    | false => exact str_no (fun h => by have := hXX.1 h; cases this)
   have HQ := hid hq
   have EXA := hid eXA; have EXB := hid eXB
   have ELA := hid eLA; have ELB := hid eLB
   have hqq : (q == q) = true := by simp
   clear hXX hLA hLB eXA eXB eLA eLB hq
   obtain ⟨nA, enA⟩ : ∃ n, LA.length = n := ⟨_, rfl⟩
   obtain ⟨nX, enX⟩ : ∃ n, LB.length = n := ⟨_, rfl⟩
   rw [enA] at EXA
   rw [enX] at EXB
   have ENA := hid enA; have ENX := hid enX
   clear enA enX
   have mkA : Hid (∀ (G' : Nat → Option (Nat × MY.Ex)) (u : World), MY.Cm W5 (alAB W5.heap.size LA LB nA nX) G' u → Calls Tryz.prog 17 #[wdV 0 nb nj 0 0 (.slice ob nB cb) (.slice oj nJ cj) (.slice none 0 0)] u fun e v => ∃ x, e = .returned x ∧ OB v W5.heap.size x nA (gl LA) ∧ Made u.heap.size u v) := fun G' u hu => by
    refine (cworld_c (nB := nB) (nJ := nJ) (nC := 0) (HWaw.out.kept hu.1) ⟨HE.out.1, HE.out.2.1, rfl⟩ EA.out.n H255.out (by have := HNs.out.1; omega) (by have := HNs.out.2; omega) (by omega)).mono ?_
    rintro e v ⟨ao, m, c, rfl, hm, _, _, hO, h2⟩
    rw [ELA.out] at hm hO
    have hm : m = nA := by rw [← hm, ENA.out]
    subst hm
    exact ⟨_, rfl, hO.low hu.1.1.size, h2⟩
   have mkB : Hid (∀ (G' : Nat → Option (Nat × MY.Ex)) (u : World), MY.Cm W5 (alAB W5.heap.size LA LB nA nX) G' u → Calls Tryz.prog 17 #[wdV (0) nb nj (0) 0 (.slice ob1 nB cb1) (.slice oj1 nJ cj1) (.slice none 0 0)] u fun e v => ∃ x, e = .returned x ∧ OB v W5.heap.size x nX (gl LB) ∧ Made u.heap.size u v) := fun G' u hu => by
    refine (cworld_c (nB := nB) (nJ := nJ) (nC := 0) (HWbw.out.kept hu.1) ⟨hl1.out, HE.out.2.1, rfl⟩ EB.out.n H255b.out (by have := HNs.out.1; omega) (by have := HNs.out.2; omega) (by omega)).mono ?_
    rintro e v ⟨ao, m, c, rfl, hm, _, _, hO, h2⟩
    rw [ELB.out] at hm hO
    have hm : m = nX := by rw [← hm, ENX.out]
    subst hm
    exact ⟨_, rfl, hO.low hu.1.1.size, h2⟩
   have qa0 : W5.cell? ⟨ga, 0, none⟩ = some (.int .i64 0) := HW5.out.at_ 0
   have qa1 : W5.cell? ⟨ga, 1, none⟩ = some (.int .i64 nb) := HW5.out.at_ 1
   have qa2 : W5.cell? ⟨ga, 2, none⟩ = some (.int .i64 nj) := HW5.out.at_ 2
   have qa3 : W5.cell? ⟨ga, 3, none⟩ = some (.int .i64 0) := HW5.out.at_ 3
   have qa4 : W5.cell? ⟨ga, 4, none⟩ = some (.int .i64 0) := HW5.out.at_ 4
   have qa5 : W5.cell? ⟨ga, 5, none⟩ = some (.slice ob nB cb) := HW5.out.at_ 5
   have qa6 : W5.cell? ⟨ga, 6, none⟩ = some (.slice oj nJ cj) := HW5.out.at_ 6
   have qa7 : W5.cell? ⟨ga, 7, none⟩ = some (.slice none 0 0) := HW5.out.at_ 7
   have qb0 : W5.cell? ⟨gb, 0, none⟩ = some (.int .i64 0) := HB5.out.at_ 0
   have qb1 : W5.cell? ⟨gb, 1, none⟩ = some (.int .i64 nb) := HB5.out.at_ 1
   have qb2 : W5.cell? ⟨gb, 2, none⟩ = some (.int .i64 nj) := HB5.out.at_ 2
   have qb3 : W5.cell? ⟨gb, 3, none⟩ = some (.int .i64 0) := HB5.out.at_ 3
   have qb4 : W5.cell? ⟨gb, 4, none⟩ = some (.int .i64 0) := HB5.out.at_ 4
   have qb5 : W5.cell? ⟨gb, 5, none⟩ = some (.slice ob1 nB cb1) := HB5.out.at_ 5
   have qb6 : W5.cell? ⟨gb, 6, none⟩ = some (.slice oj1 nJ cj1) := HB5.out.at_ 6
   have qb7 : W5.cell? ⟨gb, 7, none⟩ = some (.slice none 0 0) := HB5.out.at_ 7
   go_upto_region 18 with fail
   refine MY.reg_mk (alAB W5.heap.size LA LB nA nX) 11 [0, 3, 7, 8, 1, 2, 4, 5, 6, 9, 10] [0, 2, 3, 5, 6, 7, 8, 9, 10] [1, 4] [] (fun i => if i = 2 then [1] else if i = 5 then [4] else []) (val := valBy) (by kernel_rfl) (by kernel_rfl) (fun p hp => absurd hp (by simp)) ?_
   refine MY.can_class (rest := [1, 2, 4, 5, 6, 9, 10]) [0, 3, 7, 8] [] 77 (alAB_lasts _ _ _ _ _) (MY.any_class _) (by kernel_rfl) rfl (by kernel_rfl) (by kernel_rfl) ?_
   apply Exists.intro
   refine ⟨?r1z4, ?r2z4⟩
   case r1z4 =>
    intro Ty hTT fw hf _
    have ya0 := Class.reads hf qa0
    have yb0 := Class.reads hf qb0
    have ya1 := Class.reads hf qa1
    have yb1 := Class.reads hf qb1
    have ya2 := Class.reads hf qa2
    have yb2 := Class.reads hf qb2
    have ya3 := Class.reads hf qa3
    have yb3 := Class.reads hf qb3
    have ya4 := Class.reads hf qa4
    have yb4 := Class.reads hf qb4
    have ya5 := Class.reads hf qa5
    have yb5 := Class.reads hf qb5
    have ya6 := Class.reads hf qa6
    have yb6 := Class.reads hf qb6
    have ya7 := Class.reads hf qa7
    have yb7 := Class.reads hf qb7
    change wpQuiet _ _ _ _ [_, _, _, _] _
    repeat (go_big_quiet_step (rfl))
    exact wpQuiet_nil rfl
   refine MY.can_mk 1 67 _ rfl rfl rfl (by rfl) ?m2z4 fun q2 e2 => ?n2z4
   case m2z4 =>
    intro G' u _ hu
    rw [show (execOp _ _).run Tryz.prog u = .ok (.enter 17 #[wdV 0 nb nj 0 0 (.slice ob nB cb) (.slice oj nJ cj) (.slice none 0 0)]) u by kernel_rfl]
    show Calls _ _ _ _ _
    refine (mkA.out G' u hu).mono ?_
    rintro e v ⟨x, rfl, h1, h2⟩
    exact ⟨u.heap.size, ⟨v.heap.size, x⟩, rfl, hu.next (alAB_lasts _ _ _ _ _) h2 (Nat.le_refl _) h2.1.size (Nat.le_refl _) ⟨fun _ => h1, fun h => absurd h (by decide)⟩⟩
   rw [show valBy 1 q2 e2 = e2.v from rfl]
   simp only [Act.put, List.setIfInBounds_toArray, List.set_cons_succ, List.set_cons_zero]
   refine MY.can_one 2 68 _ (.string XA) [1] (alAB_lasts _ _ _ _ _) (by kernel_rfl) rfl rfl (of_decide_eq_true rfl) (by kernel_rfl) ?r3z4 ?r4z4
   case r3z4 =>
    intro Ty hTT fw hf hmm
    try simp only [List.getElem_toArray, List.getElem_cons_succ, List.getElem_cons_zero]
    have hm2 := fun x => (hmm 1 (by simp) (q2, e2) (by unfold MY.upd; simp) x).2.2.2
    obtain ⟨x0⟩ := hTT
    have hx0 : OB (fw x0) W5.heap.size e2.v nA (gl LA) := (hm2 x0).1 rfl
    obtain ⟨ao5, c5, ev5, _⟩ := hx0.shape
    have hq6 : ∀ x, (convert 40 9 (.slice ao5 nA c5)).run Tryz.prog (fw x) = .ok (.string XA) (fw x) := fun x => by
     have h : OB (fw x) W5.heap.size e2.v nA (gl LA) := (hm2 x).1 rfl
     rw [ev5] at h
     rw [← EXA.out]
     exact conv_by h.by_
    rw [ev5]
    clear hmm hm2 hx0
    repeat (go_big_quiet_step (rfl))
    exact wpQuiet_nil rfl
   simp only [Act.put, List.setIfInBounds_toArray, List.set_cons_succ, List.set_cons_zero]
   refine MY.can_mk 4 70 _ rfl rfl rfl (by rfl) ?m5z4 fun q5 e5 => ?n5z4
   case m5z4 =>
    intro G' u _ hu
    rw [show (execOp _ _).run Tryz.prog u = .ok (.enter 17 #[wdV (0) nb nj (0) 0 (.slice ob1 nB cb1) (.slice oj1 nJ cj1) (.slice none 0 0)]) u by kernel_rfl]
    show Calls _ _ _ _ _
    refine (mkB.out G' u hu).mono ?_
    rintro e v ⟨x, rfl, h1, h2⟩
    exact ⟨u.heap.size, ⟨v.heap.size, x⟩, rfl, hu.next (alAB_lasts _ _ _ _ _) h2 (Nat.le_refl _) h2.1.size (Nat.le_refl _) ⟨fun h => absurd h (by decide), fun _ => h1⟩⟩
   rw [show valBy 4 q5 e5 = e5.v from rfl]
   simp only [Act.put, List.setIfInBounds_toArray, List.set_cons_succ, List.set_cons_zero]
   refine MY.can_one 5 71 _ (.string XB) [4] (alAB_lasts _ _ _ _ _) (by kernel_rfl) rfl rfl (of_decide_eq_true rfl) (by kernel_rfl) ?r6z4 ?r7z4
   case r6z4 =>
    intro Ty hTT fw hf hmm
    try simp only [List.getElem_toArray, List.getElem_cons_succ, List.getElem_cons_zero]
    have hm2 := fun x => (hmm 4 (by simp) (q5, e5) (by unfold MY.upd; simp) x).2.2.2
    obtain ⟨x0⟩ := hTT
    have hx0 : OB (fw x0) W5.heap.size e5.v nX (gl LB) := (hm2 x0).2 rfl
    obtain ⟨ao5, c5, ev5, _⟩ := hx0.shape
    have hq6 : ∀ x, (convert 40 9 (.slice ao5 nX c5)).run Tryz.prog (fw x) = .ok (.string XB) (fw x) := fun x => by
     have h : OB (fw x) W5.heap.size e5.v nX (gl LB) := (hm2 x).2 rfl
     rw [ev5] at h
     rw [← EXB.out]
     exact conv_by h.by_
    rw [ev5]
    clear hmm hm2 hx0
    repeat (go_big_quiet_step (rfl))
    exact wpQuiet_nil rfl
   simp only [Act.put, List.setIfInBounds_toArray, List.set_cons_succ, List.set_cons_zero]
   refine MY.can_class (rest := []) [6, 9, 10] [] 77 (alAB_lasts _ _ _ _ _) (MY.any_class _) (by kernel_rfl) rfl (by kernel_rfl) (by kernel_rfl) ?_
   apply Exists.intro
   refine ⟨?r10z4, ?r11z4⟩
   case r10z4 =>
    intro Ty hTT fw hf _
    have HSm := hid (fun x => hf.made (x := x) (wsame_c q 0 nb nj 0 0 (0) nb nj (0) 0 ob oj none ob1 oj1 none nB cb nJ cj 0 0 nB cb1 nJ cj1 0 0 (HWaw.out.kept (hf.1 x)) (HWbw.out.kept (hf.1 x)) ⟨HE.out.1, HE.out.2.1, rfl⟩ ⟨hl1.out, HE.out.2.1, rfl⟩ ⟨by have := HNs.out.1; omega, by have := HNs.out.2; omega, by omega⟩ (fun b hb => Nat.le_trans (H255.out b hb) (by omega)) (by first | exact HQ.out | (have h := HQ.out; simpa using h))))
    change wpQuiet _ _ _ _ [_, _, _] _
    repeat (go_big_quiet_step ((first
     | (go_at_call 18; with_reducible exact HSm.out _)
     | rfl)))
    exact wpQuiet_nil rfl
   intro w9 hu
   have HM9 : Hid (Made w.heap.size w w9) := K5.out.then_ (hu.1.low K5.out.1.size)
   clear hu mkA mkB
   simp only [List.drop_succ_cons, List.drop_zero]
   go_wp2_with fail
   refine NoPanic.normal ?_
   go_wp2_with fail
   go_ret
   exact ⟨rfl, HM9.out⟩
  ·obtain ⟨gB, eoB, hrow, hgl, hgh, hgJ⟩ := HRow6.out (by omega)
   subst eoB
   have HRW5 := hid hrow
   clear hrow
   obtain ⟨j, ej⟩ : ∃ z, how / 4 % nB = z := ⟨_, rfl⟩
   have hj : j < nB := by rw [← ej]; exact Nat.mod_lt _ (by omega)
   have h4 : (how : Int) / 4 = ((how / 4 : Nat) : Int) := by omega
   obtain ⟨h4n, eh4⟩ : ∃ z, how / 4 = z := ⟨_, rfl⟩
   rw [eh4] at h4 ej
   have hs4 : (how : Int).fdiv 4 = (h4n : Int) := by rw [Int.fdiv_eq_ediv_of_nonneg _ (by omega)]; exact h4
   have hs5 : (how : Int).fdiv (2 ^ 2) = (h4n : Int) := hs4
   have hje : (h4n : Int) % (nB : Int) = (j : Int) := by rw [← ej]; omega
   have hjt : (h4n : Int).tmod (nB : Int) = (j : Int) := by rw [Int.tmod_eq_emod_of_nonneg (by omega)]; exact hje
   have lh4 : h4n < 64 := by omega
   have hnb0 : ((nB : Int) == 0) = false := by rw [beq_eq_false_iff_ne]; omega
   have hnz : (nB : Int) ≠ 0 := by omega
   have hpos : 0 < nB := by omega
   go_upto_region 10 with fail
   go_region
   obtain ⟨W6, eW6⟩ : ∃ z, z = W5.drew := ⟨_, rfl⟩
   have kk6 : Made W5.heap.size W5 W6 := by rw [eW6]; exact (Made.rfl_ _ _).draws 1
   rw [← eW6]
   have K6 := hid (K5.out.then_ (kk6.low K5.out.1.size))
   have HB6 := hid (HB5.out.stays kk6 HB5.out.here)
   have HW6 := hid (HW5.out.stays kk6 HW5.out.here)
   have HL6 := hid (HL5.out.kept kk6)
   have HLb6 := hid (HLb5.out.kept kk6)
   have HMi6 : Hid (∀ b ∈ B1, Mine (fun g => some (⟨gB, 0, none⟩ : Addr) = some ⟨g, 0, none⟩ ∨ oj1 = some ⟨g, 0, none⟩ ∨ none = some (⟨g, 0, none⟩ : Addr)) W3.heap.size W6 b) := fun b hb => MadeMine (HMi5.out b hb) kk6
   have hrow := HRW5.out.stays kk6 HRW5.out.here
   clear eW6 kk6 q5 HRW5 HRow6 HMi5 HB5 HW5 HL5 HLb5 hs4 hs5 h4 hje hjt lh4 hnb0 hnz K5
   obtain ⟨yy, ey⟩ : ∃ a, B1[j]? = some a := ⟨_, List.getElem?_eq_getElem (by rw [hl1.out]; exact hj)⟩
   have HBP := hid (OK1.out.hB.all yy (List.mem_of_getElem? ey))
   have HMj := hid (HMi6.out yy (List.mem_of_getElem? ey))
   have hcells := (hrow.lsB j _ ey).b11
   have HIy := hid ((HLb6.out.at_.sB yy (List.mem_of_getElem? ey)).2)
   have hoff : ∀ b ∈ B1, ∀ o s q, b.ao = some ⟨o, s, q⟩ → o ≠ gB := fun b hb o s q e h => by
    rcases (HMi6.out b hb).2 with ⟨h1, _⟩ | ⟨g, h1, _, h3, _⟩
    ·rw [h1] at e; cases e
    ·rw [h1] at e; cases e
     exact h3 (.inl (by rw [h]))
   have HOff := hid hoff
   obtain ⟨x0, x1, x2, x3, x4, x5, x6, x7, x8, x9, x10, x11, x12, x13⟩ := yy
   obtain ⟨e_0, e_1, e_2, e_3, e_4, e_5, e_6, e_7, e_8, e_9, e_10⟩ := hcells
   simp only [Nat.zero_add] at e_0 e_1 e_2 e_3 e_4 e_5 e_6 e_7 e_8 e_9 e_10
   have EYJ := hid ey
   have HRW := hid hrow
   have hx5 : 0 ≤ x5 ∧ x5 ≤ 4294967295 := HBP.out.an
   have hx5a := hx5.1; have hx5b := hx5.2
   obtain ⟨y4, ey4⟩ : ∃ z, x5 + 1 = z := ⟨_, rfl⟩
   have hand := and_low y4 32 (by omega)
   rw [show ((2 : Int) ^ 32 - 1) = 4294967295 from by decide, show ((2 : Int) ^ 32) = 4294967296 from by decide] at hand
   obtain ⟨y5, ey5⟩ : ∃ z, y4 % 4294967296 = z := ⟨_, rfl⟩
   rw [ey5] at hand
   have hy5 : 0 ≤ y5 ∧ y5 ≤ 4294967295 := by omega
   have HY5 := hid hy5
   have lB : gB < W6.heap.size := hrow.here
   have fB : ∀ i, W6.frozen? ⟨gB, i, none⟩ = false := hrow.free
   have HGJ := hid hgJ
   have HGH := hid hgh
   have HGL := hid hgl
   clear ey hrow hgJ hoff eh4 hx5 ey5 hy5 hgh hgl
   obtain ⟨V, eV⟩ : ∃ V, V = W6.setCell ⟨gB, j * 11 + 5, none⟩ (.int .i64 y5) := ⟨_, rfl⟩
   have kx : But (fun b => b = gB) W6 V := by rw [eV]; exact (But.rfl_ (fun b => b = gB) _).put (p := ⟨gB, j * 11 + 5, none⟩) (.inl rfl) _
   have HAv : Hid (Has V ga 56 #[.int .i64 0, .int .i64 nb, .int .i64 nj, .int .i64 0, .int .i64 0, .slice ob nB cb, .slice oj nJ cj, .slice none 0 0]) := HW6.out.but kx (fun h => by have h : ga = gB := h; have := HGL.out; omega)
   have HBv : Hid (Has V gb 56 #[.int .i64 0, .int .i64 nb, .int .i64 nj, .int .i64 0, .int .i64 0, .slice (some ⟨gB, 0, none⟩) nB cb1, .slice oj1 nJ cj1, .slice none 0 0]) := HB6.out.but kx (fun h => by have h : gb = gB := h; have := HGH.out; omega)
   have HWav : Hid (WdAt V ob P.B oj P.J none []) := (HL6.out.but kx (fun b hb => by have hb : b = gB := hb; have := HGL.out; show ga ≤ b; omega)).at_
   have hrow6 : RowL encB 11 V gB 35 nB (B1.set j (⟨x0, x1, x2, x3, x4, y5, x6, x7, x8, x9, x10, x11, x12, x13⟩ : Bd)) := by
    rw [eV]
    refine HRW.out.part encB_len EYJ.out 5 [.int .i64 y5] (by simp) (fun b v hv => ?_)
    have hb : b < 11 := by rw [← encB_len (⟨x0, x1, x2, x3, x4, x5, x6, x7, x8, x9, x10, x11, x12, x13⟩ : Bd)]; exact (List.getElem?_eq_some_iff.1 hv).1
    match b, hb with
    | 0, _ => exact hv
    | 1, _ => exact hv
    | 2, _ => exact hv
    | 3, _ => exact hv
    | 4, _ => exact hv
    | 5, _ => exact hv
    | 6, _ => exact hv
    | 7, _ => exact hv
    | 8, _ => exact hv
    | 9, _ => exact hv
    | 10, _ => exact hv
   have HWbv : Hid (WdAt V (some ⟨gB, 0, none⟩) (B1.set j (⟨x0, x1, x2, x3, x4, y5, x6, x7, x8, x9, x10, x11, x12, x13⟩ : Bd)) oj1 P.J none []) := by
    have h := HLb6.out
    have hpB : ∀ b ∈ B1, Sl V b.ao b.n b.f := fun b hb hn => ((h.at_.sB b hb).1).but kx (fun b' off s e hx => HOff.out b hb b' off s e hx) hn
    have hJ' : LsT encJ 8 V oj1 P.J := h.at_.lJ.but' kx (fun h0 b off s e hx => by
     have hx : b = gB := hx
     subst hx
     exact HGJ.out _ _ e)
    refine ⟨hrow6.lsT, hJ', fun h => absurd h (by simp), fun b hb => ?_, h.at_.iJ, fun c hc => by simp at hc⟩
    rcases List.mem_or_eq_of_mem_set hb with hb | hb
    ·exact ⟨hpB b hb, (h.at_.sB b hb).2⟩
    ·rw [hb]
     have s2 := HIy.out
     have hp := hpB _ (List.mem_of_getElem? EYJ.out)
     exact ⟨hp, ⟨s2.id, s2.x, s2.y, s2.vx, s2.vy, (by show I64 y5; have := HY5.out; unfold I64; omega), s2.sp, s2.de, s2.k, s2.r, s2.f⟩⟩
   have EB : Hid (WEnc 0 nb nj 0 0 (B1.set j (⟨x0, x1, x2, x3, x4, y5, x6, x7, x8, x9, x10, x11, x12, x13⟩ : Bd)) P.J []) := ⟨⟨i0, HIn.out.1, HIn.out.2, i0, i0⟩, fun b hb => ⟨by
     rcases List.mem_or_eq_of_mem_set hb with hb | hb
     ·exact (OK1.out.hB.all b hb).shape
     ·rw [hb]; exact HBP.out.shape, (HWbv.out.sB b hb).2⟩, HWbv.out.iJ, fun c hc => by simp at hc, by rw [List.length_set, hl1.out]; have := HNs.out.1; omega, by have := HE.out.2.1; have := HNs.out.2; omega, by simp⟩
   have H255c : Hid (∀ b ∈ (B1.set j (⟨x0, x1, x2, x3, x4, y5, x6, x7, x8, x9, x10, x11, x12, x13⟩ : Bd)), b.n ≤ 255) := fun b hb => by
    rcases List.mem_or_eq_of_mem_set hb with hb | hb
    ·exact H255b.out b hb
    ·have h := H255b.out _ (List.mem_of_getElem? EYJ.out)
     rw [hb]
     exact h
   have Kv : Hid (Made w.heap.size w V) := But.made_ K6.out kx K6.out.1.size (fun b hb => by have hb : b = gB := hb; have := HGL.out; omega)
   clear kx hrow6
   go_upto_region 18 with fail
   rw [← eV]
   clear eV hand hx5a hx5b lB fB EYJ e_0 e_1 e_2 e_3 e_4 e_5 e_6 e_7 e_8 e_9 e_10
   obtain ⟨q, hq⟩ := a_bool ((0 : Int) = 0 ∧ nb = nb ∧ nj = nj ∧ ((0 : Int) = 0 ∧ (0 : Int) = 0) ∧ EqBs P.B (B1.set j (⟨x0, x1, x2, x3, x4, y5, x6, x7, x8, x9, x10, x11, x12, x13⟩ : Bd)) ∧ P.J = P.J ∧ ([] : List Ct) = [])
   obtain ⟨LA, eLA⟩ : ∃ L, wdB 0 nb nj 0 0 P.B P.J [] = L := ⟨_, rfl⟩
   obtain ⟨LB, eLB⟩ : ∃ L, wdB (0) nb nj (0) 0 (B1.set j (⟨x0, x1, x2, x3, x4, y5, x6, x7, x8, x9, x10, x11, x12, x13⟩ : Bd)) P.J [] = L := ⟨_, rfl⟩
   have hLA : ∀ x ∈ LA, x < 256 := by rw [← eLA]; exact wdB_lt _ _ _ _ _ _ _ _
   have hLB : ∀ x ∈ LB, x < 256 := by rw [← eLB]; exact wdB_lt _ _ _ _ _ _ _ _
   obtain ⟨XA, eXA⟩ : ∃ X, strB (gl LA) LA.length = X := ⟨_, rfl⟩
   obtain ⟨XB, eXB⟩ : ∃ X, strB (gl LB) LB.length = X := ⟨_, rfl⟩
   have hXX : XA = XB ↔ q = true := by
    rw [hq, ← wdB_iff EA.out EB.out, eLA, eLB, ← eXA, ← eXB]
    exact gl_inj hLA hLB
   have hjj : (XA.toList == XB.toList) = q := by
    cases q with
    | true => exact str_yes (hXX.2 rfl)
    | false => exact str_no (fun h => by have := hXX.1 h; cases this)
   have HQ := hid hq
   have EXA := hid eXA; have EXB := hid eXB
   have ELA := hid eLA; have ELB := hid eLB
   have hqq : (q == q) = true := by simp
   clear hXX hLA hLB eXA eXB eLA eLB hq
   obtain ⟨nA, enA⟩ : ∃ n, LA.length = n := ⟨_, rfl⟩
   obtain ⟨nX, enX⟩ : ∃ n, LB.length = n := ⟨_, rfl⟩
   rw [enA] at EXA
   rw [enX] at EXB
   have ENA := hid enA; have ENX := hid enX
   clear enA enX
   have mkA : Hid (∀ (G' : Nat → Option (Nat × MY.Ex)) (u : World), MY.Cm V (alAB V.heap.size LA LB nA nX) G' u → Calls Tryz.prog 17 #[wdV 0 nb nj 0 0 (.slice ob nB cb) (.slice oj nJ cj) (.slice none 0 0)] u fun e v => ∃ x, e = .returned x ∧ OB v V.heap.size x nA (gl LA) ∧ Made u.heap.size u v) := fun G' u hu => by
    refine (cworld_c (nB := nB) (nJ := nJ) (nC := 0) (HWav.out.kept hu.1) ⟨HE.out.1, HE.out.2.1, rfl⟩ EA.out.n H255.out (by have := HNs.out.1; omega) (by have := HNs.out.2; omega) (by omega)).mono ?_
    rintro e v ⟨ao, m, c, rfl, hm, _, _, hO, h2⟩
    rw [ELA.out] at hm hO
    have hm : m = nA := by rw [← hm, ENA.out]
    subst hm
    exact ⟨_, rfl, hO.low hu.1.1.size, h2⟩
   have mkB : Hid (∀ (G' : Nat → Option (Nat × MY.Ex)) (u : World), MY.Cm V (alAB V.heap.size LA LB nA nX) G' u → Calls Tryz.prog 17 #[wdV (0) nb nj (0) 0 (.slice (some ⟨gB, 0, none⟩) nB cb1) (.slice oj1 nJ cj1) (.slice none 0 0)] u fun e v => ∃ x, e = .returned x ∧ OB v V.heap.size x nX (gl LB) ∧ Made u.heap.size u v) := fun G' u hu => by
    refine (cworld_c (nB := nB) (nJ := nJ) (nC := 0) (HWbv.out.kept hu.1) ⟨by rw [List.length_set]; exact hl1.out, HE.out.2.1, rfl⟩ EB.out.n H255c.out (by have := HNs.out.1; omega) (by have := HNs.out.2; omega) (by omega)).mono ?_
    rintro e v ⟨ao, m, c, rfl, hm, _, _, hO, h2⟩
    rw [ELB.out] at hm hO
    have hm : m = nX := by rw [← hm, ENX.out]
    subst hm
    exact ⟨_, rfl, hO.low hu.1.1.size, h2⟩
   have qa0 : V.cell? ⟨ga, 0, none⟩ = some (.int .i64 0) := HAv.out.at_ 0
   have qa1 : V.cell? ⟨ga, 1, none⟩ = some (.int .i64 nb) := HAv.out.at_ 1
   have qa2 : V.cell? ⟨ga, 2, none⟩ = some (.int .i64 nj) := HAv.out.at_ 2
   have qa3 : V.cell? ⟨ga, 3, none⟩ = some (.int .i64 0) := HAv.out.at_ 3
   have qa4 : V.cell? ⟨ga, 4, none⟩ = some (.int .i64 0) := HAv.out.at_ 4
   have qa5 : V.cell? ⟨ga, 5, none⟩ = some (.slice ob nB cb) := HAv.out.at_ 5
   have qa6 : V.cell? ⟨ga, 6, none⟩ = some (.slice oj nJ cj) := HAv.out.at_ 6
   have qa7 : V.cell? ⟨ga, 7, none⟩ = some (.slice none 0 0) := HAv.out.at_ 7
   have qb0 : V.cell? ⟨gb, 0, none⟩ = some (.int .i64 0) := HBv.out.at_ 0
   have qb1 : V.cell? ⟨gb, 1, none⟩ = some (.int .i64 nb) := HBv.out.at_ 1
   have qb2 : V.cell? ⟨gb, 2, none⟩ = some (.int .i64 nj) := HBv.out.at_ 2
   have qb3 : V.cell? ⟨gb, 3, none⟩ = some (.int .i64 0) := HBv.out.at_ 3
   have qb4 : V.cell? ⟨gb, 4, none⟩ = some (.int .i64 0) := HBv.out.at_ 4
   have qb5 : V.cell? ⟨gb, 5, none⟩ = some (.slice (some ⟨gB, 0, none⟩) nB cb1) := HBv.out.at_ 5
   have qb6 : V.cell? ⟨gb, 6, none⟩ = some (.slice oj1 nJ cj1) := HBv.out.at_ 6
   have qb7 : V.cell? ⟨gb, 7, none⟩ = some (.slice none 0 0) := HBv.out.at_ 7
   go_upto_region 18 with fail
   refine MY.reg_mk (alAB V.heap.size LA LB nA nX) 11 [0, 3, 7, 8, 1, 2, 4, 5, 6, 9, 10] [0, 2, 3, 5, 6, 7, 8, 9, 10] [1, 4] [] (fun i => if i = 2 then [1] else if i = 5 then [4] else []) (val := valBy) (by kernel_rfl) (by kernel_rfl) (fun p hp => absurd hp (by simp)) ?_
   refine MY.can_class (rest := [1, 2, 4, 5, 6, 9, 10]) [0, 3, 7, 8] [] 77 (alAB_lasts _ _ _ _ _) (MY.any_class _) (by kernel_rfl) rfl (by kernel_rfl) (by kernel_rfl) ?_
   apply Exists.intro
   refine ⟨?r1z5, ?r2z5⟩
   case r1z5 =>
    intro Ty hTT fw hf _
    have ya0 := Class.reads hf qa0
    have yb0 := Class.reads hf qb0
    have ya1 := Class.reads hf qa1
    have yb1 := Class.reads hf qb1
    have ya2 := Class.reads hf qa2
    have yb2 := Class.reads hf qb2
    have ya3 := Class.reads hf qa3
    have yb3 := Class.reads hf qb3
    have ya4 := Class.reads hf qa4
    have yb4 := Class.reads hf qb4
    have ya5 := Class.reads hf qa5
    have yb5 := Class.reads hf qb5
    have ya6 := Class.reads hf qa6
    have yb6 := Class.reads hf qb6
    have ya7 := Class.reads hf qa7
    have yb7 := Class.reads hf qb7
    change wpQuiet _ _ _ _ [_, _, _, _] _
    repeat (go_big_quiet_step (rfl))
    exact wpQuiet_nil rfl
   refine MY.can_mk 1 67 _ rfl rfl rfl (by rfl) ?m2z5 fun q2 e2 => ?n2z5
   case m2z5 =>
    intro G' u _ hu
    rw [show (execOp _ _).run Tryz.prog u = .ok (.enter 17 #[wdV 0 nb nj 0 0 (.slice ob nB cb) (.slice oj nJ cj) (.slice none 0 0)]) u by kernel_rfl]
    show Calls _ _ _ _ _
    refine (mkA.out G' u hu).mono ?_
    rintro e v ⟨x, rfl, h1, h2⟩
    exact ⟨u.heap.size, ⟨v.heap.size, x⟩, rfl, hu.next (alAB_lasts _ _ _ _ _) h2 (Nat.le_refl _) h2.1.size (Nat.le_refl _) ⟨fun _ => h1, fun h => absurd h (by decide)⟩⟩
   rw [show valBy 1 q2 e2 = e2.v from rfl]
   simp only [Act.put, List.setIfInBounds_toArray, List.set_cons_succ, List.set_cons_zero]
   refine MY.can_one 2 68 _ (.string XA) [1] (alAB_lasts _ _ _ _ _) (by kernel_rfl) rfl rfl (of_decide_eq_true rfl) (by kernel_rfl) ?r3z5 ?r4z5
   case r3z5 =>
    intro Ty hTT fw hf hmm
    try simp only [List.getElem_toArray, List.getElem_cons_succ, List.getElem_cons_zero]
    have hm2 := fun x => (hmm 1 (by simp) (q2, e2) (by unfold MY.upd; simp) x).2.2.2
    obtain ⟨x0⟩ := hTT
    have hx0 : OB (fw x0) V.heap.size e2.v nA (gl LA) := (hm2 x0).1 rfl
    obtain ⟨ao5, c5, ev5, _⟩ := hx0.shape
    have hq6 : ∀ x, (convert 40 9 (.slice ao5 nA c5)).run Tryz.prog (fw x) = .ok (.string XA) (fw x) := fun x => by
     have h : OB (fw x) V.heap.size e2.v nA (gl LA) := (hm2 x).1 rfl
     rw [ev5] at h
     rw [← EXA.out]
     exact conv_by h.by_
    rw [ev5]
    clear hmm hm2 hx0
    repeat (go_big_quiet_step (rfl))
    exact wpQuiet_nil rfl
   simp only [Act.put, List.setIfInBounds_toArray, List.set_cons_succ, List.set_cons_zero]
   refine MY.can_mk 4 70 _ rfl rfl rfl (by rfl) ?m5z5 fun q5 e5 => ?n5z5
   case m5z5 =>
    intro G' u _ hu
    rw [show (execOp _ _).run Tryz.prog u = .ok (.enter 17 #[wdV (0) nb nj (0) 0 (.slice (some ⟨gB, 0, none⟩) nB cb1) (.slice oj1 nJ cj1) (.slice none 0 0)]) u by kernel_rfl]
    show Calls _ _ _ _ _
    refine (mkB.out G' u hu).mono ?_
    rintro e v ⟨x, rfl, h1, h2⟩
    exact ⟨u.heap.size, ⟨v.heap.size, x⟩, rfl, hu.next (alAB_lasts _ _ _ _ _) h2 (Nat.le_refl _) h2.1.size (Nat.le_refl _) ⟨fun h => absurd h (by decide), fun _ => h1⟩⟩
   rw [show valBy 4 q5 e5 = e5.v from rfl]
   simp only [Act.put, List.setIfInBounds_toArray, List.set_cons_succ, List.set_cons_zero]
   refine MY.can_one 5 71 _ (.string XB) [4] (alAB_lasts _ _ _ _ _) (by kernel_rfl) rfl rfl (of_decide_eq_true rfl) (by kernel_rfl) ?r6z5 ?r7z5
   case r6z5 =>
    intro Ty hTT fw hf hmm
    try simp only [List.getElem_toArray, List.getElem_cons_succ, List.getElem_cons_zero]
    have hm2 := fun x => (hmm 4 (by simp) (q5, e5) (by unfold MY.upd; simp) x).2.2.2
    obtain ⟨x0⟩ := hTT
    have hx0 : OB (fw x0) V.heap.size e5.v nX (gl LB) := (hm2 x0).2 rfl
    obtain ⟨ao5, c5, ev5, _⟩ := hx0.shape
    have hq6 : ∀ x, (convert 40 9 (.slice ao5 nX c5)).run Tryz.prog (fw x) = .ok (.string XB) (fw x) := fun x => by
     have h : OB (fw x) V.heap.size e5.v nX (gl LB) := (hm2 x).2 rfl
     rw [ev5] at h
     rw [← EXB.out]
     exact conv_by h.by_
    rw [ev5]
    clear hmm hm2 hx0
    repeat (go_big_quiet_step (rfl))
    exact wpQuiet_nil rfl
   simp only [Act.put, List.setIfInBounds_toArray, List.set_cons_succ, List.set_cons_zero]
   refine MY.can_class (rest := []) [6, 9, 10] [] 77 (alAB_lasts _ _ _ _ _) (MY.any_class _) (by kernel_rfl) rfl (by kernel_rfl) (by kernel_rfl) ?_
   apply Exists.intro
   refine ⟨?r10z5, ?r11z5⟩
   case r10z5 =>
    intro Ty hTT fw hf _
    have HSm := hid (fun x => hf.made (x := x) (wsame_c q 0 nb nj 0 0 (0) nb nj (0) 0 ob oj none (some ⟨gB, 0, none⟩) oj1 none nB cb nJ cj 0 0 nB cb1 nJ cj1 0 0 (HWav.out.kept (hf.1 x)) (HWbv.out.kept (hf.1 x)) ⟨HE.out.1, HE.out.2.1, rfl⟩ ⟨by rw [List.length_set]; exact hl1.out, HE.out.2.1, rfl⟩ ⟨by have := HNs.out.1; omega, by have := HNs.out.2; omega, by omega⟩ (fun b hb => Nat.le_trans (H255.out b hb) (by omega)) (by first | exact HQ.out | (have h := HQ.out; simpa using h))))
    change wpQuiet _ _ _ _ [_, _, _] _
    repeat (go_big_quiet_step ((first
     | (go_at_call 18; with_reducible exact HSm.out _)
     | rfl)))
    exact wpQuiet_nil rfl
   intro w9 hu
   have HM9 : Hid (Made w.heap.size w w9) := Kv.out.then_ (hu.1.low Kv.out.1.size)
   clear hu mkA mkB
   simp only [List.drop_succ_cons, List.drop_zero]
   go_wp2_with fail
   refine NoPanic.normal ?_
   go_wp2_with fail
   go_ret
   exact ⟨rfl, HM9.out⟩
theorem codecapart_i (l : List De) (d : De) {a : Int} (lo : Option Addr) (nl cl : Nat) (w : World) (ha : (Lit.int .u8 a).wf = true) (hds : Sl w d.rao d.rn d.rf) (hdi : DeI d) (hnl : l.length = nl) (hD : DesAt w lo l) (hnc : nl ≤ cl) (hcm : cl ≤ maxLen) (ho : (lo = none ∧ nl = 0 ∧ cl = 0) ∨ ∃ a, lo = some a) :
  Calls Tryz.prog 5 #[.slice lo nl cl, .agg (encD d).toArray, .int .u8 a] w fun e v => e = .returned (.bool true) ∧ Made w.heap.size w v := by
 have b0 := bounds_u8 ha
 obtain ⟨n, rfl⟩ := Int.eq_ofNat_of_zero_le b0.1
 exact codecapart_walk l d n lo nl cl w (by omega) hds hdi hnl hD hnc hcm ho
end Go.Proofs.YtgdcphmmehedoaaGreat.Fx