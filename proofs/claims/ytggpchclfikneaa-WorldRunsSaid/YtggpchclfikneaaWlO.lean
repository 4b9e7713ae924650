/- The anchor; world variables in walks. -/
import Derived.Test.YtggpchclfikneaaWlN
namespace Go.Proofs.Ytggpchclfikneaa.Fx
open Go.ChangeShapes Go.WideShapes Go.ChangeAt Go.RowKit
set_option linter.unusedVariables false

theorem i64_0 : I64 0 := by unfold I64; omega
/-- Right says yes to a world that may be -/
theorem right_yes {X : Nat → Prop} {w : World} {P : PW} {ob oj oc : Option Addr} {cb cj cc nB nJ nC : Nat} {nb nj : Int} (hL : WLs X w ob cb P.B oj cj P.J oc cc P.C) (hP : POk P) (hE : P.B.length = nB ∧ P.J.length = nJ ∧ P.C.length = nC ∧ P.nb = nb ∧ P.nj = nj) (hmC : P.C.length ≤ 1073741824) :
    Calls Try.prog 11 #[wdV 0 nb nj 0 0 (.slice ob nB cb) (.slice oj nJ cj) (.slice oc nC cc)] w fun e v => e = .returned (.bool true) ∧ Made w.heap.size w v := by
  obtain ⟨h1, h2, h3, h4, h5⟩ := hE
  refine wright_c 0 nb nj 0 0 ob oj oc nB cb nJ cj nC cc true h1 (by have := hP.hB.len; omega) h2 (by have := hP.hJ.len; omega) h3 (by omega) hL.at_ i64_0 i64_0 ⟨fun _ => ?_, fun _ => rfl⟩
  refine ⟨by omega, by unfold Inn; omega, by unfold Inn; omega, ?_, ?_, hP.hC⟩
  · rw [← h4]; exact hP.hB
  · rw [← h5]; exact hP.hJ
/-- a circle of radius one may be a body -/
theorem disc_ok (d : Int) (h0 : 0 ≤ d) (h1 : d ≤ 4398046511104) : BodyP ⟨0, 0, 0, 0, 0, 0, 0, d, 1, 4294967296, none, 0, 0, fun _ => (0, 0)⟩ :=
  ⟨.inl ⟨rfl, rfl, (by show (16777216 : Int) ≤ 4294967296; decide), (by show (4294967296 : Int) ≤ 274877906944; decide)⟩, by unfold Inn; simp, by unfold Inn; simp, by unfold Inn; simp, by unfold Inn; simp, by unfold Inn; simp, by simp, ⟨h0, h1⟩, fun _ => ⟨rfl, rfl, rfl⟩⟩
theorem disc_i (d : Int) (h0 : 0 ≤ d) (h1 : d ≤ 4398046511104) : BdI ⟨0, 0, 0, 0, 0, 0, 0, d, 1, 4294967296, none, 0, 0, fun _ => (0, 0)⟩ :=
  ⟨i64_0, i64_0, i64_0, i64_0, i64_0, i64_0, i64_0, by show I64 d; unfold I64; omega, by show I64 1; unfold I64; omega, by show I64 4294967296; unfold I64; omega, fun i hi => absurd hi (by simp)⟩
/-- one more disc -/
theorem addDisc {X : Nat → Prop} {w : World} {gw : Nat} {P : PW} (d : Int) (h0 : 0 ≤ d) (h1 : d ≤ 4398046511104) (hV : WV X w gw P) (hP : POk P) (hXg : X gw) (hXw : ∀ b, X b → b < w.heap.size) (hl : P.B.length < 1024) (hn : P.nb < 4611686018427387904) :
    Calls Try.prog 14 #[.pointer (some ⟨gw, 0, none⟩), bodyV 0 0 0 0 0 0 0 d 1 4294967296 (.slice none 0 0)] w fun e v => e = .returned (.tuple #[.int .i64 P.nb, .int .i64 0]) ∧ But (fun g => g = gw) w v ∧ ∃ b, BodyP b ∧ WV X v gw ⟨P.nb + 1, P.nj, P.B ++ [b], P.J, P.C⟩ ∧ POk ⟨P.nb + 1, P.nj, P.B ++ [b], P.J, P.C⟩ := by
  refine (addB_w ⟨0, 0, 0, 0, 0, 0, 0, d, 1, 4294967296, none, 0, 0, fun _ => (0, 0)⟩ hV hP hXg hXw (fun h => absurd h (by simp)) (disc_i d h0 h1) (.inl ⟨rfl, rfl, rfl⟩)).mono ?_
  rintro e v ⟨n, er, P', rfl, hA, hv, k⟩
  have ok := addB_ok hP hA
  rcases hA with ⟨a, _⟩ | ⟨_, a, _⟩ | ⟨_, _, _, rfl, rfl, ao, c, rfl⟩
  · exact absurd (disc_ok d h0 h1) a
  · omega
  · exact ⟨rfl, k, _, newB_ok (disc_ok d h0 h1), hv, ok⟩
set_option maxRecDepth 100000 in
set_option maxHeartbeats 8000000 in
theorem wfit_c (w : World) : Calls Try.prog 4 #[] w fun e v => e = .returned (.bool true) ∧ Made w.heap.size w v := by
  go_enter Try.func4, Try.ntmps4
  go_wp2_with fail
  refine (new_c _).mono ?_
  rintro e w1 ⟨rfl, k1⟩
  have K1 := hid k1
  clear k1
  obtain ⟨W2, eW2⟩ : ∃ V, V = (w1.alloc (.cells #[.int .i64 0, .int .i64 1, .int .i64 1, .int .i64 0, .int .i64 0, .slice none 0 0, .slice none 0 0, .slice none 0 0] 31)).alloc (.cells #[.int .i64 0, .int .i64 0, .int .i64 0, .int .i64 0, .int .i64 0, .int .i64 0, .int .i64 0, .int .i64 4294967296, .int .i64 1, .int .i64 4294967296, .slice none 0 0] 43) := ⟨_, rfl⟩
  have K2 : Hid (Made w.heap.size w W2) := by unfold Hid; rw [eW2]; exact (K1.out.cells K1.out.1.size _ _).cells (Nat.le_trans K1.out.1.size (by simp)) _ _
  have HM2 : Hid (Has W2 w1.heap.size 31 #[.int .i64 0, .int .i64 1, .int .i64 1, .int .i64 0, .int .i64 0, .slice none 0 0, .slice none 0 0, .slice none 0 0]) := by unfold Hid; rw [eW2]; exact (has_new _ _ _).more _
  have HB2 : Hid (Has W2 (w1.heap.size + 1) 43 #[.int .i64 0, .int .i64 0, .int .i64 0, .int .i64 0, .int .i64 0, .int .i64 0, .int .i64 0, .int .i64 4294967296, .int .i64 1, .int .i64 4294967296, .slice none 0 0]) := by unfold Hid; rw [eW2]; exact has_nxt' _ _ _ _
  have hgm : w.heap.size ≤ w1.heap.size := K1.out.1.size
  obtain ⟨gm, egm⟩ : ∃ g, w1.heap.size = g := ⟨_, rfl⟩
  obtain ⟨gb, egb⟩ : ∃ g, gm + 1 = g := ⟨_, rfl⟩
  rw [egm] at HM2 HB2 hgm
  rw [egb] at HB2
  have HV2 : Hid (WV (fun b => b = gm) W2 gm ⟨1, 1, [], [], []⟩) := ⟨none, none, none, 0, 0, 0, HM2.out, ls_new _ _⟩
  have hne : ¬ gb = gm := by omega
  go_upto_region 3 with fail
  rw [← eW2]
  clear eW2
  try rw [egm]
  try rw [egb]
  have p0 := HB2.out.at_ 0
  have p1 := HB2.out.at_ 1
  have p2 := HB2.out.at_ 2
  have p3 := HB2.out.at_ 3
  have p4 := HB2.out.at_ 4
  have p5 := HB2.out.at_ 5
  have p6 := HB2.out.at_ 6
  have p7 := HB2.out.at_ 7
  have p8 := HB2.out.at_ 8
  have p9 := HB2.out.at_ 9
  have p10 := HB2.out.at_ 10
  simp at p0 p1 p2 p3 p4 p5 p6 p7 p8 p9 p10
  have l2 : gb < W2.heap.size := HB2.out.here
  have HA := hid (addDisc (X := fun b => b = gm) (w := W2) (gw := gm) (P := ⟨1, 1, [], [], []⟩) 4294967296 (by omega) (by omega) HV2.out ok_new rfl (fun b hb => by have hb : b = gm := hb; rw [hb]; exact HM2.out.here) (by simp) (by show (1 : Int) < _; omega))
  go_wp2_with fail
  refine HA.out.mono ?_
  rintro e w3 ⟨he, kb3, b1', hb1, hv3, ok3⟩
  have he : e = .returned (.tuple #[.int .i64 1, .int .i64 0]) := he
  subst he
  have K3 : Hid (Made w.heap.size w w3) := But.made_ K2.out kb3 K2.out.1.size (fun b hb => by have hb : b = gm := hb; omega)
  have HV3 := hid hv3
  have OK3 := hid ok3
  have HB3 := hid (HB2.out.but kb3 hne)
  clear kb3 hv3 ok3 hb1 l2 HA HV2 HM2 HB2 p0 p1 p2 p3 p4 p5 p6 p7 p8 p9 p10
  have p0 := HB3.out.at_ 0
  have p1 := HB3.out.at_ 1
  have p2 := HB3.out.at_ 2
  have p3 := HB3.out.at_ 3
  have p4 := HB3.out.at_ 4
  have p5 := HB3.out.at_ 5
  have p6 := HB3.out.at_ 6
  have p7 := HB3.out.at_ 7
  have p8 := HB3.out.at_ 8
  have p9 := HB3.out.at_ 9
  have p10 := HB3.out.at_ 10
  simp at p0 p1 p2 p3 p4 p5 p6 p7 p8 p9 p10
  have l2 : gb < w3.heap.size := HB3.out.here
  have HA := hid (addDisc (X := fun b => b = gm) (w := w3) (gw := gm) (P := ⟨1 + 1, 1, [] ++ [b1'], [], []⟩) 4294967296 (by omega) (by omega) HV3.out OK3.out rfl (fun b hb => by have hb : b = gm := hb; rw [hb]; exact WVar.here HV3.out) (by simp) (by show (1 : Int) + 1 < _; omega))
  go_wp2_with fail
  refine HA.out.mono ?_
  rintro e w4 ⟨he, kb4, b2', hb2, hv4, ok4⟩
  have he : e = .returned (.tuple #[.int .i64 2, .int .i64 0]) := he
  subst he
  have K4 : Hid (Made w.heap.size w w4) := But.made_ K3.out kb4 K3.out.1.size (fun b hb => by have hb : b = gm := hb; omega)
  have HV4 := hid hv4
  have OK4 := hid ok4
  clear kb4 hv4 ok4 hb2 l2 HA HV3 HB3 p0 p1 p2 p3 p4 p5 p6 p7 p8 p9 p10
  obtain ⟨P4, eP4⟩ : ∃ P : PW, (⟨1 + 1 + 1, 1, [] ++ [b1'] ++ [b2'], [], []⟩ : PW) = P := ⟨_, rfl⟩
  have hC4 : P4.C.length = 0 := by rw [← eP4]; rfl
  have hB4 : P4.B.length = 2 := by rw [← eP4]; rfl
  have HV4 : Hid (WV (fun b => b = gm) w4 gm P4) := by rw [← eP4]; exact HV4
  have OK4 : Hid (POk P4) := by rw [← eP4]; exact OK4
  have HC4 := hid hC4; have HB4 := hid hB4
  clear eP4 hC4 hB4
  obtain ⟨ob4, oj4, oc4, cb4, cj4, cc4, hH4, hL4⟩ := HV4.out
  have HL4 := hid hL4
  have HH4 := hid hH4
  obtain ⟨nB4, eB4⟩ : ∃ m, (P4).B.length = m := ⟨_, rfl⟩
  obtain ⟨nJ4, eJ4⟩ : ∃ m, (P4).J.length = m := ⟨_, rfl⟩
  obtain ⟨nC4, eC4⟩ : ∃ m, (P4).C.length = m := ⟨_, rfl⟩
  obtain ⟨nb4, eb4⟩ : ∃ m, (P4).nb = m := ⟨_, rfl⟩
  obtain ⟨nj4, ej4⟩ : ∃ m, (P4).nj = m := ⟨_, rfl⟩
  rw [eB4, eJ4, eC4, eb4, ej4] at HH4
  have HE4 := hid (And.intro eB4 (And.intro eJ4 (And.intro eC4 (And.intro eb4 ej4))))
  clear hH4 hL4 eB4 eJ4 eC4 eb4 ej4
  have b0 := HH4.out.at_ 0
  have b1 := HH4.out.at_ 1
  have b2 := HH4.out.at_ 2
  have b3 := HH4.out.at_ 3
  have b4 := HH4.out.at_ 4
  have b5 := HH4.out.at_ 5
  have b6 := HH4.out.at_ 6
  have b7 := HH4.out.at_ 7
  simp at b0 b1 b2 b3 b4 b5 b6 b7
  have lt4 : gm < w4.heap.size := HH4.out.here
  have HR := hid (right_yes HL4.out OK4.out HE4.out (by rw [HC4.out]; omega))
  have HNR := hid (fun v => wright_c 0 0 0 0 0 none none none 0 0 0 0 0 0 false (B := []) (J := []) (C := []) (w := v) rfl (by omega) rfl (by omega) rfl (by omega) (ls_new Nil0 v).at_ i64_0 i64_0 ⟨fun e => (by cases e), fun h => by have := h.hB.num.1; omega⟩)
  have hn2 : nB4 = 2 := HE4.out.1.symm.trans HB4.out
  have hq2 : ((nB4 : Int) == 2) = true := by rw [hn2]; rfl
  clear hn2
  go_wp2_with fail
  refine HR.out.mono ?_
  rintro e w5 ⟨rfl, k5⟩
  have K5 := hid (K4.out.then_ (k5.low K4.out.1.size))
  have HH5 := hid (HH4.out.stays k5 HH4.out.here)
  clear k5 b0 b1 b2 b3 b4 b5 b6 b7 lt4 HR
  have b0 := HH5.out.at_ 0
  have b1 := HH5.out.at_ 1
  have b2 := HH5.out.at_ 2
  have b3 := HH5.out.at_ 3
  have b4 := HH5.out.at_ 4
  have b5 := HH5.out.at_ 5
  have b6 := HH5.out.at_ 6
  have b7 := HH5.out.at_ 7
  simp at b0 b1 b2 b3 b4 b5 b6 b7
  have l5 : gm < w5.heap.size := HH5.out.here
  go_wp2_with fail
  refine (HNR.out _).mono ?_
  rintro e w6 ⟨rfl, k6⟩
  have K6 := hid (K5.out.then_ (k6.low K5.out.1.size))
  clear k6 b0 b1 b2 b3 b4 b5 b6 b7 l5 HNR
  go_wp2_with fail
  go_ret
  exact ⟨rfl, K6.out⟩
end Go.Proofs.Ytggpchclfikneaa.Fx
