/- OpD WsD OtG -/
import Derived.Test.YtjecadafjnbijaaGreatPa17
import Derived.Test.YtjecadafjnbijaaGreatPa19
import Derived.Test.YtjecadafjnbijaaGreatPa23
import Derived.Test.YtjecadafjnbijaaGreatPa27
import Derived.Test.YtjecadafjnbijaaGreatPa28
import Derived.Deep.Slices
import Derived.ChangeArms
import Derived.Deep.Strs
set_option maxRecDepth 100000
set_option maxHeartbeats 64000000
/- Slices of deeds, contacts and bytes, and bodies, that came in. -/
namespace Go.Proofs.YtjecadafjnbijaaGreat.Fx
open Go.ChangeShapes Go.WideShapes Go.ChangeAt Go.RowKit Go.Deep
set_option linter.unusedVariables false
theorem fld_some {β : Type} {xs : List β} {i n : Nat} (hlen : xs.length = n) (hi : i < n) {o : Option β} (h : o = xs[i]?) : ∃ y, o = some y := ⟨xs[i]'(by omega), by rw [h]; exact List.getElem?_eq_getElem (by omega)⟩
instance : Inhabited De := ⟨⟨0, 0, 0, 0, 0, 0, 0, 0, 0, 0, 0, 0, 0, 0, 0, 0, 0, 0, 0, 0, 0, 0, 0, 0, 0, 0, 0, 0, 0, none, 0, 0, fun _ => (0, 0)⟩⟩
instance : Inhabited Ct := ⟨⟨0, 0, 0, 0, 0⟩⟩
def DesIn (w : World) (ao : Option Addr) (n c : Nat) (l : List De) : Prop := DesAt w ao l ∧ l.length = n ∧ n ≤ c ∧ c ≤ maxLen ∧ ((ao = none ∧ n = 0 ∧ c = 0) ∨ ∃ a, ao = some a)
def U8In (w : World) (ao : Option Addr) (n c : Nat) (f : Nat → Int) : Prop := U8At w ao n f ∧ n ≤ c ∧ c ≤ maxLen
def CtsIn (w : World) (ao : Option Addr) (n c : Nat) (l : List Ct) : Prop := LsT encC 5 w ao l ∧ l.length = n ∧ n ≤ c ∧ c ≤ maxLen ∧ (∀ x ∈ l, CtI x) ∧ ((ao = none ∧ n = 0 ∧ c = 0) ∨ ∃ a, ao = some a)
section
variable {H : Type} {enc : TypeId × Value → H} {w : World} {base : Nat} {spare : Nat → Bool} {held : Bool}
theorem i64_wf' {a : Int} (h : (Lit.int .i64 a).wf = true) : I64 a := by
 have := bounds_i64 h
 unfold I64; omega
theorem open_pts' {fuel : Nat} {v : Value} {y : DataW H × List MemPlace} (h : DataW.trod enc Tryz.prog w base spare held fuel 31 [v] = some y) :
  ∃ ao len cap f, v = .slice ao len cap ∧ Sl w ao len f ∧ Cin f len ∧ ((ao = none ∧ len = 0 ∧ cap = 0) ∨ ∃ a, ao = some a) := by
 obtain ⟨ao, len, cap, f, e, h1, h2⟩ := open_pts h
 refine ⟨ao, len, cap, f, e, h1, h2, ?_⟩
 rcases open_slice Tryz.underlying31 h with ⟨hcs, _⟩ | ⟨a, len', cap', m, n, D, Pl, hcs, _⟩
 ·simp at hcs
  rw [hcs] at e
  cases e
  exact .inl ⟨rfl, rfl, rfl⟩
 ·simp at hcs
  rw [hcs] at e
  cases e
  exact .inr ⟨a, rfl⟩
theorem open_deed {fuel : Nat} {cs : List Value} {y : DataW H × List MemPlace} (h : DataW.trod enc Tryz.prog w base spare held fuel 37 cs = some y) : ∃ d : De, cs = encD d ∧ DeI d ∧ Sl w d.rao d.rn d.rf := by
 have cint : Tryz.prog.cellsOf 3 = 1 := by kernel_rfl
 have cF : Tryz.prog.cellsOf 26 = 1 := by kernel_rfl
 have cV : Tryz.prog.cellsOf 28 = 2 := by kernel_rfl
 have cP : Tryz.prog.cellsOf 30 = 7 := by kernel_rfl
 have cS : Tryz.prog.cellsOf 25 = 4 := by kernel_rfl
 have cB : Tryz.prog.cellsOf 35 = 11 := by kernel_rfl
 have cH : Tryz.prog.cellsOf 33 = 3 := by kernel_rfl
 have cL : Tryz.prog.cellsOf 31 = 1 := by kernel_rfl
 have hl : cs.length = 30 := by
  obtain ⟨_, _, _, _, hl, _⟩ := DataW.trod_struct Tryz.underlying37 h
  rw [hl]
  kernel_rfl
 match cs, hl with
 | [v0, v1, v2, v3, v4, v5, v6, v7, v8, v9, v10, v11, v12, v13, v14, v15, v16, v17, v18, v19, v20, v21, v22, v23, v24, v25, v26, v27, v28, v29], _ =>
  obtain ⟨xs1, n1, _, _, hl1, hlen1, hf1⟩ := DataW.trod_struct Tryz.underlying37 h
  obtain ⟨y1_0, g1_0⟩ := fld_some hlen1 (by simp) (hf1 0 _ rfl)
  have g1_0 : DataW.trod enc Tryz.prog w base spare held n1 3 [v0] = some y1_0 := by simpa [cint] using g1_0
  obtain ⟨a0, ea0, _, wa0⟩ := DataW.trod_int Tryz.underlying3 g1_0
  simp at ea0
  have wa0 := i64_wf' wa0
  obtain ⟨y1_1, g1_1⟩ := fld_some hlen1 (by simp) (hf1 1 _ rfl)
  have g1_1 : DataW.trod enc Tryz.prog w base spare held n1 30 [v1, v2, v3, v4, v5, v6, v7] = some y1_1 := by simpa [cP] using g1_1
  obtain ⟨xs2, n2, _, _, hl2, hlen2, hf2⟩ := DataW.trod_struct Tryz.underlying30 g1_1
  obtain ⟨y2_0, g2_0⟩ := fld_some hlen2 (by simp) (hf2 0 _ rfl)
  have g2_0 : DataW.trod enc Tryz.prog w base spare held n2 25 [v1, v2, v3, v4] = some y2_0 := by simpa [cS] using g2_0
  obtain ⟨xs3, n3, _, _, hl3, hlen3, hf3⟩ := DataW.trod_struct Tryz.underlying25 g2_0
  obtain ⟨y3_0, g3_0⟩ := fld_some hlen3 (by simp) (hf3 0 _ rfl)
  have g3_0 : DataW.trod enc Tryz.prog w base spare held n3 3 [v1] = some y3_0 := by simpa [cint] using g3_0
  obtain ⟨a1, ea1, _, wa1⟩ := DataW.trod_int Tryz.underlying3 g3_0
  simp at ea1
  have wa1 := i64_wf' wa1
  obtain ⟨y3_1, g3_1⟩ := fld_some hlen3 (by simp) (hf3 1 _ rfl)
  have g3_1 : DataW.trod enc Tryz.prog w base spare held n3 3 [v2] = some y3_1 := by simpa [cint] using g3_1
  obtain ⟨a2, ea2, _, wa2⟩ := DataW.trod_int Tryz.underlying3 g3_1
  simp at ea2
  have wa2 := i64_wf' wa2
  obtain ⟨y3_2, g3_2⟩ := fld_some hlen3 (by simp) (hf3 2 _ rfl)
  have g3_2 : DataW.trod enc Tryz.prog w base spare held n3 3 [v3] = some y3_2 := by simpa [cint] using g3_2
  obtain ⟨a3, ea3, _, wa3⟩ := DataW.trod_int Tryz.underlying3 g3_2
  simp at ea3
  have wa3 := i64_wf' wa3
  obtain ⟨y3_3, g3_3⟩ := fld_some hlen3 (by simp) (hf3 3 _ rfl)
  have g3_3 : DataW.trod enc Tryz.prog w base spare held n3 3 [v4] = some y3_3 := by simpa [cint] using g3_3
  obtain ⟨a4, ea4, _, wa4⟩ := DataW.trod_int Tryz.underlying3 g3_3
  simp at ea4
  have wa4 := i64_wf' wa4
  obtain ⟨y2_1, g2_1⟩ := fld_some hlen2 (by simp) (hf2 1 _ rfl)
  have g2_1 : DataW.trod enc Tryz.prog w base spare held n2 28 [v5, v6] = some y2_1 := by simpa [cV] using g2_1
  obtain ⟨xs4, n4, _, _, hl4, hlen4, hf4⟩ := DataW.trod_struct Tryz.underlying28 g2_1
  obtain ⟨y4_0, g4_0⟩ := fld_some hlen4 (by simp) (hf4 0 _ rfl)
  have g4_0 : DataW.trod enc Tryz.prog w base spare held n4 26 [v5] = some y4_0 := by simpa [cF] using g4_0
  obtain ⟨a5, ea5, _, wa5⟩ := DataW.trod_int Tryz.underlying26 g4_0
  simp at ea5
  have wa5 := i64_wf' wa5
  obtain ⟨y4_1, g4_1⟩ := fld_some hlen4 (by simp) (hf4 1 _ rfl)
  have g4_1 : DataW.trod enc Tryz.prog w base spare held n4 26 [v6] = some y4_1 := by simpa [cF] using g4_1
  obtain ⟨a6, ea6, _, wa6⟩ := DataW.trod_int Tryz.underlying26 g4_1
  simp at ea6
  have wa6 := i64_wf' wa6
  obtain ⟨y2_2, g2_2⟩ := fld_some hlen2 (by simp) (hf2 2 _ rfl)
  have g2_2 : DataW.trod enc Tryz.prog w base spare held n2 26 [v7] = some y2_2 := by simpa [cF] using g2_2
  obtain ⟨a7, ea7, _, wa7⟩ := DataW.trod_int Tryz.underlying26 g2_2
  simp at ea7
  have wa7 := i64_wf' wa7
  obtain ⟨y1_2, g1_2⟩ := fld_some hlen1 (by simp) (hf1 2 _ rfl)
  have g1_2 : DataW.trod enc Tryz.prog w base spare held n1 28 [v8, v9] = some y1_2 := by simpa [cV] using g1_2
  obtain ⟨xs5, n5, _, _, hl5, hlen5, hf5⟩ := DataW.trod_struct Tryz.underlying28 g1_2
  obtain ⟨y5_0, g5_0⟩ := fld_some hlen5 (by simp) (hf5 0 _ rfl)
  have g5_0 : DataW.trod enc Tryz.prog w base spare held n5 26 [v8] = some y5_0 := by simpa [cF] using g5_0
  obtain ⟨a8, ea8, _, wa8⟩ := DataW.trod_int Tryz.underlying26 g5_0
  simp at ea8
  have wa8 := i64_wf' wa8
  obtain ⟨y5_1, g5_1⟩ := fld_some hlen5 (by simp) (hf5 1 _ rfl)
  have g5_1 : DataW.trod enc Tryz.prog w base spare held n5 26 [v9] = some y5_1 := by simpa [cF] using g5_1
  obtain ⟨a9, ea9, _, wa9⟩ := DataW.trod_int Tryz.underlying26 g5_1
  simp at ea9
  have wa9 := i64_wf' wa9
  obtain ⟨y1_3, g1_3⟩ := fld_some hlen1 (by simp) (hf1 3 _ rfl)
  have g1_3 : DataW.trod enc Tryz.prog w base spare held n1 26 [v10] = some y1_3 := by simpa [cF] using g1_3
  obtain ⟨a10, ea10, _, wa10⟩ := DataW.trod_int Tryz.underlying26 g1_3
  simp at ea10
  have wa10 := i64_wf' wa10
  obtain ⟨y1_4, g1_4⟩ := fld_some hlen1 (by simp) (hf1 4 _ rfl)
  have g1_4 : DataW.trod enc Tryz.prog w base spare held n1 26 [v11] = some y1_4 := by simpa [cF] using g1_4
  obtain ⟨a11, ea11, _, wa11⟩ := DataW.trod_int Tryz.underlying26 g1_4
  simp at ea11
  have wa11 := i64_wf' wa11
  obtain ⟨y1_5, g1_5⟩ := fld_some hlen1 (by simp) (hf1 5 _ rfl)
  have g1_5 : DataW.trod enc Tryz.prog w base spare held n1 3 [v12] = some y1_5 := by simpa [cint] using g1_5
  obtain ⟨a12, ea12, _, wa12⟩ := DataW.trod_int Tryz.underlying3 g1_5
  simp at ea12
  have wa12 := i64_wf' wa12
  obtain ⟨y1_6, g1_6⟩ := fld_some hlen1 (by simp) (hf1 6 _ rfl)
  have g1_6 : DataW.trod enc Tryz.prog w base spare held n1 3 [v13] = some y1_6 := by simpa [cint] using g1_6
  obtain ⟨a13, ea13, _, wa13⟩ := DataW.trod_int Tryz.underlying3 g1_6
  simp at ea13
  have wa13 := i64_wf' wa13
  obtain ⟨y1_7, g1_7⟩ := fld_some hlen1 (by simp) (hf1 7 _ rfl)
  have g1_7 : DataW.trod enc Tryz.prog w base spare held n1 28 [v14, v15] = some y1_7 := by simpa [cV] using g1_7
  obtain ⟨xs6, n6, _, _, hl6, hlen6, hf6⟩ := DataW.trod_struct Tryz.underlying28 g1_7
  obtain ⟨y6_0, g6_0⟩ := fld_some hlen6 (by simp) (hf6 0 _ rfl)
  have g6_0 : DataW.trod enc Tryz.prog w base spare held n6 26 [v14] = some y6_0 := by simpa [cF] using g6_0
  obtain ⟨a14, ea14, _, wa14⟩ := DataW.trod_int Tryz.underlying26 g6_0
  simp at ea14
  have wa14 := i64_wf' wa14
  obtain ⟨y6_1, g6_1⟩ := fld_some hlen6 (by simp) (hf6 1 _ rfl)
  have g6_1 : DataW.trod enc Tryz.prog w base spare held n6 26 [v15] = some y6_1 := by simpa [cF] using g6_1
  obtain ⟨a15, ea15, _, wa15⟩ := DataW.trod_int Tryz.underlying26 g6_1
  simp at ea15
  have wa15 := i64_wf' wa15
  obtain ⟨y1_8, g1_8⟩ := fld_some hlen1 (by simp) (hf1 8 _ rfl)
  have g1_8 : DataW.trod enc Tryz.prog w base spare held n1 28 [v16, v17] = some y1_8 := by simpa [cV] using g1_8
  obtain ⟨xs7, n7, _, _, hl7, hlen7, hf7⟩ := DataW.trod_struct Tryz.underlying28 g1_8
  obtain ⟨y7_0, g7_0⟩ := fld_some hlen7 (by simp) (hf7 0 _ rfl)
  have g7_0 : DataW.trod enc Tryz.prog w base spare held n7 26 [v16] = some y7_0 := by simpa [cF] using g7_0
  obtain ⟨a16, ea16, _, wa16⟩ := DataW.trod_int Tryz.underlying26 g7_0
  simp at ea16
  have wa16 := i64_wf' wa16
  obtain ⟨y7_1, g7_1⟩ := fld_some hlen7 (by simp) (hf7 1 _ rfl)
  have g7_1 : DataW.trod enc Tryz.prog w base spare held n7 26 [v17] = some y7_1 := by simpa [cF] using g7_1
  obtain ⟨a17, ea17, _, wa17⟩ := DataW.trod_int Tryz.underlying26 g7_1
  simp at ea17
  have wa17 := i64_wf' wa17
  obtain ⟨y1_9, g1_9⟩ := fld_some hlen1 (by simp) (hf1 9 _ rfl)
  have g1_9 : DataW.trod enc Tryz.prog w base spare held n1 26 [v18] = some y1_9 := by simpa [cF] using g1_9
  obtain ⟨a18, ea18, _, wa18⟩ := DataW.trod_int Tryz.underlying26 g1_9
  simp at ea18
  have wa18 := i64_wf' wa18
  obtain ⟨y1_10, g1_10⟩ := fld_some hlen1 (by simp) (hf1 10 _ rfl)
  have g1_10 : DataW.trod enc Tryz.prog w base spare held n1 35 [v19, v20, v21, v22, v23, v24, v25, v26, v27, v28, v29] = some y1_10 := by simpa [cB] using g1_10
  obtain ⟨xs8, n8, _, _, hl8, hlen8, hf8⟩ := DataW.trod_struct Tryz.underlying35 g1_10
  obtain ⟨y8_0, g8_0⟩ := fld_some hlen8 (by simp) (hf8 0 _ rfl)
  have g8_0 : DataW.trod enc Tryz.prog w base spare held n8 3 [v19] = some y8_0 := by simpa [cint] using g8_0
  obtain ⟨a19, ea19, _, wa19⟩ := DataW.trod_int Tryz.underlying3 g8_0
  simp at ea19
  have wa19 := i64_wf' wa19
  obtain ⟨y8_1, g8_1⟩ := fld_some hlen8 (by simp) (hf8 1 _ rfl)
  have g8_1 : DataW.trod enc Tryz.prog w base spare held n8 28 [v20, v21] = some y8_1 := by simpa [cV] using g8_1
  obtain ⟨xs9, n9, _, _, hl9, hlen9, hf9⟩ := DataW.trod_struct Tryz.underlying28 g8_1
  obtain ⟨y9_0, g9_0⟩ := fld_some hlen9 (by simp) (hf9 0 _ rfl)
  have g9_0 : DataW.trod enc Tryz.prog w base spare held n9 26 [v20] = some y9_0 := by simpa [cF] using g9_0
  obtain ⟨a20, ea20, _, wa20⟩ := DataW.trod_int Tryz.underlying26 g9_0
  simp at ea20
  have wa20 := i64_wf' wa20
  obtain ⟨y9_1, g9_1⟩ := fld_some hlen9 (by simp) (hf9 1 _ rfl)
  have g9_1 : DataW.trod enc Tryz.prog w base spare held n9 26 [v21] = some y9_1 := by simpa [cF] using g9_1
  obtain ⟨a21, ea21, _, wa21⟩ := DataW.trod_int Tryz.underlying26 g9_1
  simp at ea21
  have wa21 := i64_wf' wa21
  obtain ⟨y8_2, g8_2⟩ := fld_some hlen8 (by simp) (hf8 2 _ rfl)
  have g8_2 : DataW.trod enc Tryz.prog w base spare held n8 28 [v22, v23] = some y8_2 := by simpa [cV] using g8_2
  obtain ⟨xs10, n10, _, _, hl10, hlen10, hf10⟩ := DataW.trod_struct Tryz.underlying28 g8_2
  obtain ⟨y10_0, g10_0⟩ := fld_some hlen10 (by simp) (hf10 0 _ rfl)
  have g10_0 : DataW.trod enc Tryz.prog w base spare held n10 26 [v22] = some y10_0 := by simpa [cF] using g10_0
  obtain ⟨a22, ea22, _, wa22⟩ := DataW.trod_int Tryz.underlying26 g10_0
  simp at ea22
  have wa22 := i64_wf' wa22
  obtain ⟨y10_1, g10_1⟩ := fld_some hlen10 (by simp) (hf10 1 _ rfl)
  have g10_1 : DataW.trod enc Tryz.prog w base spare held n10 26 [v23] = some y10_1 := by simpa [cF] using g10_1
  obtain ⟨a23, ea23, _, wa23⟩ := DataW.trod_int Tryz.underlying26 g10_1
  simp at ea23
  have wa23 := i64_wf' wa23
  obtain ⟨y8_3, g8_3⟩ := fld_some hlen8 (by simp) (hf8 3 _ rfl)
  have g8_3 : DataW.trod enc Tryz.prog w base spare held n8 26 [v24] = some y8_3 := by simpa [cF] using g8_3
  obtain ⟨a24, ea24, _, wa24⟩ := DataW.trod_int Tryz.underlying26 g8_3
  simp at ea24
  have wa24 := i64_wf' wa24
  obtain ⟨y8_4, g8_4⟩ := fld_some hlen8 (by simp) (hf8 4 _ rfl)
  have g8_4 : DataW.trod enc Tryz.prog w base spare held n8 26 [v25] = some y8_4 := by simpa [cF] using g8_4
  obtain ⟨a25, ea25, _, wa25⟩ := DataW.trod_int Tryz.underlying26 g8_4
  simp at ea25
  have wa25 := i64_wf' wa25
  obtain ⟨y8_5, g8_5⟩ := fld_some hlen8 (by simp) (hf8 5 _ rfl)
  have g8_5 : DataW.trod enc Tryz.prog w base spare held n8 26 [v26] = some y8_5 := by simpa [cF] using g8_5
  obtain ⟨a26, ea26, _, wa26⟩ := DataW.trod_int Tryz.underlying26 g8_5
  simp at ea26
  have wa26 := i64_wf' wa26
  obtain ⟨y8_6, g8_6⟩ := fld_some hlen8 (by simp) (hf8 6 _ rfl)
  have g8_6 : DataW.trod enc Tryz.prog w base spare held n8 33 [v27, v28, v29] = some y8_6 := by simpa [cH] using g8_6
  obtain ⟨xs11, n11, _, _, hl11, hlen11, hf11⟩ := DataW.trod_struct Tryz.underlying33 g8_6
  obtain ⟨y11_0, g11_0⟩ := fld_some hlen11 (by simp) (hf11 0 _ rfl)
  have g11_0 : DataW.trod enc Tryz.prog w base spare held n11 3 [v27] = some y11_0 := by simpa [cint] using g11_0
  obtain ⟨a27, ea27, _, wa27⟩ := DataW.trod_int Tryz.underlying3 g11_0
  simp at ea27
  have wa27 := i64_wf' wa27
  obtain ⟨y11_1, g11_1⟩ := fld_some hlen11 (by simp) (hf11 1 _ rfl)
  have g11_1 : DataW.trod enc Tryz.prog w base spare held n11 26 [v28] = some y11_1 := by simpa [cF] using g11_1
  obtain ⟨a28, ea28, _, wa28⟩ := DataW.trod_int Tryz.underlying26 g11_1
  simp at ea28
  have wa28 := i64_wf' wa28
  obtain ⟨y11_2, g11_2⟩ := fld_some hlen11 (by simp) (hf11 2 _ rfl)
  have g11_2 : DataW.trod enc Tryz.prog w base spare held n11 31 [v29] = some y11_2 := by simpa [cL] using g11_2
  obtain ⟨so29, sn29, sc29, sf29, es29, ss29, si29, sk29⟩ := open_pts' g11_2
  exact ⟨⟨a0, a1, a2, a3, a4, a5, a6, a7, a8, a9, a10, a11, a12, a13, a14, a15, a16, a17, a18, a19, a20, a21, a22, a23, a24, a25, a26, a27, a28, so29, sn29, sc29, sf29⟩, by rw [ea0, ea1, ea2, ea3, ea4, ea5, ea6, ea7, ea8, ea9, ea10, ea11, ea12, ea13, ea14, ea15, ea16, ea17, ea18, ea19, ea20, ea21, ea22, ea23, ea24, ea25, ea26, ea27, ea28, es29]; rfl, ⟨wa0, wa1, wa2, wa3, wa4, wa5, wa6, wa7, wa8, wa9, wa10, wa11, wa12, wa13, wa14, wa15, wa16, wa17, wa18, ⟨wa19, wa20, wa21, wa22, wa23, wa24, wa25, wa26, wa27, wa28, si29⟩, sk29⟩, ss29⟩
theorem open_deeds {fuel : Nat} {v : Value} {y : DataW H × List MemPlace} (h : DataW.trod enc Tryz.prog w base spare held fuel 22 [v] = some y) :
  ∃ ao n c l, v = .slice ao n c ∧ DesIn w ao n c l := by
 have ck : Tryz.prog.cellsOf 37 = 30 := by kernel_rfl
 rcases open_slice Tryz.underlying22 h with ⟨hcs, _⟩ | ⟨a, len, cap, m, n, D, Pl, hcs, hb, hlc, hmx, hm, _, hx⟩
 ·simp at hcs
  exact ⟨none, 0, 0, [], hcs, ⟨⟨fun h => absurd h (by simp), fun d hd => by simp at hd⟩, rfl, Nat.le_refl _, by unfold maxLen; omega, .inl ⟨rfl, rfl, rfl⟩⟩⟩
 ·simp at hcs
  rw [ck] at hx
  have hlm : len ≤ m := by rw [hm]; split <;> omega
  obtain ⟨f, hf⟩ := choose_lt (α := De) (n := len) (p := fun i x => (∀ j v, (encD x)[j]? = some v → w.cell? ((a.add (i * 30)).add j) = some v) ∧ DeI x ∧ Sl w x.rao x.rn x.rf) (fun i hi => by
   obtain ⟨cs', h1, h2⟩ := hx i (by omega)
   obtain ⟨_, hlen, hcell⟩ := World.cells?_some h1
   obtain ⟨x, ex, hI⟩ := open_deed h2
   refine ⟨x, fun j v hv => ?_, hI⟩
   have hj : j < 30 := by
    have := (List.getElem?_eq_some_iff.1 hv).1
    rwa [encD_len] at this
   rw [hcell j hj, ex]
   exact hv)
  have hL : LsT encD 30 w (some a) ((List.range len).map f) := fun h0 => by
   obtain ⟨b, off, spot⟩ := a
   have hl0 : 0 < len := by simpa using h0
   have q0 := (hf 0 hl0).1 0 _ rfl
   have hspot : spot = none := by simpa [Addr.add] using World.cell?_spot q0
   subst hspot
   refine ⟨b, off, rfl, ?_, fun i x hi j v hv => ?_⟩
   ·have := World.block_lt_of_cell? _ _ q0
    simpa [Addr.add_lit] using this
   ·have hi' : i < len := by
     have := (List.getElem?_eq_some_iff.1 hi).1
     simpa using this
    have ex : f i = x := by
     rw [List.getElem?_map, List.getElem?_range hi'] at hi
     simpa using hi
    have := (hf i hi').1 j v (by rw [ex]; exact hv)
    rw [Addr.add_lit, Addr.add_lit] at this
    exact this
  refine ⟨some a, len, cap, (List.range len).map f, hcs, ⟨⟨hL, fun d hd => ?_⟩, by simp, hlc, hmx, .inr ⟨a, rfl⟩⟩⟩
  obtain ⟨i, hi, rfl⟩ := List.mem_map.1 hd
  exact (hf i (List.mem_range.1 hi)).2
end
end Go.Proofs.YtjecadafjnbijaaGreat.Fx
/- WorldCopies. -/
namespace Go.Proofs.YtjecadafjnbijaaGreat.Fx
open Go.ChangeShapes Go.WideShapes Go.ChangeAt Go.RowKit
set_option linter.unusedVariables false
theorem Has.put8 {w : World} {g : Nat} {t : TypeId} {c0 c1 c2 c3 c4 c5 c6 c7 : Value} (h : Has w g t #[c0, c1, c2, c3, c4, c5, c6, c7]) (v0 v1 v2 v3 v4 v5 v6 v7 : Value) :
  Has ((((((((w.setCell ⟨g, 0, none⟩ v0).setCell ⟨g, 1, none⟩ v1).setCell ⟨g, 2, none⟩ v2).setCell ⟨g, 3, none⟩ v3).setCell ⟨g, 4, none⟩ v4).setCell ⟨g, 5, none⟩ v5).setCell ⟨g, 6, none⟩ v6).setCell ⟨g, 7, none⟩ v7) g t #[v0, v1, v2, v3, v4, v5, v6, v7] := by
 have h1 : Has (w.setCell ⟨g, 0, none⟩ v0) g t #[v0, c1, c2, c3, c4, c5, c6, c7] := h.put 0 v0
 have h2 : Has ((w.setCell ⟨g, 0, none⟩ v0).setCell ⟨g, 1, none⟩ v1) g t #[v0, v1, c2, c3, c4, c5, c6, c7] := h1.put 1 v1
 have h3 : Has (((w.setCell ⟨g, 0, none⟩ v0).setCell ⟨g, 1, none⟩ v1).setCell ⟨g, 2, none⟩ v2) g t #[v0, v1, v2, c3, c4, c5, c6, c7] := h2.put 2 v2
 have h4 : Has ((((w.setCell ⟨g, 0, none⟩ v0).setCell ⟨g, 1, none⟩ v1).setCell ⟨g, 2, none⟩ v2).setCell ⟨g, 3, none⟩ v3) g t #[v0, v1, v2, v3, c4, c5, c6, c7] := h3.put 3 v3
 have h5 : Has (((((w.setCell ⟨g, 0, none⟩ v0).setCell ⟨g, 1, none⟩ v1).setCell ⟨g, 2, none⟩ v2).setCell ⟨g, 3, none⟩ v3).setCell ⟨g, 4, none⟩ v4) g t #[v0, v1, v2, v3, v4, c5, c6, c7] := h4.put 4 v4
 have h6 : Has ((((((w.setCell ⟨g, 0, none⟩ v0).setCell ⟨g, 1, none⟩ v1).setCell ⟨g, 2, none⟩ v2).setCell ⟨g, 3, none⟩ v3).setCell ⟨g, 4, none⟩ v4).setCell ⟨g, 5, none⟩ v5) g t #[v0, v1, v2, v3, v4, v5, c6, c7] := h5.put 5 v5
 have h7 : Has (((((((w.setCell ⟨g, 0, none⟩ v0).setCell ⟨g, 1, none⟩ v1).setCell ⟨g, 2, none⟩ v2).setCell ⟨g, 3, none⟩ v3).setCell ⟨g, 4, none⟩ v4).setCell ⟨g, 5, none⟩ v5).setCell ⟨g, 6, none⟩ v6) g t #[v0, v1, v2, v3, v4, v5, v6, c7] := h6.put 6 v6
 exact h7.put 7 v7
theorem But.put8 {X : Nat → Prop} {a w : World} {g : Nat} (h : But X a w) (hg : X g ∨ a.heap.size ≤ g) (v0 v1 v2 v3 v4 v5 v6 v7 : Value) :
  But X a ((((((((w.setCell ⟨g, 0, none⟩ v0).setCell ⟨g, 1, none⟩ v1).setCell ⟨g, 2, none⟩ v2).setCell ⟨g, 3, none⟩ v3).setCell ⟨g, 4, none⟩ v4).setCell ⟨g, 5, none⟩ v5).setCell ⟨g, 6, none⟩ v6).setCell ⟨g, 7, none⟩ v7) :=
 (((((((h.put (p := ⟨g, 0, none⟩) hg v0).put (p := ⟨g, 1, none⟩) hg v1).put (p := ⟨g, 2, none⟩) hg v2).put (p := ⟨g, 3, none⟩) hg v3).put (p := ⟨g, 4, none⟩) hg v4).put (p := ⟨g, 5, none⟩) hg v5).put (p := ⟨g, 6, none⟩) hg v6).put (p := ⟨g, 7, none⟩) hg v7
def z8 : Array Value := #[.int .i64 0, .int .i64 0, .int .i64 0, .int .i64 0, .int .i64 0, .slice none 0 0, .slice none 0 0, .slice none 0 0]
def alC (n : Nat) (P : PW) (i : Nat) (v : World) (g : Nat) (e : MI.Ex) : Prop := (i < n → CopyV P v g e) ∧ (n ≤ i → Has v g 42 #[.int .i64 0, .int .i64 0, .int .i64 0, .int .i64 0, .int .i64 0, .slice none 0 0, .slice none 0 0, .slice none 0 0] ∧ e.hi = g + 1)
def valC (n i g : Nat) (e : MI.Ex) : Value := if i < n then e.v else .pointer (some ⟨g, 0, none⟩)
end Go.Proofs.YtjecadafjnbijaaGreat.Fx
/- order.after of any batch. -/
namespace Go.Proofs.YtjecadafjnbijaaGreat.Fx
open Go.ChangeShapes Go.WideShapes Go.ChangeAt Go.RowKit
set_option linter.unusedVariables false
def ExecsP : List Or → PG → Int → PG → Prop
 | [], G, er, G' => er = 0 ∧ G' = G
 | o :: l, G, er, G' => ∃ e1 G1, ExecP o G e1 G1 ∧ ((e1 = 3 ∧ er = 3) ∨ (e1 ≠ 3 ∧ ExecsP l G1 er G'))
def AfterP (l : List Or) (G : PG) (er : Int) (G' : PG) : Prop :=
 (64 < l.length ∧ er = 3) ∨ (l.length ≤ 64 ∧ (∃ o ∈ l, ¬ OrderP o) ∧ er = 2) ∨ (l.length ≤ 64 ∧ (∀ o ∈ l, OrderP o) ∧ 4611686018427387904 ≤ G.tk ∧ er = 3) ∨ (l.length ≤ 64 ∧ (∀ o ∈ l, OrderP o) ∧ G.tk < 4611686018427387904 ∧ ExecsP l G er G')
theorem OrsAt.below {w v : World} {ao : Option Addr} {l : List Or} (h : OrsAt w ao l) (k : Below w.heap.size w v) : OrsAt v ao l :=
 ⟨h.1.below k, fun o ho => by
  obtain ⟨h1, h2, h3⟩ := h.2 o ho
  refine ⟨h1, h2, fun hn => ?_⟩
  obtain ⟨b, off, e, hp⟩ := h3 hn
  exact ⟨b, off, e, fun i hi => ⟨Below.reads k (hp i hi).1, Below.reads k (hp i hi).2⟩⟩⟩
theorem after_c {X0 : Nat → Prop} {l : List Or} {ao : Option Addr} {n c nB nJ nC : Nat} {w : World} (tk gx gy nb nj : Int) (B : List Bd) (J : List Jt) (C : List Ct) (ob oj oc : Option Addr) (cb cj cc : Nat) (hn : l.length = n) (hnb : n ≤ 1073741824) (hl : OrsAt w ao l) (hok : ∀ o ∈ l, (o.ao = none ∧ o.n = 0 ∧ o.c = 0) ∨ ∃ a, o.ao = some a)
  (hX0 : ∀ b, X0 b → b < w.heap.size) (hL : WLs X0 w ob cb B oj cj J oc cc C) (hnB : B.length = nB) (hnJ : J.length = nJ) (hnC : C.length = nC) (hG : GOk ⟨tk, gx, gy, ⟨nb, nj, B, J, C⟩⟩) (hC : nC ≤ 1073741824) :
  Calls Tryz.prog 25 #[wdV tk nb nj gx gy (.slice ob nB cb) (.slice oj nJ cj) (.slice oc nC cc), .slice ao n c] w fun e v => ∃ er G', AfterP l ⟨tk, gx, gy, ⟨nb, nj, B, J, C⟩⟩ er G' ∧ Below w.heap.size w v ∧
   ((er ≠ 0 ∧ e = .returned (.tuple #[wdV 0 0 0 0 0 (.slice none 0 0) (.slice none 0 0) (.slice none 0 0), .int .i64 er])) ∨
    (er = 0 ∧ GOk G' ∧ G'.P.C.length ≤ nC ∧ ∃ ob' oj' oc' cb' cj' cc', e = .returned (.tuple #[wdV G'.tk G'.P.nb G'.P.nj G'.gx G'.gy (.slice ob' G'.P.B.length cb') (.slice oj' G'.P.J.length cj') (.slice oc' G'.P.C.length cc'), .int .i64 0]) ∧ WLs X0 v ob' cb' G'.P.B oj' cj' G'.P.J oc' cc' G'.P.C)) := by
 have HAW := hid (fun v (k : Made w.heap.size w v) => anyWrong_c (c := c) hn (by omega) (hl.kept k))
 have HLs := hid hL
 have HX0 := hid hX0
 have HOrs := hid hl
 have HOk := hid hok
 have HG := hid hG
 have HN := hid (And.intro hnB (And.intro hnJ hnC))
 have HLen := hid hn
 clear hL hX0 hl hok hG hnB hnJ hnC hn
 obtain ⟨W, eW⟩ : ∃ W, W = (w.alloc (.cells #[.int .i64 tk, .int .i64 nb, .int .i64 nj, .int .i64 gx, .int .i64 gy, .slice ob nB cb, .slice oj nJ cj, .slice oc nC cc] 42)).alloc (.cells #[.int .i64 0, .int .i64 0, .int .i64 0, .int .i64 0, .int .i64 0, .slice none 0 0, .slice none 0 0, .slice none 0 0] 42) := ⟨_, rfl⟩
 have KW : Hid (Made w.heap.size w W) := by unfold Hid; rw [eW]; exact ((Made.rfl_ _ _).cells (Nat.le_refl _) _ _).cells (by simp) _ _
 have HB : Hid (Has W w.heap.size 42 #[.int .i64 tk, .int .i64 nb, .int .i64 nj, .int .i64 gx, .int .i64 gy, .slice ob nB cb, .slice oj nJ cj, .slice oc nC cc]) := by unfold Hid; rw [eW]; exact (has_new _ _ _).more _
 have HR : Hid (Has W (w.heap.size + 1) 42 #[.int .i64 0, .int .i64 0, .int .i64 0, .int .i64 0, .int .i64 0, .slice none 0 0, .slice none 0 0, .slice none 0 0]) := by unfold Hid; rw [eW]; exact has_nxt' _ _ _ _
 obtain ⟨gw, egw⟩ : ∃ g, w.heap.size = g := ⟨_, rfl⟩
 obtain ⟨gr, egr⟩ : ∃ g, gw + 1 = g := ⟨_, rfl⟩
 have hw1 : w.heap.size ≤ gw := Nat.le_of_eq egw
 have hw2 : w.heap.size ≤ gr := by omega
 have hne : ¬ gr = gw := by omega
 rw [egw] at HB
 rw [egw, egr] at HR
 go_enter Tryz.func25, Tryz.ntmps25
 go_upto_region 1 with fail
 rw [← eW]
 clear eW
 try rw [egw]
 try rw [egr]
 clear egw egr
 have r0 := HR.out.at_ 0
 have r1 := HR.out.at_ 1
 have r2 := HR.out.at_ 2
 have r3 := HR.out.at_ 3
 have r4 := HR.out.at_ 4
 have r5 := HR.out.at_ 5
 have r6 := HR.out.at_ 6
 have r7 := HR.out.at_ 7
 simp at r0 r1 r2 r3 r4 r5 r6 r7
 have lr : gr < W.heap.size := HR.out.here
 have fr : ∀ i, W.frozen? ⟨gr, i, none⟩ = false := HR.out.free
 have HK0 : Hid (Below w.heap.size w W) := KW.out.1
 by_cases h64 : 64 < n
 ·go_wp2_with fail
  obtain ⟨V, eV⟩ : ∃ V, V = ((((((((W).setCell ⟨gr, 0, none⟩ (.int .i64 0)).setCell ⟨gr, 1, none⟩ (.int .i64 0)).setCell ⟨gr, 2, none⟩ (.int .i64 0)).setCell ⟨gr, 3, none⟩ (.int .i64 0)).setCell ⟨gr, 4, none⟩ (.int .i64 0)).setCell ⟨gr, 5, none⟩ (.slice none 0 0)).setCell ⟨gr, 6, none⟩ (.slice none 0 0)).setCell ⟨gr, 7, none⟩ (.slice none 0 0) := ⟨_, rfl⟩
  have hV : Has V gr 42 #[.int .i64 0, .int .i64 0, .int .i64 0, .int .i64 0, .int .i64 0, .slice none 0 0, .slice none 0 0, .slice none 0 0] := by rw [eV]; exact Has.put8 HR.out (.int .i64 0) (.int .i64 0) (.int .i64 0) (.int .i64 0) (.int .i64 0) (.slice none 0 0) (.slice none 0 0) (.slice none 0 0)
  have kV : Below w.heap.size w V := by
   have kb : BuB (fun b => b = gr) W V := by rw [eV]; exact (But.put8 (But.rfl_ (fun b => b = gr) W) (g := gr) (.inl rfl) (.int .i64 0) (.int .i64 0) (.int .i64 0) (.int .i64 0) (.int .i64 0) (.slice none 0 0) (.slice none 0 0) (.slice none 0 0)).bub
   exact BuB.below_ HK0.out kb HK0.out.size (fun b hb => by have hb : b = gr := hb; omega)
  have kU : BuB (fun b => b = gr) W V := by rw [eV]; exact (But.put8 (But.rfl_ (fun b => b = gr) W) (g := gr) (.inl rfl) (.int .i64 0) (.int .i64 0) (.int .i64 0) (.int .i64 0) (.int .i64 0) (.slice none 0 0) (.slice none 0 0) (.slice none 0 0)).bub
  try rw [← eV]
  clear eV
  have q0 := hV.at_ 0
  have q1 := hV.at_ 1
  have q2 := hV.at_ 2
  have q3 := hV.at_ 3
  have q4 := hV.at_ 4
  have q5 := hV.at_ 5
  have q6 := hV.at_ 6
  have q7 := hV.at_ 7
  simp at q0 q1 q2 q3 q4 q5 q6 q7
  refine bodyPost_ret (v := .tuple #[.agg #[.int .i64 0, .int .i64 0, .int .i64 0, .int .i64 0, .int .i64 0, .slice none 0 0, .slice none 0 0, .slice none 0 0], .int .i64 3]) (by simp [results, Tryz.results25, go_sem, q0, q1, q2, q3, q4, q5, q6, q7]) rfl ?_
  exact ⟨3, ⟨tk, gx, gy, ⟨nb, nj, B, J, C⟩⟩, .inl ⟨by rw [HLen.out]; exact h64, rfl⟩, kV, .inl ⟨by decide, rfl⟩⟩
 have H64 : Hid (l.length ≤ 64) := by unfold Hid; rw [HLen.out]; omega
 go_wp2_with fail
 refine (HAW.out _ KW.out).mono ?_
 rintro e w1 ⟨q, rfl, k1, hq⟩
 have HQ := hid hq
 have HB1 := hid (HB.out.stays k1 HB.out.here)
 have HR1 := hid (HR.out.stays k1 HR.out.here)
 have K1 := hid (KW.out.then_ (k1.low KW.out.1.size))
 have HK1 : Hid (Below w.heap.size w w1) := K1.out.1
 clear hq k1 HB HR KW r0 r1 r2 r3 r4 r5 r6 r7 lr fr HK0 HAW
 have r0 := HR1.out.at_ 0
 have r1 := HR1.out.at_ 1
 have r2 := HR1.out.at_ 2
 have r3 := HR1.out.at_ 3
 have r4 := HR1.out.at_ 4
 have r5 := HR1.out.at_ 5
 have r6 := HR1.out.at_ 6
 have r7 := HR1.out.at_ 7
 simp at r0 r1 r2 r3 r4 r5 r6 r7
 have lr : gr < w1.heap.size := HR1.out.here
 have fr : ∀ i, w1.frozen? ⟨gr, i, none⟩ = false := HR1.out.free
 cases q with
 | true =>
  go_wp2_with fail
  obtain ⟨V, eV⟩ : ∃ V, V = ((((((((w1).setCell ⟨gr, 0, none⟩ (.int .i64 0)).setCell ⟨gr, 1, none⟩ (.int .i64 0)).setCell ⟨gr, 2, none⟩ (.int .i64 0)).setCell ⟨gr, 3, none⟩ (.int .i64 0)).setCell ⟨gr, 4, none⟩ (.int .i64 0)).setCell ⟨gr, 5, none⟩ (.slice none 0 0)).setCell ⟨gr, 6, none⟩ (.slice none 0 0)).setCell ⟨gr, 7, none⟩ (.slice none 0 0) := ⟨_, rfl⟩
  have hV : Has V gr 42 #[.int .i64 0, .int .i64 0, .int .i64 0, .int .i64 0, .int .i64 0, .slice none 0 0, .slice none 0 0, .slice none 0 0] := by rw [eV]; exact Has.put8 HR1.out (.int .i64 0) (.int .i64 0) (.int .i64 0) (.int .i64 0) (.int .i64 0) (.slice none 0 0) (.slice none 0 0) (.slice none 0 0)
  have kV : Below w.heap.size w V := by
   have kb : BuB (fun b => b = gr) w1 V := by rw [eV]; exact (But.put8 (But.rfl_ (fun b => b = gr) w1) (g := gr) (.inl rfl) (.int .i64 0) (.int .i64 0) (.int .i64 0) (.int .i64 0) (.int .i64 0) (.slice none 0 0) (.slice none 0 0) (.slice none 0 0)).bub
   exact BuB.below_ HK1.out kb HK1.out.size (fun b hb => by have hb : b = gr := hb; omega)
  have kU : BuB (fun b => b = gr) w1 V := by rw [eV]; exact (But.put8 (But.rfl_ (fun b => b = gr) w1) (g := gr) (.inl rfl) (.int .i64 0) (.int .i64 0) (.int .i64 0) (.int .i64 0) (.int .i64 0) (.slice none 0 0) (.slice none 0 0) (.slice none 0 0)).bub
  try rw [← eV]
  clear eV
  have q0 := hV.at_ 0
  have q1 := hV.at_ 1
  have q2 := hV.at_ 2
  have q3 := hV.at_ 3
  have q4 := hV.at_ 4
  have q5 := hV.at_ 5
  have q6 := hV.at_ 6
  have q7 := hV.at_ 7
  simp at q0 q1 q2 q3 q4 q5 q6 q7
  refine bodyPost_ret (v := .tuple #[.agg #[.int .i64 0, .int .i64 0, .int .i64 0, .int .i64 0, .int .i64 0, .slice none 0 0, .slice none 0 0, .slice none 0 0], .int .i64 2]) (by simp [results, Tryz.results25, go_sem, q0, q1, q2, q3, q4, q5, q6, q7]) rfl ?_
  exact ⟨2, ⟨tk, gx, gy, ⟨nb, nj, B, J, C⟩⟩, .inr (.inl ⟨H64.out, HQ.out.1 (by first | rfl | trivial), rfl⟩), kV, .inl ⟨by decide, rfl⟩⟩
 | false =>
 have HAl : Hid (∀ o ∈ l, OrderP o) := fun o ho => Classical.byContradiction fun hno => by
  have := HQ.out.2 ⟨o, ho, hno⟩
  cases this
 clear HQ
 have b0 := HB1.out.at_ 0
 have b1 := HB1.out.at_ 1
 have b2 := HB1.out.at_ 2
 have b3 := HB1.out.at_ 3
 have b4 := HB1.out.at_ 4
 have b5 := HB1.out.at_ 5
 have b6 := HB1.out.at_ 6
 have b7 := HB1.out.at_ 7
 simp at b0 b1 b2 b3 b4 b5 b6 b7
 have lb : gw < w1.heap.size := HB1.out.here
 by_cases h62 : 4611686018427387904 ≤ tk
 ·go_wp2_with fail
  obtain ⟨V, eV⟩ : ∃ V, V = ((((((((w1).setCell ⟨gr, 0, none⟩ (.int .i64 0)).setCell ⟨gr, 1, none⟩ (.int .i64 0)).setCell ⟨gr, 2, none⟩ (.int .i64 0)).setCell ⟨gr, 3, none⟩ (.int .i64 0)).setCell ⟨gr, 4, none⟩ (.int .i64 0)).setCell ⟨gr, 5, none⟩ (.slice none 0 0)).setCell ⟨gr, 6, none⟩ (.slice none 0 0)).setCell ⟨gr, 7, none⟩ (.slice none 0 0) := ⟨_, rfl⟩
  have hV : Has V gr 42 #[.int .i64 0, .int .i64 0, .int .i64 0, .int .i64 0, .int .i64 0, .slice none 0 0, .slice none 0 0, .slice none 0 0] := by rw [eV]; exact Has.put8 HR1.out (.int .i64 0) (.int .i64 0) (.int .i64 0) (.int .i64 0) (.int .i64 0) (.slice none 0 0) (.slice none 0 0) (.slice none 0 0)
  have kV : Below w.heap.size w V := by
   have kb : BuB (fun b => b = gr) w1 V := by rw [eV]; exact (But.put8 (But.rfl_ (fun b => b = gr) w1) (g := gr) (.inl rfl) (.int .i64 0) (.int .i64 0) (.int .i64 0) (.int .i64 0) (.int .i64 0) (.slice none 0 0) (.slice none 0 0) (.slice none 0 0)).bub
   exact BuB.below_ HK1.out kb HK1.out.size (fun b hb => by have hb : b = gr := hb; omega)
  have kU : BuB (fun b => b = gr) w1 V := by rw [eV]; exact (But.put8 (But.rfl_ (fun b => b = gr) w1) (g := gr) (.inl rfl) (.int .i64 0) (.int .i64 0) (.int .i64 0) (.int .i64 0) (.int .i64 0) (.slice none 0 0) (.slice none 0 0) (.slice none 0 0)).bub
  try rw [← eV]
  clear eV
  have q0 := hV.at_ 0
  have q1 := hV.at_ 1
  have q2 := hV.at_ 2
  have q3 := hV.at_ 3
  have q4 := hV.at_ 4
  have q5 := hV.at_ 5
  have q6 := hV.at_ 6
  have q7 := hV.at_ 7
  simp at q0 q1 q2 q3 q4 q5 q6 q7
  refine bodyPost_ret (v := .tuple #[.agg #[.int .i64 0, .int .i64 0, .int .i64 0, .int .i64 0, .int .i64 0, .slice none 0 0, .slice none 0 0, .slice none 0 0], .int .i64 3]) (by simp [results, Tryz.results25, go_sem, q0, q1, q2, q3, q4, q5, q6, q7]) rfl ?_
  exact ⟨3, ⟨tk, gx, gy, ⟨nb, nj, B, J, C⟩⟩, .inr (.inr (.inl ⟨H64.out, HAl.out, h62, rfl⟩)), kV, .inl ⟨by decide, rfl⟩⟩
 have H62 : Hid (tk < 4611686018427387904) := by unfold Hid; omega
 go_wp2_with fail
 clear b0 b1 b2 b3 b4 b5 b6 b7 lb r0 r1 r2 r3 r4 r5 r6 r7 lr fr h62
 have HV1 : Hid (GV (fun b => X0 b ∨ b = gw ∨ b = gr) w1 gw ⟨tk, gx, gy, ⟨nb, nj, B, J, C⟩⟩) := by
  refine ⟨ob, oj, oc, cb, cj, cc, ?_, (HLs.out.free (Y := fun b => X0 b ∨ b = gw ∨ b = gr) (fun b hb => by
   rcases (show X0 b ∨ b = gw ∨ b = gr from hb) with h | h
   ·exact .inl h
   ·exact .inr (by omega))).kept K1.out⟩
  show Has w1 gw 42 #[.int .i64 tk, .int .i64 nb, .int .i64 nj, .int .i64 gx, .int .i64 gy, .slice ob B.length cb, .slice oj J.length cj, .slice oc C.length cc]
  rw [HN.out.1, HN.out.2.1, HN.out.2.2]
  exact HB1.out
 go_loopg [7, 21] n (fun gg s7 s21 wx => ∃ (k : Nat) (Gk : PG), k + gg = n ∧ s21 = .int .i64 (k : Nat) ∧ Hid (Below w.heap.size w wx ∧ GV (fun b => X0 b ∨ b = gw ∨ b = gr) wx gw Gk ∧ GOk Gk ∧ Gk.P.C.length ≤ nC ∧ Has wx gr 42 #[.int .i64 0, .int .i64 0, .int .i64 0, .int .i64 0, .int .i64 0, .slice none 0 0, .slice none 0 0, .slice none 0 0] ∧ ∀ er G', ExecsP (l.drop k) Gk er G' → ExecsP l ⟨tk, gx, gy, ⟨nb, nj, B, J, C⟩⟩ er G'))
 case atStart => exact ⟨0, _, by omega, by first | rfl | trivial, HK1.out, HV1.out, HG.out, Nat.le_of_eq HN.out.2.2, HR1.out, fun er G' h => h⟩
 case round =>
  obtain ⟨k, Gk, hk, rfl, HH⟩ := hrel
  have HKr := hid HH.out.1
  have HVr := hid HH.out.2.1
  have HGr := hid HH.out.2.2.1
  have HCr := hid HH.out.2.2.2.1
  have HRr := hid HH.out.2.2.2.2.1
  have HPr := hid HH.out.2.2.2.2.2
  clear HH
  by_cases hkn : k < n
  ·obtain ⟨x, hx⟩ : ∃ x, l[k]? = some x := ⟨_, List.getElem?_eq_getElem (by rw [HLen.out]; exact hkn)⟩
   have hors := HOrs.out.below HKr.out
   obtain ⟨b, off, eao, hb, hLB⟩ := hors.1 (by rw [HLen.out]; omega)
   obtain ⟨hxi, hxn, hxs⟩ := hors.2 x (List.mem_of_getElem? hx)
   have HXI := hid hxi; have HXS := hid hxs
   have HXK := hid (HOk.out x (List.mem_of_getElem? hx))
   have HXP := hid (HAl.out x (List.mem_of_getElem? hx))
   have HDr : Hid (l.drop k = x :: l.drop (k + 1)) := by
    unfold Hid
    obtain ⟨h1, h2⟩ := List.getElem?_eq_some_iff.1 hx
    rw [List.drop_eq_getElem_cons h1, h2]
   obtain ⟨cs, ecs⟩ : ∃ cs, encO x = cs := ⟨_, rfl⟩
   have HRg : Hid (wr.rangeAt b (off + k * 15) cs) := by unfold Hid; rw [← ecs]; exact LsB.rangeAt hLB hx
   have HLN : Hid (cs.length = 15) := by unfold Hid; rw [← ecs]; rfl
   have H1C : Hid (∀ v ∈ cs, v.oneCell' = true) := by unfold Hid; rw [← ecs]; exact encO_one x
   have HCS : Hid (orV x = .agg cs.toArray) := by unfold Hid; rw [← ecs]; rfl
   obtain ⟨g7, eg7⟩ : ∃ g, wr.heap.size = g := ⟨_, rfl⟩
   have HTH : Hid ((wr.alloc (.cells #[.int .i64 0, .int .i64 0, .int .i64 0, .int .i64 0, .int .i64 0, .int .i64 0, .int .i64 0, .int .i64 0, .int .i64 0, .int .i64 0, .int .i64 0, .int .i64 0, .int .i64 0, .int .i64 0, .slice none 0 0] 49)).there g7 0 cs.toArray.size) := by
    unfold Hid; rw [← eg7]; exact there_of (has_new _ _ _) (by rw [List.size_toArray, HLN.out]; decide)
   have HEao := hid eao
   clear hx hors hLB hxi hxn hxs ecs
   subst eao
   go_upto_region 10 with (first
    | refine wpList_load_mid rfl 49 (.tmp 23) rfl b (off + k * 15) rfl cs _ HRg.out Tryz.underlying49 rfl (by rw [HLN.out]; kernel_rfl) ?_
    | refine wpList_store_mid rfl 49 (.tmp 7) (.tmp 24) rfl g7 0 cs.toArray rfl rfl HTH.out (by rw [List.size_toArray, HLN.out]; kernel_rfl) (all_oneCell_toArray H1C.out) ?_)
   obtain ⟨W4, e4⟩ : ∃ V, V = (wr.alloc (.cells #[.int .i64 0, .int .i64 0, .int .i64 0, .int .i64 0, .int .i64 0, .int .i64 0, .int .i64 0, .int .i64 0, .int .i64 0, .int .i64 0, .int .i64 0, .int .i64 0, .int .i64 0, .int .i64 0, .slice none 0 0] 49)).setCells g7 0 cs := ⟨_, rfl⟩
   have k4 : Made wr.heap.size wr W4 := by rw [e4]; exact Made.setCells (Nat.le_of_eq eg7) _ _ ((Made.rfl_ _ _).cells (Nat.le_refl _) _ _)
   have HX4 : Hid (Has W4 g7 49 cs.toArray) := by
    unfold Hid
    have h := (has_new wr 49 #[.int .i64 0, .int .i64 0, .int .i64 0, .int .i64 0, .int .i64 0, .int .i64 0, .int .i64 0, .int .i64 0, .int .i64 0, .int .i64 0, .int .i64 0, .int .i64 0, .int .i64 0, .int .i64 0, .slice none 0 0]).whole (vs := cs.toArray) (by rw [List.size_toArray, HLN.out]; rfl)
    rw [eg7] at h
    rw [e4]
    exact h
   rw [← e4]
   clear e4 eg7 HTH
   have HV4 := hid (WVar.kept HVr.out k4)
   have HR4 := hid (HRr.out.stays k4 HRr.out.here)
   have HK4 : Hid (Below w.heap.size w W4) := HKr.out.trans (k4.1.mono HKr.out.size)
   have HEx := hid (exec_p x HV4.out HGr.out (.inr (.inl rfl)) (fun b hb => by
    have h1 := WVar.here HV4.out
    have h2 := HR4.out.here
    have h3 := HK4.out.size
    rcases (show X0 b ∨ b = gw ∨ b = gr from hb) with h | h
    ·have := HX0.out b h; omega
    ·omega) HXI.out HXP.out (Sl.kept HXS.out k4) HXK.out (by have := HCr.out; omega))
   rw [HCS.out] at HEx
   clear k4 HVr HRr HKr
   go_wp2_with (refine wpList_load_row rfl 49 (.tmp 7) rfl g7 rfl 49 _ (0, 0) _ HX4.out Tryz.underlying49 rfl (by rw [List.size_toArray, HLN.out]; kernel_rfl) ?_)
   refine HEx.out.mono ?_
   rintro e w5 ⟨er, G1, rfl, hex, hv, kb⟩
   have HR5 := hid (HR4.out.bub kb hne)
   have HK5 : Hid (Below w.heap.size w w5) := BuB.below_ HK4.out kb HK4.out.size (fun b hb => by have hb : b = gw := hb; omega)
   have HV5 := hid hv
   have HX5 := hid hex
   have HG5 := hid (exec_ok HGr.out HXP.out hex)
   have HC5 := hid (Nat.le_trans (exec_C hex) HCr.out)
   clear hex hv kb HEx HV4 HR4 HK4 HX4
   by_cases h3 : er = 3
   ·have hq3 : (er == 3) = true := by rw [h3]; rfl
    have H3 := hid h3
    clear h3
    have r0 := HR5.out.at_ 0
    have r1 := HR5.out.at_ 1
    have r2 := HR5.out.at_ 2
    have r3 := HR5.out.at_ 3
    have r4 := HR5.out.at_ 4
    have r5 := HR5.out.at_ 5
    have r6 := HR5.out.at_ 6
    have r7 := HR5.out.at_ 7
    simp at r0 r1 r2 r3 r4 r5 r6 r7
    have lr : gr < w5.heap.size := HR5.out.here
    have fr : ∀ i, w5.frozen? ⟨gr, i, none⟩ = false := HR5.out.free
    go_wp2_with fail
    obtain ⟨V, eV⟩ : ∃ V, V = ((((((((w5).setCell ⟨gr, 0, none⟩ (.int .i64 0)).setCell ⟨gr, 1, none⟩ (.int .i64 0)).setCell ⟨gr, 2, none⟩ (.int .i64 0)).setCell ⟨gr, 3, none⟩ (.int .i64 0)).setCell ⟨gr, 4, none⟩ (.int .i64 0)).setCell ⟨gr, 5, none⟩ (.slice none 0 0)).setCell ⟨gr, 6, none⟩ (.slice none 0 0)).setCell ⟨gr, 7, none⟩ (.slice none 0 0) := ⟨_, rfl⟩
    have hV : Has V gr 42 #[.int .i64 0, .int .i64 0, .int .i64 0, .int .i64 0, .int .i64 0, .slice none 0 0, .slice none 0 0, .slice none 0 0] := by rw [eV]; exact Has.put8 HR5.out (.int .i64 0) (.int .i64 0) (.int .i64 0) (.int .i64 0) (.int .i64 0) (.slice none 0 0) (.slice none 0 0) (.slice none 0 0)
    have kV : Below w.heap.size w V := by
     have kb : BuB (fun b => b = gr) w5 V := by rw [eV]; exact (But.put8 (But.rfl_ (fun b => b = gr) w5) (g := gr) (.inl rfl) (.int .i64 0) (.int .i64 0) (.int .i64 0) (.int .i64 0) (.int .i64 0) (.slice none 0 0) (.slice none 0 0) (.slice none 0 0)).bub
     exact BuB.below_ HK5.out kb HK5.out.size (fun b hb => by have hb : b = gr := hb; omega)
    have kU : BuB (fun b => b = gr) w5 V := by rw [eV]; exact (But.put8 (But.rfl_ (fun b => b = gr) w5) (g := gr) (.inl rfl) (.int .i64 0) (.int .i64 0) (.int .i64 0) (.int .i64 0) (.int .i64 0) (.slice none 0 0) (.slice none 0 0) (.slice none 0 0)).bub
    try rw [← eV]
    clear eV
    have q0 := hV.at_ 0
    have q1 := hV.at_ 1
    have q2 := hV.at_ 2
    have q3 := hV.at_ 3
    have q4 := hV.at_ 4
    have q5 := hV.at_ 5
    have q6 := hV.at_ 6
    have q7 := hV.at_ 7
    simp at q0 q1 q2 q3 q4 q5 q6 q7
    refine bodyPost_ret (v := .tuple #[.agg #[.int .i64 0, .int .i64 0, .int .i64 0, .int .i64 0, .int .i64 0, .slice none 0 0, .slice none 0 0, .slice none 0 0], .int .i64 3]) (by simp [results, Tryz.results25, go_sem, q0, q1, q2, q3, q4, q5, q6, q7]) rfl ?_
    exact ⟨3, G1, .inr (.inr (.inr ⟨H64.out, HAl.out, H62.out, HPr.out 3 G1 (by rw [HDr.out]; exact ⟨er, G1, HX5.out, .inl ⟨H3.out, rfl⟩⟩)⟩)), kV, .inl ⟨by decide, rfl⟩⟩
   ·have hq3 : (er == 3) = false := by simpa using h3
    have H3 := hid h3
    clear h3
    go_wp2_with fail
    go_roundg (n - (k + 1))
    case measure => omega
    case rel => exact ⟨k + 1, G1, by omega, by go_num, HK5.out, HV5.out, HG5.out, HC5.out, HR5.out, fun er' G' h => HPr.out er' G' (by rw [HDr.out]; exact ⟨er, G1, HX5.out, .inr ⟨H3.out, h⟩⟩)⟩
  ·have hkd : Hid (l.drop k = []) := List.drop_eq_nil_of_le (by rw [HLen.out]; omega)
   obtain ⟨ob', oj', oc', cb', cj', cc', hH, hL'⟩ := HVr.out
   have HH' := hid hH
   have HL' := hid hL'
   clear hH hL'
   obtain ⟨xtk, extk⟩ : ∃ z, Gk.tk = z := ⟨_, rfl⟩
   obtain ⟨xnb, exnb⟩ : ∃ z, Gk.P.nb = z := ⟨_, rfl⟩
   obtain ⟨xnj, exnj⟩ : ∃ z, Gk.P.nj = z := ⟨_, rfl⟩
   obtain ⟨xgx, exgx⟩ : ∃ z, Gk.gx = z := ⟨_, rfl⟩
   obtain ⟨xgy, exgy⟩ : ∃ z, Gk.gy = z := ⟨_, rfl⟩
   obtain ⟨lb, elb⟩ : ∃ z, Gk.P.B.length = z := ⟨_, rfl⟩
   obtain ⟨lj, elj⟩ : ∃ z, Gk.P.J.length = z := ⟨_, rfl⟩
   obtain ⟨lc, elc⟩ : ∃ z, Gk.P.C.length = z := ⟨_, rfl⟩
   rw [extk, exnb, exnj, exgx, exgy, elb, elj, elc] at HH'
   have HEq := hid (And.intro extk (And.intro exnb (And.intro exnj (And.intro exgx (And.intro exgy (And.intro elb (And.intro elj elc)))))))
   clear extk exnb exnj exgx exgy elb elj elc
   have b0 := HH'.out.at_ 0
   have b1 := HH'.out.at_ 1
   have b2 := HH'.out.at_ 2
   have b3 := HH'.out.at_ 3
   have b4 := HH'.out.at_ 4
   have b5 := HH'.out.at_ 5
   have b6 := HH'.out.at_ 6
   have b7 := HH'.out.at_ 7
   simp at b0 b1 b2 b3 b4 b5 b6 b7
   have lb' : gw < wr.heap.size := HH'.out.here
   have r0 := HRr.out.at_ 0
   have r1 := HRr.out.at_ 1
   have r2 := HRr.out.at_ 2
   have r3 := HRr.out.at_ 3
   have r4 := HRr.out.at_ 4
   have r5 := HRr.out.at_ 5
   have r6 := HRr.out.at_ 6
   have r7 := HRr.out.at_ 7
   simp at r0 r1 r2 r3 r4 r5 r6 r7
   have lr : gr < wr.heap.size := HRr.out.here
   have fr : ∀ i, wr.frozen? ⟨gr, i, none⟩ = false := HRr.out.free
   go_wp2_with fail
   obtain ⟨V, eV⟩ : ∃ V, V = ((((((((wr).setCell ⟨gr, 0, none⟩ (.int .i64 xtk)).setCell ⟨gr, 1, none⟩ (.int .i64 xnb)).setCell ⟨gr, 2, none⟩ (.int .i64 xnj)).setCell ⟨gr, 3, none⟩ (.int .i64 xgx)).setCell ⟨gr, 4, none⟩ (.int .i64 xgy)).setCell ⟨gr, 5, none⟩ (.slice ob' lb cb')).setCell ⟨gr, 6, none⟩ (.slice oj' lj cj')).setCell ⟨gr, 7, none⟩ (.slice oc' lc cc') := ⟨_, rfl⟩
   have hV : Has V gr 42 #[.int .i64 xtk, .int .i64 xnb, .int .i64 xnj, .int .i64 xgx, .int .i64 xgy, .slice ob' lb cb', .slice oj' lj cj', .slice oc' lc cc'] := by rw [eV]; exact Has.put8 HRr.out (.int .i64 xtk) (.int .i64 xnb) (.int .i64 xnj) (.int .i64 xgx) (.int .i64 xgy) (.slice ob' lb cb') (.slice oj' lj cj') (.slice oc' lc cc')
   have kV : Below w.heap.size w V := by
    have kb : BuB (fun b => b = gr) wr V := by rw [eV]; exact (But.put8 (But.rfl_ (fun b => b = gr) wr) (g := gr) (.inl rfl) (.int .i64 xtk) (.int .i64 xnb) (.int .i64 xnj) (.int .i64 xgx) (.int .i64 xgy) (.slice ob' lb cb') (.slice oj' lj cj') (.slice oc' lc cc')).bub
    exact BuB.below_ HKr.out kb HKr.out.size (fun b hb => by have hb : b = gr := hb; omega)
   have kU : BuB (fun b => b = gr) wr V := by rw [eV]; exact (But.put8 (But.rfl_ (fun b => b = gr) wr) (g := gr) (.inl rfl) (.int .i64 xtk) (.int .i64 xnb) (.int .i64 xnj) (.int .i64 xgx) (.int .i64 xgy) (.slice ob' lb cb') (.slice oj' lj cj') (.slice oc' lc cc')).bub
   try rw [← eV]
   clear eV
   have q0 := hV.at_ 0
   have q1 := hV.at_ 1
   have q2 := hV.at_ 2
   have q3 := hV.at_ 3
   have q4 := hV.at_ 4
   have q5 := hV.at_ 5
   have q6 := hV.at_ 6
   have q7 := hV.at_ 7
   simp at q0 q1 q2 q3 q4 q5 q6 q7
   refine bodyPost_ret (v := .tuple #[.agg #[.int .i64 xtk, .int .i64 xnb, .int .i64 xnj, .int .i64 xgx, .int .i64 xgy, .slice ob' lb cb', .slice oj' lj cj', .slice oc' lc cc'], .int .i64 0]) (by simp [results, Tryz.results25, go_sem, q0, q1, q2, q3, q4, q5, q6, q7]) rfl ?_
   refine ⟨0, Gk, .inr (.inr (.inr ⟨H64.out, HAl.out, H62.out, HPr.out 0 Gk (by rw [hkd.out]; exact ⟨rfl, rfl⟩)⟩)), kV, .inr ⟨rfl, HGr.out, HCr.out, ob', oj', oc', cb', cj', cc', ?_, (HL'.out.bub kU (fun b hb => .inr (.inr hb))).free (Y := X0) (fun b hb => .inl (.inl hb))⟩⟩
   obtain ⟨e1, e2, e3, e4, e5, e6, e7, e8⟩ := HEq.out
   rw [e1, e2, e3, e4, e5, e6, e7, e8]
end Go.Proofs.YtjecadafjnbijaaGreat.Fx