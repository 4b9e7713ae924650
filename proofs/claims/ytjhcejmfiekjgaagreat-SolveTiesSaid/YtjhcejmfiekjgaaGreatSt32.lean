/- Open OpD -/
import Derived.Test.YtjhcejmfiekjgaaGreatSt4
import Derived.Test.YtjhcejmfiekjgaaGreatSt16
import Derived.Deep.SlicePairs
import Derived.Deep.Slices
import Derived.ChangeArms
import Derived.Deep.Strs
set_option maxRecDepth 100000
set_option maxHeartbeats 64000000
/- What a slice of vectors that came in holds. -/
namespace Go.Proofs.YtjhcejmfiekjgaaGreat.Fx
open Go.ChangeShapes Go.WideShapes Go.ChangeAt Go.RowKit Go.Deep
set_option linter.unusedVariables false
section
variable {H : Type} {enc : TypeId × Value → H} {w : World} {base : Nat} {spare : Nat → Bool} {held : Bool}
theorem open_pts {fuel : Nat} {v : Value} {y : DataW H × List MemPlace} (h : DataW.trod enc Tryz.prog w base spare held fuel 39 [v] = some y) :
  ∃ ao len cap f, v = .slice ao len cap ∧ Sl w ao len f ∧ Cin f len := by
 rcases open_slice_pairs Tryz.underlying39 Tryz.underlying26 (by kernel_rfl) rfl rfl (by kernel_rfl) (by kernel_rfl) h with ⟨hcs, _⟩ | ⟨a, len, cap, m, n, V0, V1, D0, D1, P0, P1, hcs, _, _, _, hm, _, hf⟩
 ·simp at hcs
  exact ⟨none, 0, 0, fun _ => (0, 0), hcs, fun h => absurd h (by omega), fun i hi => absurd hi (by omega)⟩
 ·simp at hcs
  have hlm : len ≤ m := by rw [hm]; split <;> omega
  obtain ⟨f, hc⟩ := choose_lt (α := Int × Int) (n := len) (p := fun i x => (w.cell? (a.add (i * 2)) = some (.int .i64 x.1) ∧ w.cell? (a.add (i * 2 + 1)) = some (.int .i64 x.2)) ∧ I64 x.1 ∧ I64 x.2) (fun i hi => by
   obtain ⟨c0, c1, t0, t1⟩ := hf i (by omega)
   obtain ⟨x, ex, _, wx⟩ := DataW.trod_int Tryz.underlying24 t0
   obtain ⟨z, ez, _, wz⟩ := DataW.trod_int Tryz.underlying24 t1
   simp at ex ez
   rw [ex] at c0
   rw [ez] at c1
   exact ⟨(x, z), ⟨c0, c1⟩, I64_wf wx, I64_wf wz⟩)
  refine ⟨some a, len, cap, f, hcs, fun h0 => ?_, fun i hi => (hc i hi).2⟩
  obtain ⟨b, off, spot⟩ := a
  have hspot : spot = none := by simpa [Addr.add] using World.cell?_spot (hc 0 h0).1.1
  subst hspot
  refine ⟨b, off, rfl, fun i hi => ?_⟩
  have := (hc i hi).1
  rw [Addr.add_lit, Addr.add_lit] at this
  exact ⟨this.1, by rw [Nat.add_assoc]; exact this.2⟩
end
end Go.Proofs.YtjhcejmfiekjgaaGreat.Fx
/- Slices of deeds, contacts and bytes, and bodies, that came in. -/
namespace Go.Proofs.YtjhcejmfiekjgaaGreat.Fx
open Go.ChangeShapes Go.WideShapes Go.ChangeAt Go.RowKit Go.Deep
set_option linter.unusedVariables false
theorem fld_some {β : Type} {xs : List β} {i n : Nat} (hlen : xs.length = n) (hi : i < n) {o : Option β} (h : o = xs[i]?) : ∃ y, o = some y := ⟨xs[i]'(by omega), by rw [h]; exact List.getElem?_eq_getElem (by omega)⟩
instance : Inhabited De := ⟨⟨0, 0, 0, 0, 0, 0, 0, 0, 0, 0, 0, 0, 0, 0, 0, 0, 0, 0, 0, 0, 0, 0, 0, 0, 0, 0, 0, 0, 0, none, 0, 0, fun _ => (0, 0)⟩⟩
instance : Inhabited Ct := ⟨⟨0, 0, 0, 0, 0⟩⟩
def DesIn (w : World) (ao : Option Addr) (n c : Nat) (l : List De) : Prop := DesAt w ao l ∧ l.length = n ∧ n ≤ c ∧ c ≤ maxLen ∧ ((ao = none ∧ n = 0 ∧ c = 0) ∨ ∃ a, ao = some a)
def U8In (w : World) (ao : Option Addr) (n c : Nat) (f : Nat → Int) : Prop := U8At w ao n f ∧ n ≤ c ∧ c ≤ maxLen
def CtsIn (w : World) (ao : Option Addr) (n c : Nat) (l : List Ct) : Prop := LsT encC 5 w ao l ∧ l.length = n ∧ n ≤ c ∧ c ≤ maxLen ∧ (∀ x ∈ l, CtI x) ∧ ((ao = none ∧ n = 0 ∧ c = 0) ∨ ∃ a, ao = some a)
section
variable {H : Type} {enc : TypeId × Value → H} {w : World} {base : Nat} {spare : Nat → Bool} {held : Bool}
theorem i64_wf' {a : Int} (h : (Lit.int .i64 a).wf = true) : I64 a := by
 have := bounds_i64 h
 unfold I64; omega
theorem open_pts' {fuel : Nat} {v : Value} {y : DataW H × List MemPlace} (h : DataW.trod enc Tryz.prog w base spare held fuel 39 [v] = some y) :
  ∃ ao len cap f, v = .slice ao len cap ∧ Sl w ao len f ∧ Cin f len ∧ ((ao = none ∧ len = 0 ∧ cap = 0) ∨ ∃ a, ao = some a) := by
 obtain ⟨ao, len, cap, f, e, h1, h2⟩ := open_pts h
 refine ⟨ao, len, cap, f, e, h1, h2, ?_⟩
 rcases open_slice Tryz.underlying39 h with ⟨hcs, _⟩ | ⟨a, len', cap', m, n, D, Pl, hcs, _⟩
 ·simp at hcs
  rw [hcs] at e
  cases e
  exact .inl ⟨rfl, rfl, rfl⟩
 ·simp at hcs
  rw [hcs] at e
  cases e
  exact .inr ⟨a, rfl⟩
theorem open_deed {fuel : Nat} {cs : List Value} {y : DataW H × List MemPlace} (h : DataW.trod enc Tryz.prog w base spare held fuel 74 cs = some y) : ∃ d : De, cs = encD d ∧ DeI d ∧ Sl w d.rao d.rn d.rf := by
 have cint : Tryz.prog.cellsOf 3 = 1 := by kernel_rfl
 have cF : Tryz.prog.cellsOf 24 = 1 := by kernel_rfl
 have cV : Tryz.prog.cellsOf 26 = 2 := by kernel_rfl
 have cP : Tryz.prog.cellsOf 72 = 7 := by kernel_rfl
 have cS : Tryz.prog.cellsOf 70 = 4 := by kernel_rfl
 have cB : Tryz.prog.cellsOf 43 = 11 := by kernel_rfl
 have cH : Tryz.prog.cellsOf 41 = 3 := by kernel_rfl
 have cL : Tryz.prog.cellsOf 39 = 1 := by kernel_rfl
 have hl : cs.length = 30 := by
  obtain ⟨_, _, _, _, hl, _⟩ := DataW.trod_struct Tryz.underlying74 h
  rw [hl]
  kernel_rfl
 match cs, hl with
 | [v0, v1, v2, v3, v4, v5, v6, v7, v8, v9, v10, v11, v12, v13, v14, v15, v16, v17, v18, v19, v20, v21, v22, v23, v24, v25, v26, v27, v28, v29], _ =>
  obtain ⟨xs1, n1, _, _, hl1, hlen1, hf1⟩ := DataW.trod_struct Tryz.underlying74 h
  obtain ⟨y1_0, g1_0⟩ := fld_some hlen1 (by simp) (hf1 0 _ rfl)
  have g1_0 : DataW.trod enc Tryz.prog w base spare held n1 3 [v0] = some y1_0 := by simpa [cint] using g1_0
  obtain ⟨a0, ea0, _, wa0⟩ := DataW.trod_int Tryz.underlying3 g1_0
  simp at ea0
  have wa0 := i64_wf' wa0
  obtain ⟨y1_1, g1_1⟩ := fld_some hlen1 (by simp) (hf1 1 _ rfl)
  have g1_1 : DataW.trod enc Tryz.prog w base spare held n1 72 [v1, v2, v3, v4, v5, v6, v7] = some y1_1 := by simpa [cP] using g1_1
  obtain ⟨xs2, n2, _, _, hl2, hlen2, hf2⟩ := DataW.trod_struct Tryz.underlying72 g1_1
  obtain ⟨y2_0, g2_0⟩ := fld_some hlen2 (by simp) (hf2 0 _ rfl)
  have g2_0 : DataW.trod enc Tryz.prog w base spare held n2 70 [v1, v2, v3, v4] = some y2_0 := by simpa [cS] using g2_0
  obtain ⟨xs3, n3, _, _, hl3, hlen3, hf3⟩ := DataW.trod_struct Tryz.underlying70 g2_0
  obtain ⟨y3_0, g3_0⟩ := fld_some hlen3 (by simp) (hf3 0 _ rfl)
  have g3_0 : DataW.trod enc Tryz.prog w base spare held n3 3 [v1] = some y3_0 := by simpa [cint] using g3_0
  obtain ⟨a1, ea1, _, wa1⟩ := DataW.trod_int Tryz.underlying3 g3_0
  simp at ea1
  have wa1 := i64_wf' wa1
  obtain ⟨y3_1, g3_1⟩ := fld_some hlen3 (by simp) (hf3 1 _ rfl)
  have g3_1 : DataW.trod enc Tryz.prog w base spare held n3 3 [v2] = some y3_1 := by simpa [cint] using g3_1
  obtain ⟨a2, ea2, _, wa2⟩ := DataW.trod_int Tryz.underlying3 g3_1
  simp at ea2
  have wa2 := i64_wf' wa2
  obtain ⟨y3_2, g3_2⟩ := fld_some hlen3 (by simp) (hf3 2 _ rfl)
  have g3_2 : DataW.trod enc Tryz.prog w base spare held n3 3 [v3] = some y3_2 := by simpa [cint] using g3_2
  obtain ⟨a3, ea3, _, wa3⟩ := DataW.trod_int Tryz.underlying3 g3_2
  simp at ea3
  have wa3 := i64_wf' wa3
  obtain ⟨y3_3, g3_3⟩ := fld_some hlen3 (by simp) (hf3 3 _ rfl)
  have g3_3 : DataW.trod enc Tryz.prog w base spare held n3 3 [v4] = some y3_3 := by simpa [cint] using g3_3
  obtain ⟨a4, ea4, _, wa4⟩ := DataW.trod_int Tryz.underlying3 g3_3
  simp at ea4
  have wa4 := i64_wf' wa4
  obtain ⟨y2_1, g2_1⟩ := fld_some hlen2 (by simp) (hf2 1 _ rfl)
  have g2_1 : DataW.trod enc Tryz.prog w base spare held n2 26 [v5, v6] = some y2_1 := by simpa [cV] using g2_1
  obtain ⟨xs4, n4, _, _, hl4, hlen4, hf4⟩ := DataW.trod_struct Tryz.underlying26 g2_1
  obtain ⟨y4_0, g4_0⟩ := fld_some hlen4 (by simp) (hf4 0 _ rfl)
  have g4_0 : DataW.trod enc Tryz.prog w base spare held n4 24 [v5] = some y4_0 := by simpa [cF] using g4_0
  obtain ⟨a5, ea5, _, wa5⟩ := DataW.trod_int Tryz.underlying24 g4_0
  simp at ea5
  have wa5 := i64_wf' wa5
  obtain ⟨y4_1, g4_1⟩ := fld_some hlen4 (by simp) (hf4 1 _ rfl)
  have g4_1 : DataW.trod enc Tryz.prog w base spare held n4 24 [v6] = some y4_1 := by simpa [cF] using g4_1
  obtain ⟨a6, ea6, _, wa6⟩ := DataW.trod_int Tryz.underlying24 g4_1
  simp at ea6
  have wa6 := i64_wf' wa6
  obtain ⟨y2_2, g2_2⟩ := fld_some hlen2 (by simp) (hf2 2 _ rfl)
  have g2_2 : DataW.trod enc Tryz.prog w base spare held n2 24 [v7] = some y2_2 := by simpa [cF] using g2_2
  obtain ⟨a7, ea7, _, wa7⟩ := DataW.trod_int Tryz.underlying24 g2_2
  simp at ea7
  have wa7 := i64_wf' wa7
  obtain ⟨y1_2, g1_2⟩ := fld_some hlen1 (by simp) (hf1 2 _ rfl)
  have g1_2 : DataW.trod enc Tryz.prog w base spare held n1 26 [v8, v9] = some y1_2 := by simpa [cV] using g1_2
  obtain ⟨xs5, n5, _, _, hl5, hlen5, hf5⟩ := DataW.trod_struct Tryz.underlying26 g1_2
  obtain ⟨y5_0, g5_0⟩ := fld_some hlen5 (by simp) (hf5 0 _ rfl)
  have g5_0 : DataW.trod enc Tryz.prog w base spare held n5 24 [v8] = some y5_0 := by simpa [cF] using g5_0
  obtain ⟨a8, ea8, _, wa8⟩ := DataW.trod_int Tryz.underlying24 g5_0
  simp at ea8
  have wa8 := i64_wf' wa8
  obtain ⟨y5_1, g5_1⟩ := fld_some hlen5 (by simp) (hf5 1 _ rfl)
  have g5_1 : DataW.trod enc Tryz.prog w base spare held n5 24 [v9] = some y5_1 := by simpa [cF] using g5_1
  obtain ⟨a9, ea9, _, wa9⟩ := DataW.trod_int Tryz.underlying24 g5_1
  simp at ea9
  have wa9 := i64_wf' wa9
  obtain ⟨y1_3, g1_3⟩ := fld_some hlen1 (by simp) (hf1 3 _ rfl)
  have g1_3 : DataW.trod enc Tryz.prog w base spare held n1 24 [v10] = some y1_3 := by simpa [cF] using g1_3
  obtain ⟨a10, ea10, _, wa10⟩ := DataW.trod_int Tryz.underlying24 g1_3
  simp at ea10
  have wa10 := i64_wf' wa10
  obtain ⟨y1_4, g1_4⟩ := fld_some hlen1 (by simp) (hf1 4 _ rfl)
  have g1_4 : DataW.trod enc Tryz.prog w base spare held n1 24 [v11] = some y1_4 := by simpa [cF] using g1_4
  obtain ⟨a11, ea11, _, wa11⟩ := DataW.trod_int Tryz.underlying24 g1_4
  simp at ea11
  have wa11 := i64_wf' wa11
  obtain ⟨y1_5, g1_5⟩ := fld_some hlen1 (by simp) (hf1 5 _ rfl)
  have g1_5 : DataW.trod enc Tryz.prog w base spare held n1 3 [v12] = some y1_5 := by simpa [cint] using g1_5
  obtain ⟨a12, ea12, _, wa12⟩ := DataW.trod_int Tryz.underlying3 g1_5
  simp at ea12
  have wa12 := i64_wf' wa12
  obtain ⟨y1_6, g1_6⟩ := fld_some hlen1 (by simp) (hf1 6 _ rfl)
  have g1_6 : DataW.trod enc Tryz.prog w base spare held n1 3 [v13] = some y1_6 := by simpa [cint] using g1_6
  obtain ⟨a13, ea13, _, wa13⟩ := DataW.trod_int Tryz.underlying3 g1_6
  simp at ea13
  have wa13 := i64_wf' wa13
  obtain ⟨y1_7, g1_7⟩ := fld_some hlen1 (by simp) (hf1 7 _ rfl)
  have g1_7 : DataW.trod enc Tryz.prog w base spare held n1 26 [v14, v15] = some y1_7 := by simpa [cV] using g1_7
  obtain ⟨xs6, n6, _, _, hl6, hlen6, hf6⟩ := DataW.trod_struct Tryz.underlying26 g1_7
  obtain ⟨y6_0, g6_0⟩ := fld_some hlen6 (by simp) (hf6 0 _ rfl)
  have g6_0 : DataW.trod enc Tryz.prog w base spare held n6 24 [v14] = some y6_0 := by simpa [cF] using g6_0
  obtain ⟨a14, ea14, _, wa14⟩ := DataW.trod_int Tryz.underlying24 g6_0
  simp at ea14
  have wa14 := i64_wf' wa14
  obtain ⟨y6_1, g6_1⟩ := fld_some hlen6 (by simp) (hf6 1 _ rfl)
  have g6_1 : DataW.trod enc Tryz.prog w base spare held n6 24 [v15] = some y6_1 := by simpa [cF] using g6_1
  obtain ⟨a15, ea15, _, wa15⟩ := DataW.trod_int Tryz.underlying24 g6_1
  simp at ea15
  have wa15 := i64_wf' wa15
  obtain ⟨y1_8, g1_8⟩ := fld_some hlen1 (by simp) (hf1 8 _ rfl)
  have g1_8 : DataW.trod enc Tryz.prog w base spare held n1 26 [v16, v17] = some y1_8 := by simpa [cV] using g1_8
  obtain ⟨xs7, n7, _, _, hl7, hlen7, hf7⟩ := DataW.trod_struct Tryz.underlying26 g1_8
  obtain ⟨y7_0, g7_0⟩ := fld_some hlen7 (by simp) (hf7 0 _ rfl)
  have g7_0 : DataW.trod enc Tryz.prog w base spare held n7 24 [v16] = some y7_0 := by simpa [cF] using g7_0
  obtain ⟨a16, ea16, _, wa16⟩ := DataW.trod_int Tryz.underlying24 g7_0
  simp at ea16
  have wa16 := i64_wf' wa16
  obtain ⟨y7_1, g7_1⟩ := fld_some hlen7 (by simp) (hf7 1 _ rfl)
  have g7_1 : DataW.trod enc Tryz.prog w base spare held n7 24 [v17] = some y7_1 := by simpa [cF] using g7_1
  obtain ⟨a17, ea17, _, wa17⟩ := DataW.trod_int Tryz.underlying24 g7_1
  simp at ea17
  have wa17 := i64_wf' wa17
  obtain ⟨y1_9, g1_9⟩ := fld_some hlen1 (by simp) (hf1 9 _ rfl)
  have g1_9 : DataW.trod enc Tryz.prog w base spare held n1 24 [v18] = some y1_9 := by simpa [cF] using g1_9
  obtain ⟨a18, ea18, _, wa18⟩ := DataW.trod_int Tryz.underlying24 g1_9
  simp at ea18
  have wa18 := i64_wf' wa18
  obtain ⟨y1_10, g1_10⟩ := fld_some hlen1 (by simp) (hf1 10 _ rfl)
  have g1_10 : DataW.trod enc Tryz.prog w base spare held n1 43 [v19, v20, v21, v22, v23, v24, v25, v26, v27, v28, v29] = some y1_10 := by simpa [cB] using g1_10
  obtain ⟨xs8, n8, _, _, hl8, hlen8, hf8⟩ := DataW.trod_struct Tryz.underlying43 g1_10
  obtain ⟨y8_0, g8_0⟩ := fld_some hlen8 (by simp) (hf8 0 _ rfl)
  have g8_0 : DataW.trod enc Tryz.prog w base spare held n8 3 [v19] = some y8_0 := by simpa [cint] using g8_0
  obtain ⟨a19, ea19, _, wa19⟩ := DataW.trod_int Tryz.underlying3 g8_0
  simp at ea19
  have wa19 := i64_wf' wa19
  obtain ⟨y8_1, g8_1⟩ := fld_some hlen8 (by simp) (hf8 1 _ rfl)
  have g8_1 : DataW.trod enc Tryz.prog w base spare held n8 26 [v20, v21] = some y8_1 := by simpa [cV] using g8_1
  obtain ⟨xs9, n9, _, _, hl9, hlen9, hf9⟩ := DataW.trod_struct Tryz.underlying26 g8_1
  obtain ⟨y9_0, g9_0⟩ := fld_some hlen9 (by simp) (hf9 0 _ rfl)
  have g9_0 : DataW.trod enc Tryz.prog w base spare held n9 24 [v20] = some y9_0 := by simpa [cF] using g9_0
  obtain ⟨a20, ea20, _, wa20⟩ := DataW.trod_int Tryz.underlying24 g9_0
  simp at ea20
  have wa20 := i64_wf' wa20
  obtain ⟨y9_1, g9_1⟩ := fld_some hlen9 (by simp) (hf9 1 _ rfl)
  have g9_1 : DataW.trod enc Tryz.prog w base spare held n9 24 [v21] = some y9_1 := by simpa [cF] using g9_1
  obtain ⟨a21, ea21, _, wa21⟩ := DataW.trod_int Tryz.underlying24 g9_1
  simp at ea21
  have wa21 := i64_wf' wa21
  obtain ⟨y8_2, g8_2⟩ := fld_some hlen8 (by simp) (hf8 2 _ rfl)
  have g8_2 : DataW.trod enc Tryz.prog w base spare held n8 26 [v22, v23] = some y8_2 := by simpa [cV] using g8_2
  obtain ⟨xs10, n10, _, _, hl10, hlen10, hf10⟩ := DataW.trod_struct Tryz.underlying26 g8_2
  obtain ⟨y10_0, g10_0⟩ := fld_some hlen10 (by simp) (hf10 0 _ rfl)
  have g10_0 : DataW.trod enc Tryz.prog w base spare held n10 24 [v22] = some y10_0 := by simpa [cF] using g10_0
  obtain ⟨a22, ea22, _, wa22⟩ := DataW.trod_int Tryz.underlying24 g10_0
  simp at ea22
  have wa22 := i64_wf' wa22
  obtain ⟨y10_1, g10_1⟩ := fld_some hlen10 (by simp) (hf10 1 _ rfl)
  have g10_1 : DataW.trod enc Tryz.prog w base spare held n10 24 [v23] = some y10_1 := by simpa [cF] using g10_1
  obtain ⟨a23, ea23, _, wa23⟩ := DataW.trod_int Tryz.underlying24 g10_1
  simp at ea23
  have wa23 := i64_wf' wa23
  obtain ⟨y8_3, g8_3⟩ := fld_some hlen8 (by simp) (hf8 3 _ rfl)
  have g8_3 : DataW.trod enc Tryz.prog w base spare held n8 24 [v24] = some y8_3 := by simpa [cF] using g8_3
  obtain ⟨a24, ea24, _, wa24⟩ := DataW.trod_int Tryz.underlying24 g8_3
  simp at ea24
  have wa24 := i64_wf' wa24
  obtain ⟨y8_4, g8_4⟩ := fld_some hlen8 (by simp) (hf8 4 _ rfl)
  have g8_4 : DataW.trod enc Tryz.prog w base spare held n8 24 [v25] = some y8_4 := by simpa [cF] using g8_4
  obtain ⟨a25, ea25, _, wa25⟩ := DataW.trod_int Tryz.underlying24 g8_4
  simp at ea25
  have wa25 := i64_wf' wa25
  obtain ⟨y8_5, g8_5⟩ := fld_some hlen8 (by simp) (hf8 5 _ rfl)
  have g8_5 : DataW.trod enc Tryz.prog w base spare held n8 24 [v26] = some y8_5 := by simpa [cF] using g8_5
  obtain ⟨a26, ea26, _, wa26⟩ := DataW.trod_int Tryz.underlying24 g8_5
  simp at ea26
  have wa26 := i64_wf' wa26
  obtain ⟨y8_6, g8_6⟩ := fld_some hlen8 (by simp) (hf8 6 _ rfl)
  have g8_6 : DataW.trod enc Tryz.prog w base spare held n8 41 [v27, v28, v29] = some y8_6 := by simpa [cH] using g8_6
  obtain ⟨xs11, n11, _, _, hl11, hlen11, hf11⟩ := DataW.trod_struct Tryz.underlying41 g8_6
  obtain ⟨y11_0, g11_0⟩ := fld_some hlen11 (by simp) (hf11 0 _ rfl)
  have g11_0 : DataW.trod enc Tryz.prog w base spare held n11 3 [v27] = some y11_0 := by simpa [cint] using g11_0
  obtain ⟨a27, ea27, _, wa27⟩ := DataW.trod_int Tryz.underlying3 g11_0
  simp at ea27
  have wa27 := i64_wf' wa27
  obtain ⟨y11_1, g11_1⟩ := fld_some hlen11 (by simp) (hf11 1 _ rfl)
  have g11_1 : DataW.trod enc Tryz.prog w base spare held n11 24 [v28] = some y11_1 := by simpa [cF] using g11_1
  obtain ⟨a28, ea28, _, wa28⟩ := DataW.trod_int Tryz.underlying24 g11_1
  simp at ea28
  have wa28 := i64_wf' wa28
  obtain ⟨y11_2, g11_2⟩ := fld_some hlen11 (by simp) (hf11 2 _ rfl)
  have g11_2 : DataW.trod enc Tryz.prog w base spare held n11 39 [v29] = some y11_2 := by simpa [cL] using g11_2
  obtain ⟨so29, sn29, sc29, sf29, es29, ss29, si29, sk29⟩ := open_pts' g11_2
  exact ⟨⟨a0, a1, a2, a3, a4, a5, a6, a7, a8, a9, a10, a11, a12, a13, a14, a15, a16, a17, a18, a19, a20, a21, a22, a23, a24, a25, a26, a27, a28, so29, sn29, sc29, sf29⟩, by rw [ea0, ea1, ea2, ea3, ea4, ea5, ea6, ea7, ea8, ea9, ea10, ea11, ea12, ea13, ea14, ea15, ea16, ea17, ea18, ea19, ea20, ea21, ea22, ea23, ea24, ea25, ea26, ea27, ea28, es29]; rfl, ⟨wa0, wa1, wa2, wa3, wa4, wa5, wa6, wa7, wa8, wa9, wa10, wa11, wa12, wa13, wa14, wa15, wa16, wa17, wa18, ⟨wa19, wa20, wa21, wa22, wa23, wa24, wa25, wa26, wa27, wa28, si29⟩, sk29⟩, ss29⟩
theorem open_deeds {fuel : Nat} {v : Value} {y : DataW H × List MemPlace} (h : DataW.trod enc Tryz.prog w base spare held fuel 22 [v] = some y) :
  ∃ ao n c l, v = .slice ao n c ∧ DesIn w ao n c l := by
 have ck : Tryz.prog.cellsOf 74 = 30 := by kernel_rfl
 rcases open_slice Tryz.underlying22 h with ⟨hcs, _⟩ | ⟨a, len, cap, m, n, D, Pl, hcs, hb, hlc, hmx, hm, _, hx⟩
 ·simp at hcs
  exact ⟨none, 0, 0, [], hcs, ⟨⟨fun h => absurd h (by simp), fun d hd => by simp at hd⟩, rfl, Nat.le_refl _, by unfold maxLen; omega, .inl ⟨rfl, rfl, rfl⟩⟩⟩
 ·simp at hcs
  rw [ck] at hx
  have hlm : len ≤ m := by rw [hm]; split <;> omega
  obtain ⟨f, hf⟩ := choose_lt (α := De) (n := len) (p := fun i x => (∀ j v, (encD x)[j]? = some v → w.cell? ((a.add (i * 30)).add j) = some v) ∧ DeI x ∧ Sl w x.rao x.rn x.rf) (fun i hi => by
   obtain ⟨cs', h1, h2⟩ := hx i (by omega)
   obtain ⟨_, hlen, hcell⟩ := World.cells?_some h1
   obtain ⟨x, ex, hI⟩ := open_deed h2
   refine ⟨x, fun j v hv => ?_, hI⟩
   have hj : j < 30 := by
    have := (List.getElem?_eq_some_iff.1 hv).1
    rwa [encD_len] at this
   rw [hcell j hj, ex]
   exact hv)
  have hL : LsT encD 30 w (some a) ((List.range len).map f) := fun h0 => by
   obtain ⟨b, off, spot⟩ := a
   have hl0 : 0 < len := by simpa using h0
   have q0 := (hf 0 hl0).1 0 _ rfl
   have hspot : spot = none := by simpa [Addr.add] using World.cell?_spot q0
   subst hspot
   refine ⟨b, off, rfl, ?_, fun i x hi j v hv => ?_⟩
   ·have := World.block_lt_of_cell? _ _ q0
    simpa [Addr.add_lit] using this
   ·have hi' : i < len := by
     have := (List.getElem?_eq_some_iff.1 hi).1
     simpa using this
    have ex : f i = x := by
     rw [List.getElem?_map, List.getElem?_range hi'] at hi
     simpa using hi
    have := (hf i hi').1 j v (by rw [ex]; exact hv)
    rw [Addr.add_lit, Addr.add_lit] at this
    exact this
  refine ⟨some a, len, cap, (List.range len).map f, hcs, ⟨⟨hL, fun d hd => ?_⟩, by simp, hlc, hmx, .inr ⟨a, rfl⟩⟩⟩
  obtain ⟨i, hi, rfl⟩ := List.mem_map.1 hd
  exact (hf i (List.mem_range.1 hi)).2
end
end Go.Proofs.YtjhcejmfiekjgaaGreat.Fx