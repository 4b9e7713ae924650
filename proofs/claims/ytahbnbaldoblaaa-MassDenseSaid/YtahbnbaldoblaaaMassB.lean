/- The statements' own 'round', of a polygon. -/
import Derived.Test.YtahbnbaldoblaaaMassA
namespace Go.Proofs.Ytahbnbaldoblaaa.Fx
open Go.ChangeShapes Go.WideShapes Go.ChangeAt Go.RowKit
set_option linter.unusedVariables false

set_option maxRecDepth 100000 in
set_option maxHeartbeats 2000000 in
theorem lround_is (K R : Int) (b off n cap : Nat) (f : Cs) (w : World) (hK : K ≠ 1) (h0 : 0 < n) (h8 : n ≤ 8) (hP : Pts w b off n f) (hi : Cin f n) :
    Calls Try.prog 12 #[shapeV K R (.slice (some ⟨b, off, none⟩) n cap)] w fun e w' => e = .returned (.int .i64 (sumT roundT f n n)) ∧ Made w.heap.size w w' := by
  have HP := hid hP
  have HI := hid hi
  have hk1 : (K == 1) = false := by simpa using hK
  clear hP hi hK
  go_enter Try.func12, Try.ntmps12
  go_wp2_with fail
  go_loopg [3, 23] n (fun g s t wr => ∃ k : Nat, k + g = n ∧ t = .int .i64 k ∧ s = .int .i64 (sumT roundT f n k) ∧ Hid (Has wr w.heap.size 28 #[.int .i64 K, .int .i64 R, .slice (some ⟨b, off, none⟩) n cap]) ∧ Hid (Made w.heap.size w wr))
  case atStart => exact ⟨0, by omega, rfl, rfl, has_new _ _ _, (Made.rfl_ _ _).cells (Nat.le_refl _) _ _⟩
  case round =>
    obtain ⟨k, hk, rfl, rfl, HT, HM⟩ := hrel
    by_cases hlt : k < n
    · obtain ⟨j, ej⟩ : ∃ j, (k + 1) % n = j := ⟨_, rfl⟩
      have hj : j < n := by rw [← ej]; exact Nat.mod_lt _ h0
      have hm : ((k : Int) + 1).tmod (n : Int) = (j : Int) := by
        rw [Int.tmod_eq_emod_of_nonneg (by omega), ← ej, Int.natCast_emod, Int.natCast_add]
        rfl
      have HS : Hid (sumT roundT f n (k + 1) = addF (sumT roundT f n k) (roundT (f k) (f j))) := by rw [← ej]; rfl
      obtain ⟨i0, i1⟩ := HI.out k hlt
      obtain ⟨i2, i3⟩ := HI.out j hj
      have c0 := HM.out.reads (HP.out k hlt).1
      have c1 := HM.out.reads (HP.out k hlt).2
      have d0 := HM.out.reads (HP.out j hj).1
      have d1 := HM.out.reads (HP.out j hj).2
      have iS := sumT_i64 roundT f n k
      obtain ⟨S1, eS1⟩ : ∃ s, sumT roundT f n (k + 1) = s := ⟨_, rfl⟩
      rw [eS1] at HS
      have ES1 := hid eS1
      clear eS1
      generalize sumT roundT f n k = S at *
      generalize f k = p at *
      generalize f j = q at *
      obtain ⟨p0, p1⟩ := p
      obtain ⟨q0, q1⟩ := q
      simp only [] at i0 i1 i2 i3 c0 c1 d0 d1
      obtain ⟨u, eu⟩ : ∃ u, addF (mulF p0 p0) (mulF p1 p1) = u := ⟨_, rfl⟩
      obtain ⟨v, ev⟩ : ∃ v, addF (mulF p0 q0) (mulF p1 q1) = v := ⟨_, rfl⟩
      obtain ⟨z, ez⟩ : ∃ z, addF (mulF q0 q0) (mulF q1 q1) = z := ⟨_, rfl⟩
      obtain ⟨uv, euv⟩ : ∃ uv, addF u v = uv := ⟨_, rfl⟩
      obtain ⟨d, ed⟩ : ∃ d, addF uv z = d := ⟨_, rfl⟩
      obtain ⟨c, ec⟩ : ∃ c, subF (mulF p0 q1) (mulF p1 q0) = c := ⟨_, rfl⟩
      obtain ⟨m, em⟩ : ∃ m, mulF c d = m := ⟨_, rfl⟩
      obtain ⟨t, et⟩ : ∃ t, divF m 51539607552 = t := ⟨_, rfl⟩
      have iu : I64 u := by rw [← eu]; exact i64_add _ _
      have iv : I64 v := by rw [← ev]; exact i64_add _ _
      have iz : I64 z := by rw [← ez]; exact i64_add _ _
      have iuv : I64 uv := by rw [← euv]; exact i64_add _ _
      have id_ : I64 d := by rw [← ed]; exact i64_add _ _
      have ic : I64 c := by rw [← ec]; exact i64_sub _ _
      have im : I64 m := by rw [← em]; exact i64_mul _ _
      have it : I64 t := by rw [← et]; exact i64_div _ _
      have iG : I64 51539607552 := by unfold I64; omega
      have hS1 : addF S t = S1 := by rw [HS.out, ← et, ← em, ← ec, ← ed, ← euv, ← ez, ← ev, ← eu]; rfl
      have EU := hid eu
      have EV := hid ev
      have EZ := hid ez
      have EUV := hid euv
      have ED := hid ed
      have EC := hid ec
      have EM := hid em
      have ET := hid et
      have ES := hid hS1
      have EJ := hid ej
      clear eu ev ez euv ed ec em et hS1 ej HS
      have b2 := HT.out.at_ 2
      have hb : b < wr.heap.size := World.block_lt_of_cell? _ _ c0
      have hg := HT.out.here
      go_wp2_with fail
      refine reg_float1 10 59 6 34 #[.int .i64 0, .int .i64 0] _ (by kernel_rfl) (by kernel_rfl) (by kernel_rfl) rfl rfl alc_V ?_
      apply Exists.intro
      refine ⟨?h1, ?h2⟩
      case h1 =>
        intro T hT fw hf
        have y0 := Class.reads hf (p := ⟨b, off + j * 2, none⟩) (u := .int .i64 q0) (cell_more d0)
        have y1 := Class.reads hf (p := ⟨b, off + j * 2 + 1, none⟩) (u := .int .i64 q1) (cell_more d1)
        have y2 := Class.reads hf (p := ⟨w.heap.size, 2, none⟩) (u := .slice (some ⟨b, off, none⟩) n cap) (cell_more b2)
        simp only [List.take_succ_cons, List.take_zero]
        repeat (go_big_quiet_step (fail))
        exact wpQuiet_nil rfl
      intro g w3 k3 hg hh
      have e0 := k3.reads (p := ⟨wr.heap.size, 0, none⟩) (x := .int .i64 p0) (by go_simp)
      have e1 := k3.reads (p := ⟨wr.heap.size, 1, none⟩) (x := .int .i64 p1) (by go_simp)
      have M3 : Hid (Made w.heap.size w w3) := HM.out.then_ (made_box k3 |>.low HM.out.1.size)
      have T3 := hid ((HT.out.more (.cells #[.int .i64 p0, .int .i64 p1] 34)).stays k3 (by simp; omega))
      have hg1 : wr.heap.size < g := by simp at hg; omega
      have hgw : w.heap.size < g := Nat.lt_of_le_of_lt HM.out.1.size hg1
      have z0 := hh.at_ 0
      have z1 := hh.at_ 1
      simp at z0 z1
      have zf : ∀ i, w3.frozen? ⟨g, i, none⟩ = false := fun i => hh.free i
      have hgs := hh.here
      clear k3 c0 c1 d0 d1 hh hg b2
      simp only [List.drop_succ_cons, List.drop_zero]
      go_wp2_with fail
      obtain ⟨W0, eW⟩ : ∃ W, W = (w3.setCell ⟨g, 0, none⟩ (.int .i64 q0)).setCell ⟨g, 1, none⟩ (.int .i64 q1) := ⟨_, rfl⟩
      have f0 : W0.cell? ⟨wr.heap.size, 0, none⟩ = some (.int .i64 p0) := by rw [eW]; go_simp
      have f1 : W0.cell? ⟨wr.heap.size, 1, none⟩ = some (.int .i64 p1) := by rw [eW]; go_simp
      have g0 : W0.cell? ⟨g, 0, none⟩ = some (.int .i64 q0) := by rw [eW]; go_simp
      have g1 : W0.cell? ⟨g, 1, none⟩ = some (.int .i64 q1) := by rw [eW]; go_simp
      have M0 : Hid (Made w.heap.size w W0) := by unfold Hid; rw [eW]; exact (M3.out.put (Nat.le_of_lt hgw) _).put (Nat.le_of_lt hgw) _
      have T0 : Hid (Has W0 w.heap.size 28 #[.int .i64 K, .int .i64 R, .slice (some ⟨b, off, none⟩) n cap]) := by
        unfold Hid
        rw [eW]
        exact (T3.out.other ⟨g, 0, none⟩ (by simp; omega) _).other ⟨g, 1, none⟩ (by simp; omega) _
      rw [← eW]
      have HGW := hid hgw
      clear eW e0 e1 z0 z1 zf hgs hgw
      refine reg_made (by kernel_rfl) (by kernel_rfl) ?_
      intro T hT fw hf
      have x0 := hf.reads f0
      have x1 := hf.reads f1
      have y0 := hf.reads g0
      have y1 := hf.reads g1
      repeat (go_big_quiet_step ((first | (go_at_call 28; with_reducible first | exact hf.made (vdot_is _ _ _ _ _ _ (by assumption) (by assumption) (by assumption) (by assumption) EU.out) | exact hf.made (vdot_is _ _ _ _ _ _ (by assumption) (by assumption) (by assumption) (by assumption) EV.out) | exact hf.made (vdot_is _ _ _ _ _ _ (by assumption) (by assumption) (by assumption) (by assumption) EZ.out)) | (go_at_call 26; with_reducible first | exact hf.same (add_is _ _ _ _ (by assumption) (by assumption) EUV.out) | exact hf.same (add_is _ _ _ _ (by assumption) (by assumption) ED.out)))))
      refine wpQuiet_nil ?_
      intro w4 h4
      have k4 := hf.here h4
      have f0 := k4.reads f0
      have f1 := k4.reads f1
      have g0 := k4.reads g0
      have g1 := k4.reads g1
      have K4 := hid k4
      clear k4 x0 x1 y0 y1 hf h4
      go_wp2_with fail
      refine (vcross_is p0 p1 q0 q1 c _ i0 i1 i2 i3 EC.out).mono ?_
      rintro e w5 ⟨rfl, k5⟩
      have K5 := hid k5
      clear k5 f0 f1 g0 g1
      go_wp2_with fail
      refine (mul_is c d m _ ic id_ EM.out).mono ?_
      rintro e w' ⟨rfl, rfl⟩
      go_wp2_with fail
      refine (div_is m _ t _ im iG ET.out).mono ?_
      rintro e w6 ⟨rfl, nd, rfl⟩
      go_wp2_with fail
      refine (add_is S t S1 _ iS it ES.out).mono ?_
      rintro e w' ⟨rfl, rfl⟩
      go_wp2_with fail
      go_roundg (n - k - 1)
      case rel =>
        refine ⟨k + 1, by omega, by go_num, by rw [ES1.out], ((T0.out.stays K4.out T0.out.here).stays K5.out (T0.out.stays K4.out T0.out.here).here).drawn _, ((M0.out.then_ (K4.out.low M0.out.1.size)).then_ (K5.out.low (Nat.le_trans M0.out.1.size K4.out.1.size))).draws _⟩
      case measure => omega
    · obtain rfl : k = n := by omega
      go_wp2_with fail
      go_ret
      exact ⟨rfl, HM.out⟩
end Go.Proofs.Ytahbnbaldoblaaa.Fx
