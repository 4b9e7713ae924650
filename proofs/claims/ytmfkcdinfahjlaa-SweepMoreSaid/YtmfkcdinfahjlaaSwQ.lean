/- SweepMore. -/
import Derived.Test.YtmfkcdinfahjlaaSwN
namespace Go.Proofs.Ytmfkcdinfahjlaa.Fx
open Go.ChangeShapes Go.WideShapes Go.ChangeAt Go.RowKit
set_option linter.unusedVariables false

/-- what stands behind the call of tame: nothing hangs on how the items came -/
theorem tame_snoc (l : List It) (x : It) (h : l.length ≤ 20) : tameF 21 (l ++ [x]) = tameF 21 l ++ [tameI l.length x] := by
  unfold tameF
  rw [List.take_of_length_le (by simp; omega), List.take_of_length_le (by omega), tameL_snoc, Nat.zero_add]
def alM (B N : Nat) (l : List It) (x : It) (i : Nat) (v : World) (g e : Nat) : Prop :=
  if i = 5 then N ≤ e ∧ v.ownsRow B 61 6 (.slice (some ⟨g, 0, none⟩) N e) N (flatE encI l) else Has v g 61 (encI x).toArray
def valM (N : Nat) (i g e : Nat) : Value := if i = 5 then .slice (some ⟨g, 0, none⟩) N e else .slice (some ⟨g, 0, none⟩) 1 1
theorem alM_lasts (B N : Nat) (l : List It) (x : It) : MK.Lasts (alM B N l x) := fun i u v g e h hg k => by
  unfold alM at h ⊢
  split
  · rename_i h5
    rw [if_pos h5] at h
    exact ⟨h.1, own_below (B := 0) h.2 k.1⟩
  · rename_i h5
    rw [if_neg h5] at h
    exact h.stays k hg

theorem can_same {P : Program} {ops : Array Oper} {w : World} {al : Nat → World → Nat → Nat → Prop} {val : Nat → Nat → Nat → Value} {qs ms : List Nat} {dp : Nat → List Nat} {Lq : (Nat → Option (Nat × Nat)) → Act → Prop} {rest : List Nat} {G : Nat → Option (Nat × Nat)} {a : Act} (i : Nat) (o : Oper) (v : Value) (hq : qs.contains i = true) (ho : ops[i]? = some o) (hg : o.guard = none)
    (h : ∀ u, (execOp a.eval o).run P u = .ok (.value v) u) (hr : MK.Can P ops w al val qs ms dp Lq rest G (a.put o.dst v)) : MK.Can P ops w al val qs ms dp Lq (i :: rest) G a :=
  .inl ⟨hq, o, v, ho, fun G' _ _ => .inl ⟨by unfold Region.wanted; rw [hg], fun u hu => by unfold Oper.quietAt; rw [h u]; exact ⟨rfl, rfl⟩⟩, hr⟩
theorem append_zero (ao : Option Addr) (c : Nat) (w : World) : (Builtin.append_ #[52, 52] 52 #[.slice none 0 0, .slice ao 0 c]).run Try.prog w = .ok (.slice none 0 0) w := by
  cases ao
  · kernel_rfl
  · kernel_rfl
set_option maxRecDepth 100000 in
set_option maxHeartbeats 16000000 in
theorem swmore_walk (ao : Option Addr) (n c : Nat) (l : List It) (x0 x1 x2 x3 x4 : Int) (x5 : Bool) (w : World) (hin : ItIn w ao n c l) (hx : ItI (⟨x0, x1, x2, x3, x4, x5⟩ : It)) :
    Calls Try.prog 7 #[.slice ao n c, .agg #[.int .i64 x0, .int .i64 x1, .int .i64 x2, .int .i64 x3, .int .i64 x4, .bool x5]] w fun e w' => e = .returned (.bool true) ∧ Below w.heap.size w w' := by
  obtain ⟨i0, hi, hz0, hz1, hz2⟩ := info_parts info_It
  have iHi := hid hi; have iH0 := hid hz0; have iH1 := hid hz1; have iH2 := hid hz2
  obtain ⟨hL, hn, hc, hcm, hI⟩ := hin
  obtain ⟨m, em⟩ : ∃ m, min n 20 = m := ⟨_, rfl⟩
  have hm : m ≤ 20 := by omega
  have hmn : m ≤ n := by omega
  have hmc : m ≤ c := by omega
  have hmm : min (n : Int) 20 = (m : Int) := by omega
  have hm0 : Hid (n = 0 ↔ m = 0) := by unfold Hid; omega
  obtain ⟨Y, eY⟩ : ∃ Y, l.take m = Y := ⟨_, rfl⟩
  have HYl : Hid (Y.length = m) := by unfold Hid; rw [← eY, List.length_take, hn]; omega
  have HXl : Hid ((Y ++ [(⟨x0, x1, x2, x3, x4, x5⟩ : It)]).length = m + 1) := by unfold Hid; rw [List.length_append, HYl.out]; rfl
  have HYi : Hid (ItsI (Y ++ [(⟨x0, x1, x2, x3, x4, x5⟩ : It)])) := fun z hz => by
    rcases List.mem_append.1 hz with h | h
    · rw [← eY] at h; exact hI z (List.mem_of_mem_take h)
    · simp at h; rw [h]; exact hx
  have HL : Hid (0 < m → ∃ b off, ao = some ⟨b, off, none⟩ ∧ b < w.heap.size ∧ LsB encI 6 w b off Y) := fun h0 => by
    obtain ⟨b, off, e, hb, h⟩ := hL (by omega)
    exact ⟨b, off, e, hb, by rw [← eY]; exact h.take m⟩
  clear hi hz0 hz1 hz2 hL hI eY em hx hn
  go_enter Try.func7, Try.ntmps7
  go_wp2_with fail
  refine (swfit_c _).mono ?_
  rintro e w1 ⟨rfl, hb⟩
  have a0 := Below.reads hb (p := ⟨w.heap.size, 0, none⟩) (x := .int .i64 x0) (by go_simp)
  have a1 := Below.reads hb (p := ⟨w.heap.size, 1, none⟩) (x := .int .i64 x1) (by go_simp)
  have a2 := Below.reads hb (p := ⟨w.heap.size, 2, none⟩) (x := .int .i64 x2) (by go_simp)
  have a3 := Below.reads hb (p := ⟨w.heap.size, 3, none⟩) (x := .int .i64 x3) (by go_simp)
  have a4 := Below.reads hb (p := ⟨w.heap.size, 4, none⟩) (x := .int .i64 x4) (by go_simp)
  have a5 := Below.reads hb (p := ⟨w.heap.size, 5, none⟩) (x := .bool x5) (by go_simp)
  have HB : Hid (Below w.heap.size w w1) := ((Below.refl _ w).alloc (Nat.le_refl _) _).trans (hb.mono (by simp))
  clear hb
  go_upto_region 3 with fail
  go_cut [5] (fun s5 wx => Hid (wx.ownsRow w1.heap.size 61 6 s5 (m + 1) (flatE encI (tameF 21 (Y ++ [(⟨x0, x1, x2, x3, x4, x5⟩ : It)])))) ∧ Hid (Below w1.heap.size w1 wx))
  case first =>
    rcases Nat.eq_zero_or_pos m with h0 | h0
    · have HY0 : Hid (Y = []) := List.length_eq_zero_iff.1 (HYl.out.trans h0)
      have hz : ∀ w, (Builtin.append_ #[52, 52] 52 #[.slice none 0 0, .slice ao m c]).run Try.prog w = .ok (.slice none 0 0) w := by rw [h0]; exact append_zero ao c
      have H0 := hid h0
      clear h0
      have mk7 : Hid (∀ (G : Nat → Option (Nat × Nat)) (u : World), MK.Cm w1 (alM w1.heap.size m Y (⟨x0, x1, x2, x3, x4, x5⟩ : It)) G u → MK.MkUpon Try.prog w1 (alM w1.heap.size m Y (⟨x0, x1, x2, x3, x4, x5⟩ : It)) (valM m) 7 G (.ok (.value (.slice (some ⟨u.heap.size, 0, none⟩) 1 1)) (u.alloc (.cells #[.int .i64 x0, .int .i64 x1, .int .i64 x2, .int .i64 x3, .int .i64 x4, .bool x5] 61))))  := fun G u hu =>
        ⟨u.heap.size, 0, rfl, hu.next (alM_lasts _ _ _ _) ((Made.rfl_ _ _).cells (Nat.le_refl _) _ _) (Nat.le_refl _) (by simp) (by unfold alM; rw [if_neg (by omega)]; exact has_new _ _ _)⟩
      refine MK.reg_mk (alM w1.heap.size m Y (⟨x0, x1, x2, x3, x4, x5⟩ : It)) 8 [0, 1, 2, 3, 4, 6, 5, 7] [0, 1, 2, 3, 4, 6, 5] [7] [] (fun _ => []) (val := valM m) (by kernel_rfl) (by kernel_rfl) ?hpu ?_
      case hpu => intro p hp; simp at hp
      refine MK.can_class (rest := [5, 7]) [0, 1, 2, 3, 4, 6] [] 74 (alM_lasts _ _ _ _) (MK.any_class _) (by kernel_rfl) rfl (by kernel_rfl) (by kernel_rfl) ?_
      apply Exists.intro
      refine ⟨?q1, ?q2⟩
      case q1 =>
        intro Ty hT fw hf _
        have a0 := Class.reads hf a0
        have a1 := Class.reads hf a1
        have a2 := Class.reads hf a2
        have a3 := Class.reads hf a3
        have a4 := Class.reads hf a4
        have a5 := Class.reads hf a5
        change wpQuiet _ _ _ _ [_, _, _, _, _, _] _
        repeat (go_big_quiet_step (fail))
        exact wpQuiet_nil rfl
      refine can_same 5 _ (.slice none 0 0) rfl rfl rfl (fun u => exec_append (P := Try.prog) rfl rfl rfl (hz u)) ?_
      refine MK.can_mk 7 22 _ rfl rfl rfl rfl ?m1 fun g7 e7 => ?m2
      case m1 =>
        intro G' u _ hu
        rw [show (execOp _ _).run Try.prog u = .ok (.value (.slice (some ⟨u.heap.size, 0, none⟩) 1 1)) (u.alloc (.cells #[.int .i64 x0, .int .i64 x1, .int .i64 x2, .int .i64 x3, .int .i64 x4, .bool x5] 61)) by kernel_rfl]
        exact mk7.out G' u hu
      rw [show valM m 7 g7 e7 = .slice (some ⟨g7, 0, none⟩) 1 1 from rfl]
      simp only [Act.put, List.setIfInBounds_toArray]
      intro w3 hu
      obtain ⟨hg7, hg8, hx7⟩ := hu.2.1 7 (g7, e7) (by unfold MK.upd; simp)
      have HX : Hid (Has w3 g7 61 (encI (⟨x0, x1, x2, x3, x4, x5⟩ : It)).toArray) := by unfold alM at hx7; rw [if_neg (by omega)] at hx7; exact hx7
      have HM3 := hid hu.1
      have hb3 : w1.heap.size ≤ w3.heap.size := HM3.out.1.size
      clear hu hx7 mk7 hz a0 a1 a2 a3 a4 a5
      simp only [List.drop_succ_cons, List.drop_zero]
      go_wp2_with (at_builtin; refine wpList_append_own _ rfl _ _ 52 rfl w1.heap.size 61 i0 (.agg #[.int .i64 0, .int .i64 0, .int .i64 0, .int .i64 0, .int .i64 0, .bool false]) 6 48 Try.underlying52 iHi.out iH0.out iH1.out iH2.out rfl (by decide) (.slice none 0 0) 0 (flatE encI ([] : List It)) rfl (World.ownsRow_nil _ _ _ _) ⟨g7, 0, none⟩ 1 1 (encI (⟨x0, x1, x2, x3, x4, x5⟩ : It)) rfl rfl (fun j u hj => by rw [Addr.add_lit, Nat.zero_add, HX.out.at_]; simpa using hj) (encI_one _) (by unfold maxLen; omega) (by omega) hb3 ?_)
      intro v4 w4 hown4 hgr4 hnil4
      have hown4 : w4.ownsRow w1.heap.size 61 6 v4 (Y ++ [(⟨x0, x1, x2, x3, x4, x5⟩ : It)]).length (flatE encI (Y ++ [(⟨x0, x1, x2, x3, x4, x5⟩ : It)])) := by
        rw [HY0.out]
        simpa [flatE] using hown4
      have HM4 : Hid (Below w1.heap.size w1 w4) := HM3.out.1.grown hgr4 hb3 (fun j hj => by cases hj)
      obtain ⟨b4, c4, rfl, hc4, hL4, hf4⟩ := LsT.of_own encI_len hown4
      rw [HXl.out] at hc4 ⊢
      have HL4 := hid hL4
      clear hown4 hgr4 hnil4 hL4 hf4
      go_wp2_with fail
      refine (tame_c 21 HXl.out HL4.out hc4 (show min (m + 1) 21 = m + 1 by omega) (by omega) HYi.out).mono ?_
      rintro e w5 ⟨v5, rfl, ho5, hm5⟩
      have HO5 := hid ho5
      have HM5 : Hid (Below w1.heap.size w1 w5) := HM4.out.trans (hm5.1.mono HM4.out.size)
      have l45 := HM4.out.size
      clear ho5 hm5
      go_wp2_with fail
      refine NoPanic.normal ?_
      go_wp2_with fail
      go_meet
      exact ⟨own_base HO5.out l45, HM5.out⟩
    · obtain ⟨b, off, rfl, hbl, hLB⟩ := HL.out h0
      have hmn0 : ¬ (m = 0) := by omega
      have hd0 : ¬ (0 = c) := by omega
      have hd1 : ¬ (c = 0) := by omega
      have hb01 := HB.out
      have HNews : Hid (∀ (u : World), Made w1.heap.size w1 u → ∃ g cap u', (Builtin.append_ #[52, 52] 52 #[.slice none 0 0, .slice (some ⟨b, off, none⟩) m c]).run Try.prog u = .ok (.slice (some ⟨g, 0, none⟩) m cap) u' ∧ u.heap.size ≤ g ∧ g < u'.heap.size ∧ m ≤ cap ∧ u'.ownsRow u.heap.size 61 6 (.slice (some ⟨g, 0, none⟩) m cap) m (flatE encI Y) ∧ Made u.heap.size u u') := fun u hu =>
        append_new 52 52 61 i0 (.agg #[.int .i64 0, .int .i64 0, .int .i64 0, .int .i64 0, .int .i64 0, .bool false]) 6 48 Try.underlying52 iHi.out iH0.out iH1.out iH2.out rfl (by decide) ⟨b, off, none⟩ m c (flatE encI Y) (by rw [flatE_len encI_len, HYl.out]) (LsB.news encI_len ((hLB.below hb01 hbl).below hu.1 (Nat.lt_of_lt_of_le hbl hb01.size))) (flatE_one encI_one _) (by unfold maxLen; omega) (by omega) h0
      have mk7 : Hid (∀ (G : Nat → Option (Nat × Nat)) (u : World), MK.Cm w1 (alM w1.heap.size m Y (⟨x0, x1, x2, x3, x4, x5⟩ : It)) G u → MK.MkUpon Try.prog w1 (alM w1.heap.size m Y (⟨x0, x1, x2, x3, x4, x5⟩ : It)) (valM m) 7 G (.ok (.value (.slice (some ⟨u.heap.size, 0, none⟩) 1 1)) (u.alloc (.cells #[.int .i64 x0, .int .i64 x1, .int .i64 x2, .int .i64 x3, .int .i64 x4, .bool x5] 61))))  := fun G u hu =>
        ⟨u.heap.size, 0, rfl, hu.next (alM_lasts _ _ _ _) ((Made.rfl_ _ _).cells (Nat.le_refl _) _ _) (Nat.le_refl _) (by simp) (by unfold alM; rw [if_neg (by omega)]; exact has_new _ _ _)⟩
      clear hb01 hLB
      refine MK.reg_mk (alM w1.heap.size m Y (⟨x0, x1, x2, x3, x4, x5⟩ : It)) 8 [0, 1, 2, 3, 4, 6, 5, 7] [0, 1, 2, 3, 4, 6] [5, 7] [] (fun _ => []) (val := valM m) (by kernel_rfl) (by kernel_rfl) ?hpub ?_
      case hpub => intro p hp; simp at hp
      refine MK.can_class (rest := [5, 7]) [0, 1, 2, 3, 4, 6] [] 74 (alM_lasts _ _ _ _) (MK.any_class _) (by kernel_rfl) rfl (by kernel_rfl) (by kernel_rfl) ?_
      apply Exists.intro
      refine ⟨?q1b, ?q2b⟩
      case q1b =>
        intro Ty hT fw hf _
        have a0 := Class.reads hf a0
        have a1 := Class.reads hf a1
        have a2 := Class.reads hf a2
        have a3 := Class.reads hf a3
        have a4 := Class.reads hf a4
        have a5 := Class.reads hf a5
        change wpQuiet _ _ _ _ [_, _, _, _, _, _] _
        repeat (go_big_quiet_step (fail))
        exact wpQuiet_nil rfl
      refine MK.can_mk 5 20 _ rfl rfl rfl rfl ?m1b fun g5 e5 => ?m2b
      case m1b =>
        intro G' u _ hu
        obtain ⟨g, cap, u', hr, hg1, hg2, hcp, hown, hM⟩ := HNews.out u hu.1
        rw [exec_append (P := Try.prog) rfl rfl rfl hr]
        exact ⟨g, cap, rfl, hu.next (alM_lasts _ _ _ _) hM hg1 hg2 (by unfold alM; rw [if_pos rfl]; exact ⟨hcp, own_base hown hu.1.1.size⟩)⟩
      rw [show valM m 5 g5 e5 = .slice (some ⟨g5, 0, none⟩) m e5 from rfl]
      simp only [Act.put, List.setIfInBounds_toArray, List.set_cons_succ, List.set_cons_zero]
      refine MK.can_mk 7 22 _ rfl rfl rfl rfl ?m3b fun g7 e7 => ?m4b
      case m3b =>
        intro G' u _ hu
        rw [show (execOp _ _).run Try.prog u = .ok (.value (.slice (some ⟨u.heap.size, 0, none⟩) 1 1)) (u.alloc (.cells #[.int .i64 x0, .int .i64 x1, .int .i64 x2, .int .i64 x3, .int .i64 x4, .bool x5] 61)) by kernel_rfl]
        exact mk7.out G' u hu
      rw [show valM m 7 g7 e7 = .slice (some ⟨g7, 0, none⟩) 1 1 from rfl]
      simp only [Act.put, List.setIfInBounds_toArray, List.set_cons_succ, List.set_cons_zero]
      intro w3 hu
      obtain ⟨hg7, hg8, hx7⟩ := hu.2.1 7 (g7, e7) (by unfold MK.upd; simp)
      obtain ⟨hg5, hg6, hx5⟩ := hu.2.1 5 (g5, e5) (by unfold MK.upd; simp)
      have HX : Hid (Has w3 g7 61 (encI (⟨x0, x1, x2, x3, x4, x5⟩ : It)).toArray) := by unfold alM at hx7; rw [if_neg (by omega)] at hx7; exact hx7
      unfold alM at hx5
      rw [if_pos rfl] at hx5
      obtain ⟨hcp5, ho5⟩ := hx5
      have HO5 := hid ho5
      have HM3 := hid hu.1
      have hb3 : w1.heap.size ≤ w3.heap.size := HM3.out.1.size
      clear hu hx7 mk7 HNews ho5 a0 a1 a2 a3 a4 a5
      simp only [List.drop_succ_cons, List.drop_zero]
      go_wp2_with (at_builtin; refine wpList_append_own _ rfl _ _ 52 rfl w1.heap.size 61 i0 (.agg #[.int .i64 0, .int .i64 0, .int .i64 0, .int .i64 0, .int .i64 0, .bool false]) 6 48 Try.underlying52 iHi.out iH0.out iH1.out iH2.out rfl (by decide) (.slice (some ⟨g5, 0, none⟩) m e5) m (flatE encI Y) rfl HO5.out ⟨g7, 0, none⟩ 1 1 (encI (⟨x0, x1, x2, x3, x4, x5⟩ : It)) rfl rfl (fun j u hj => by rw [Addr.add_lit, Nat.zero_add, HX.out.at_]; simpa using hj) (encI_one _) (by unfold maxLen; omega) (by omega) hb3 ?_)
      intro v4 w4 hown4 hgr4 hnil4
      have hown4 : w4.ownsRow w1.heap.size 61 6 v4 (Y ++ [(⟨x0, x1, x2, x3, x4, x5⟩ : It)]).length (flatE encI (Y ++ [(⟨x0, x1, x2, x3, x4, x5⟩ : It)])) := by
        rw [List.length_append, HYl.out, ← flatE_snoc]
        simpa using hown4
      have HM4 : Hid (Below w1.heap.size w1 w4) := HM3.out.1.grown hgr4 hb3 (fun j hj => by cases hj; exact hg5)
      obtain ⟨b4, c4, rfl, hc4, hL4, hf4⟩ := LsT.of_own encI_len hown4
      rw [HXl.out] at hc4 ⊢
      have HL4 := hid hL4
      clear hown4 hgr4 hnil4 hL4 hf4
      go_wp2_with fail
      refine (tame_c 21 HXl.out HL4.out hc4 (show min (m + 1) 21 = m + 1 by omega) (by omega) HYi.out).mono ?_
      rintro e w5 ⟨v5, rfl, ho5, hm5⟩
      have HO5 := hid ho5
      have HM5 : Hid (Below w1.heap.size w1 w5) := HM4.out.trans (hm5.1.mono HM4.out.size)
      have l45 := HM4.out.size
      clear ho5 hm5
      go_wp2_with fail
      refine NoPanic.normal ?_
      go_wp2_with fail
      go_meet
      exact ⟨own_base HO5.out l45, HM5.out⟩
  obtain ⟨HO, HM⟩ := hcut
  have HT := tame_snoc Y (⟨x0, x1, x2, x3, x4, x5⟩ : It) (by rw [HYl.out]; omega)
  have HMb : Hid (Below w.heap.size w wc) := HB.out.trans (HM.out.mono HB.out.size)
  have HTi : Hid (ItsI (tameF 21 (Y ++ [(⟨x0, x1, x2, x3, x4, x5⟩ : It)]))) := tameF_i (by omega) HYi.out
  have HTa : Hid (Apart (tameF 21 (Y ++ [(⟨x0, x1, x2, x3, x4, x5⟩ : It)]))) := tameF_apart (by omega) _
  have hT0 : (tameF 21 Y).length = m := by rw [tameF_len, HYl.out]; omega
  rw [HT] at HO HTi HTa
  obtain ⟨T, eT⟩ : ∃ T, tameF 21 Y = T := ⟨_, rfl⟩
  obtain ⟨z, ez⟩ : ∃ z, tameI Y.length (⟨x0, x1, x2, x3, x4, x5⟩ : It) = z := ⟨_, rfl⟩
  rw [eT, ez] at HO HTi HTa
  rw [eT] at hT0
  clear eT ez HT HM HYi HYl HXl HL hmm a0 a1 a2 a3 a4 a5 HB
  have HT0 := hid hT0
  have hTz : (T ++ [z]).length = m + 1 := by rw [List.length_append, hT0]; rfl
  have HTz := hid hTz
  have HO' : Hid (wc.ownsRow w1.heap.size 61 6 u5 (T ++ [z]).length (flatE encI (T ++ [z]))) := by unfold Hid; rw [hTz]; exact HO.out
  obtain ⟨bo, d, rfl, hcap, hL2, hfr⟩ := LsT.of_own encI_len HO'.out
  obtain ⟨b, off, rfl, hbl, hLB⟩ := hL2 (by omega)
  rw [hTz] at hcap ⊢
  have HLB := hid hLB
  obtain ⟨z0, ez0⟩ : ∃ z0, z.id = z0 := ⟨_, rfl⟩
  have zc := (hLB m z (by rw [List.getElem?_append_right (by omega), hT0, Nat.sub_self]; rfl)).i6.1
  rw [ez0] at zc
  have HP1 := hid (fun (u : World) (hu : LsT encI 6 u (some ⟨b, off, none⟩) T) => pairs_c (c := d) HT0.out hu (.inr ⟨_, _, rfl⟩) (by omega) (fun e => by cases e) (fun x hx => HTi.out x (List.mem_append_left _ hx)))
  have HP2 := hid (fun (u : World) (hu : LsT encI 6 u (some ⟨b, off, none⟩) (T ++ [z])) => pairs_c (c := d) HTz.out hu (.inr ⟨_, _, rfl⟩) (by omega) (fun e => by cases e) HTi.out)
  have HF : Hid ((pairsF (T ++ [z])).filter (keepP z0) = pairsF T) := by
    unfold Hid
    rw [← ez0]
    refine pairsF_more fun y hy => ?_
    have := List.pairwise_append.1 HTa.out
    exact this.2.2 y hy z (by simp)
  have hlenF : (pairsF T).length ≤ 441 := by
    rw [pairsF_length]
    have h1 := collect_len T
    have : T.length * T.length ≤ 21 * 21 := Nat.mul_le_mul (by omega) (by omega)
    omega
  have hlenM : (pairsF (T ++ [z])).length ≤ 441 := by
    rw [pairsF_length]
    have h1 := collect_len (T ++ [z])
    have : (T ++ [z]).length * (T ++ [z]).length ≤ 21 * 21 := Nat.mul_le_mul (by omega) (by omega)
    omega
  obtain ⟨F, eF⟩ : ∃ F, pairsF T = F := ⟨_, rfl⟩
  obtain ⟨M, eM⟩ : ∃ M, pairsF (T ++ [z]) = M := ⟨_, rfl⟩
  rw [eF] at HP1 HF hlenF
  rw [eM] at HP2 HF hlenM
  obtain ⟨NF, eNF⟩ : ∃ n, F.length = n := ⟨_, rfl⟩
  obtain ⟨NM, eNM⟩ : ∃ n, M.length = n := ⟨_, rfl⟩
  rw [eNF] at HP1 hlenF
  rw [eNM] at HP2 hlenM
  have ENF := hid eNF
  have ENM := hid eNM
  have hmd : m ≤ d := by omega
  have hd0 : ¬ (0 = d) := by omega
  have hd1 : ¬ (d = 0) := by omega
  have hLa := hid (fun (_ : 0 < T.length) => (⟨b, off, rfl, hbl, by have := hLB.take m; rwa [List.take_left' hT0] at this⟩ : ∃ b' off', some (⟨b, off, none⟩ : Addr) = some ⟨b', off', none⟩ ∧ b' < wc.heap.size ∧ LsB encI 6 wc b' off' T))
  have hLb := hid (fun (_ : 0 < (T ++ [z]).length) => (⟨b, off, rfl, hbl, hLB⟩ : ∃ b' off', some (⟨b, off, none⟩ : Addr) = some ⟨b', off', none⟩ ∧ b' < wc.heap.size ∧ LsB encI 6 wc b' off' (T ++ [z])))
  have HLa : Hid (LsT encI 6 wc (some ⟨b, off, none⟩) T) := hLa.out
  have HLb : Hid (LsT encI 6 wc (some ⟨b, off, none⟩) (T ++ [z])) := hLb.out
  clear HO HO' hL2 hfr hLB hT0 hTz ez0 eF eM eNF eNM hLa hLb HTa
  go_wp2_with fail
  refine (HP1.out _ HLa.out).mono ?_
  rintro e w6 ⟨ba, da, rfl, hLa, _, hb6⟩
  have HA6 := hid hLa
  have HLb6 := hid (HLb.out.below hb6)
  have HB6 : Hid (Below w.heap.size w w6) := HMb.out.trans (hb6.mono HMb.out.size)
  clear hLa hb6 HP1 HLa HLb HMb
  go_wp2_with fail
  refine (HP2.out _ HLb6.out).mono ?_
  rintro e w7 ⟨bb, db, rfl, hLb, _, hb7⟩
  have HA7 := hid (HA6.out.below hb7)
  have HBb7 := hid hLb
  have HB7 : Hid (Below w.heap.size w w7) := HB6.out.trans (hb7.mono HB6.out.size)
  clear hLb hb7 HP2 HLb6 HA6 HB6 zc
  go_wp2_with fail
  go_loopg [10, 41] NM (fun g s10 s41 wx => ∃ j q : Nat, j + g = NM ∧ s41 = .int .i64 j ∧ s10 = .int .i64 q ∧ q ≤ NF ∧ Hid (F.drop q = (M.drop j).filter (keepP z0)) ∧ Hid (Below w7.heap.size w7 wx))
  case atStart => exact ⟨0, 0, by omega, rfl, rfl, by omega, HF.out.symm, Below.refl _ _⟩
  case round =>
    obtain ⟨j, q, hj, rfl, rfl, hq, HD, HM8⟩ := hrel
    have hbase : w7.heap.size ≤ wr.heap.size := HM8.out.size
    by_cases hlt : j < NM
    · obtain ⟨p, ep⟩ : ∃ p, M[j]? = some p := ⟨_, List.getElem?_eq_getElem (by rw [ENM.out]; exact hlt)⟩
      obtain ⟨xb, ob, rfl, hb, hLBb⟩ := HBb7.out (by rw [ENM.out]; omega)
      obtain ⟨p0, p1⟩ := p
      obtain ⟨b0, b1⟩ := ((hLBb.below HM8.out hb) j _ ep).p2
      simp only [] at b0 b1
      have HD2 := HD.out
      rw [drop_at ep, List.filter_cons] at HD2
      have HD2 := hid HD2
      have HM9 : Hid (Below w7.heap.size w7 (wr.alloc (.cells #[.int .i64 p0, .int .i64 p1] 58))) := HM8.out.alloc hbase _
      obtain ⟨W9, eW⟩ : ∃ V, V = wr.alloc (.cells #[.int .i64 p0, .int .i64 p1] 58) := ⟨_, rfl⟩
      have c0 : W9.cell? ⟨wr.heap.size, 0, none⟩ = some (.int .i64 p0) := by rw [eW]; go_simp
      have c1 : W9.cell? ⟨wr.heap.size, 1, none⟩ = some (.int .i64 p1) := by rw [eW]; go_simp
      clear ep hLBb HD
      go_upto_region 11 with fail
      rw [← eW] at HM9 ⊢
      clear eW b0 b1
      by_cases h1 : p0 = z0
      · have g1 : (p0 == z0) = true := by simp [h1]
        have HK : Hid (keepP z0 (p0, p1) = false) := by unfold Hid keepP; simp [h1]
        clear h1
        go_wp2_with fail
        go_roundg (NM - (j + 1))
        case rel => exact ⟨j + 1, q, by omega, by go_num, rfl, hq, by have := HD2.out; rw [if_neg (by rw [HK.out]; simp)] at this; exact this, HM9⟩
        case measure => omega
      · have g1 : (p0 == z0) = false := by simp [h1]
        by_cases h2 : p1 = z0
        · have g2 : (p1 == z0) = true := by simp [h2]
          have HK : Hid (keepP z0 (p0, p1) = false) := by unfold Hid keepP; simp [h2]
          clear h1 h2
          go_wp2_with fail
          go_roundg (NM - (j + 1))
          case rel => exact ⟨j + 1, q, by omega, by go_num, rfl, hq, by have := HD2.out; rw [if_neg (by rw [HK.out]; simp)] at this; exact this, HM9⟩
          case measure => omega
        · have g2 : (p1 == z0) = false := by simp [h2]
          have HK : Hid (keepP z0 (p0, p1) = true) := by unfold Hid keepP; simp [h1, h2]
          have HD3 : Hid (F.drop q = (p0, p1) :: (M.drop (j + 1)).filter (keepP z0)) := by have := HD2.out; rw [if_pos HK.out] at this; exact this
          have eq : F[q]? = some (p0, p1) := by
            have := congrArg (fun l => l[0]?) HD3.out
            simpa [List.getElem?_drop] using this
          have hqF : q < NF := by
            have := (List.getElem?_eq_some_iff.1 eq).1
            rw [ENF.out] at this
            exact this
          have HD4 : Hid (F.drop (q + 1) = (M.drop (j + 1)).filter (keepP z0)) := by
            have := HD3.out
            rw [drop_at eq] at this
            unfold Hid
            simpa using this
          obtain ⟨xa, oa, rfl, ha, hLBa⟩ := HA7.out (by rw [ENF.out]; omega)
          obtain ⟨f0, f1⟩ := ((hLBa.below HM9.out ha) q _ eq).p2
          simp only [] at f0 f1
          have hge : decide ((NF : Int) ≤ (q : Int)) = false := decide_eq_false (by omega)
          have qq := pneq p0 p1 p0 p1
          simp at qq
          clear eq hLBa h1 h2 HD2 HD3
          go_upto_region 12 with fail
          go_quiet (fail)
          go_wp2_with fail
          go_roundg (NM - (j + 1))
          case rel => exact ⟨j + 1, q + 1, by omega, by go_num, by go_num, by omega, HD4, Fx.Below.drewN HM9.out _⟩
          case measure => omega
    · have HD5 : Hid (F.drop q = []) := by
        have := HD.out
        have hM : M.drop j = [] := List.drop_eq_nil_of_le (by rw [ENM.out]; omega)
        rw [hM] at this
        exact this
      have hqe : q = NF := by
        have := congrArg List.length HD5.out
        rw [List.length_drop, ENF.out] at this
        simp at this
        omega
      go_wp2_with fail
      go_ret
      refine ⟨by rw [hqe]; simp, HB7.out.trans (HM8.out.mono HB7.out.size)⟩
end Go.Proofs.Ytmfkcdinfahjlaa.Fx
