/- The walk of NamesSort. -/
import Derived.Test.YtmdhlobonnikcaaDoorNmK
namespace Go.Proofs.YtmdhlobonnikcaaDoor.Fx
open Go.ChangeShapes Go.WideShapes Go.ChangeAt Go.RowKit Go.Maps Go.Sort Go.Shelf Go.Deep
set_option linter.unusedVariables false

theorem nand1 (k : Nat) : bits .and .i64 (k : Int) 1 = ((k % 2 : Nat) : Int) := by
  rw [show (1 : Int) = 2 ^ 1 - 1 from by decide, cand_low _ 1 (by omega)]
  omega
/-- the counts behind one more number -/
theorem cnt_next (f : Nat → Int) {k c x : Nat} (hc : k % 2 = c) (hx : mayN (f k) = x) (d : Nat) (hd : d < 2) (a : Int) : cntZ (parL f d (k + 1)) a = if d = c ∧ a = (x : Int) then cntZ (parL f c k) (x : Int) + 1 else cntZ (parL f d k) a := by
  show cntZ (parL f d k ++ _) a = _
  by_cases e : k % 2 = d
  · rw [if_pos e, hx, cntZ_app]
    by_cases e2 : a = (x : Int)
    · rw [if_pos e2, if_pos ⟨by omega, e2⟩, e2, show d = c by omega]
    · rw [if_neg e2, if_neg (fun h => e2 h.2)]
  · rw [if_neg e, List.append_nil, if_neg (fun h => e (by omega))]
/-- what is left of the counts, when k rows have been gone through, and j numbers of the next -/
def leftZ (P S : Nat → List Int) (k j c : Nat) (a : Int) : Int := if c < k then 0 else if c = k then cntZ (P c) a - cntZ ((S c).take j) a else cntZ (P c) a
theorem left_start (P S : Nat → List Int) (c : Nat) (a : Int) : leftZ P S 0 0 c a = cntZ (P c) a := by
  unfold leftZ
  rw [if_neg (by omega)]
  split
  · rw [List.take_zero, cntZ_nil]; omega
  · rfl
theorem left_next {P S : Nat → List Int} {k j : Nat} {x : Int} (hx : (S k)[j]? = some x) (c : Nat) (a : Int) : leftZ P S k (j + 1) c a = if c = k ∧ a = x then leftZ P S k j k x - 1 else leftZ P S k j c a := by
  unfold leftZ
  rw [if_neg (show ¬ k < k by omega), if_pos (rfl : k = k)]
  by_cases e : c = k
  · subst e
    rw [if_neg (show ¬ c < c by omega), if_pos (rfl : c = c), cntZ_take hx]
    by_cases e2 : a = x
    · rw [if_pos e2, if_pos ⟨rfl, e2⟩, e2]; omega
    · rw [if_neg e2, if_neg (show ¬ (c = c ∧ a = x) from fun h => e2 h.2), if_neg (show ¬ c < c by omega), if_pos (rfl : c = c)]
  · rw [if_neg (show ¬ (c = k ∧ a = x) from fun h => e h.1)]
    split
    · rfl
    · first | rfl | rw [if_neg e]
theorem left_done {P S : Nat → List Int} {k : Nat} (hp : (S k).Perm (P k)) (c : Nat) (a : Int) : leftZ P S (k + 1) 0 c a = leftZ P S k (S k).length c a := by
  unfold leftZ
  by_cases e : c = k
  · subst e
    rw [if_pos (by omega), if_neg (show ¬ c < c by omega), if_pos (rfl : c = c), List.take_length, cntZ_perm hp]; omega
  · by_cases e2 : c < k
    · rw [if_pos (by omega), if_pos e2]
    · rw [if_neg (by omega), if_neg e2, if_neg e]
      split
      · rw [List.take_zero, cntZ_nil]; omega
      · rfl
theorem left_zero {P S : Nat → List Int} {k : Nat} (hp : (S k).Perm (P k)) (a : Int) : leftZ P S k (S k).length k a = 0 := by
  unfold leftZ
  rw [if_neg (show ¬ k < k by omega), if_pos (rfl : k = k), List.take_length, cntZ_perm hp]; omega
theorem left_bd (P S : Nat → List Int) (k j c : Nat) (a : Int) (h1 : (P c).length ≤ 1024) (h2 : (S c).length ≤ 1024) : -1024 ≤ leftZ P S k j c a ∧ leftZ P S k j c a ≤ 1024 := by
  unfold leftZ
  have b1 := cntZ_bd (P c) a
  have b2 := cntZ_bd ((S c).take j) a
  have b3 : ((S c).take j).length ≤ (S c).length := by rw [List.length_take]; omega
  split
  · omega
  · split <;> omega
theorem keyZ {key : Value} {kl : Lit} (h : keyOf Tryd.prog 3 key = some kl) : ∃ a, key = .int .i64 a ∧ kl = kk a := by
  have u := Tryd.underlying3
  cases key <;> simp [keyOf, u, mapKey] at h
  rename_i a b
  obtain ⟨h1, h2⟩ := h
  first
    | exact ⟨_, rfl, h2.symm⟩
    | (subst h1; exact ⟨_, rfl, h2.symm⟩)
    | (obtain ⟨rfl, _⟩ := h1; exact ⟨_, rfl, h2.symm⟩)
set_option maxRecDepth 100000 in
set_option maxHeartbeats 32000000 in
theorem namessort_walk {no co nr cr : Nat} {ol or_ : Option Addr} {f : Nat → Int} {RW : List ByteArray} {w : World} (hT : TabN w) (hI : IsIn w ol no co f) (hS : SsIn w or_ nr cr RW) :
    Calls Tryd.prog 5 #[.slice ol no co, .slice or_ nr cr] w fun e w' => e = .returned (.bool true) ∧ Below w.heap.size w w' := by
  have HT := hid hT; have HI := hid hI; have HS := hid hS
  have hno : no ≤ 9223372036854775807 := by have := hI.2.2; unfold maxLen at this; omega
  have hnr : nr ≤ 9223372036854775807 := by have := hS.2.2.2; unfold maxLen at this; omega
  have hmm := @run_makeMap Tryd.prog
  clear hT hI hS
  by_cases h40 : 40 < no
  · have e0 : decide (40 < (no : Int)) = true := decide_eq_true (by omega)
    clear h40
    go_enter Tryd.func5, Tryd.ntmps5
    go_wp2_with fail
    refine (fit_c HT.out).mono ?_
    rintro e w1 ⟨rfl, hM⟩
    have HM := hid hM
    clear hM
    go_wp2_with fail
    go_ret
    exact ⟨rfl, HM.out.1⟩
  · have e0 : decide (40 < (no : Int)) = false := decide_eq_false (by omega)
    by_cases h20 : 20 < nr
    · have e1 : decide (20 < (nr : Int)) = true := decide_eq_true (by omega)
      clear h20
      go_enter Tryd.func5, Tryd.ntmps5
      go_wp2_with fail
      refine (fit_c HT.out).mono ?_
      rintro e w1 ⟨rfl, hM⟩
      have HM := hid hM
      clear hM
      go_wp2_with fail
      go_ret
      exact ⟨rfl, HM.out.1⟩
    · have e1 : decide (20 < (nr : Int)) = false := decide_eq_false (by omega)
      have h40 : no ≤ 40 := by omega
      have h20 : nr ≤ 20 := by omega
      go_enter Tryd.func5, Tryd.ntmps5
      go_wp2_with fail
      refine (fit_c HT.out).mono ?_
      rintro e w1 ⟨rfl, hM⟩
      have HB1 := hid hM.1
      have HT1 := hid (HT.out.bel hM.1)
      clear hM e0 e1
      go_upto_region 7 with fail
      obtain ⟨W, eW⟩ : ∃ W, W = ((w1.alloc (.map #[] 0)).alloc (.map #[] 0)).alloc (.cells #[.map (some w1.heap.size), .map (some (w1.heap.size + 1))] 33) := ⟨_, rfl⟩
      obtain ⟨B, eB⟩ : ∃ B, w.heap.size = B := ⟨_, rfl⟩
      obtain ⟨m, em⟩ : ∃ m : Nat → Nat, m = fun c => w1.heap.size + c := ⟨_, rfl⟩
      have HC0 : Hid (CS W B (w1.heap.size + 1 + 1) m 0 (.slice none 0 0) [] (fun _ _ => 0)) := by
        have o0 := World.ownsMap_made w1 Tryd.prog 3 pI
        have o1 := World.ownsMap_made (w1.alloc (.map #[] 0)) Tryd.prog 3 pI
        have s1 : (w1.alloc (.map #[] 0)).heap.size = w1.heap.size + 1 := by simp
        have s2 : ((w1.alloc (.map #[] 0)).alloc (.map #[] 0)).heap.size = w1.heap.size + 1 + 1 := by simp
        have hh := has_new ((w1.alloc (.map #[] 0)).alloc (.map #[] 0)) 33 #[.map (some w1.heap.size), .map (some (w1.heap.size + 1))]
        rw [s2] at hh
        rw [s1] at o1
        have hB : B ≤ w1.heap.size := by rw [← eB]; exact HB1.out.size
        refine ⟨World.ownsRow_nil _ _ _ _, ?_, fun k hk => ?_, ?_, by omega, fun k hk => ?_⟩
        · rw [eW, em]; exact hh
        · rw [eW, em]
          have : k = 0 ∨ k = 1 := by omega
          rcases this with rfl | rfl
          · refine ⟨0, _, map_tn (map_tn o0 (tn_alloc _ (.map #[] 0) NilB) (fun h => h)) (tn_alloc _ _ NilB) (fun h => h), Nat.le_refl _, cm_nil⟩
          · refine ⟨0, _, map_tn o1 (tn_alloc _ _ NilB) (fun h => h), Nat.le_refl _, cm_nil⟩
        · rw [em]; show w1.heap.size + 0 ≠ w1.heap.size + 1; omega
        · rw [em]; show B ≤ w1.heap.size + k; omega
      have HBW : Hid (Below B w W) := by
        unfold Hid
        rw [← eB, eW]
        exact ((HB1.out.trans ((below_new w1 _).mono HB1.out.size)).trans ((below_new _ _).mono (by have := HB1.out.size; simp; omega))).trans ((below_new _ _).mono (by have := HB1.out.size; simp; omega))
      have HBs : Hid (w.heap.size = B) := eB
      obtain ⟨cb, ecb⟩ : ∃ cb, w1.heap.size + 1 + 1 = cb := ⟨_, rfl⟩
      rw [ecb] at HC0
      have HTW : Hid (TabN W) := HT.out.bel (by rw [HBs.out]; exact HBW.out)
      try rw [← eW]
      try rw [ecb]
      clear eW em eB ecb HT1 HB1 hmm
      go_wp2_with fail
      go_loopg [5, 7, 8, 9, 38] no (fun g v a x y i wx => ∃ k : Nat, k + g = no ∧ i = .int .i64 (k : Nat) ∧ Hid (CS wx B cb m k v (inL f k) (fun c => cntZ (parL f c k))) ∧ Hid (Below B w wx))
      case atStart => exact ⟨0, by omega, rfl, HC0.out.congr (fun c hc a => rfl) (Nat.le_refl _), HBW⟩
      case round =>
        obtain ⟨k, hk, rfl, HC, HB⟩ := hrel
        obtain ⟨v5, ev5⟩ : ∃ v, u5 = v := ⟨_, rfl⟩
        rw [ev5] at HC ⊢
        clear ev5
        by_cases hlt : k < no
        · obtain ⟨b, off, rfl, hc⟩ := HI.out.1 (by omega)
          have z1 : wr.cell? ⟨b, off + k, none⟩ = some (.int .i64 (f k)) := by
            have h0 := hc k hlt
            exact (HB.out.cell (by have := World.block_lt_of_cell? (a := ⟨b, off + k, none⟩) w h0; rw [← HBs.out]; exact this)).trans h0
          have hfb := HI.out.2.1 k
          have HMy := hid (may_c (w := wr) hfb.1 hfb.2)
          have HT1 : Hid (TabN wr) := HT.out.bel (by rw [HBs.out]; exact HB.out)
          have a1 := nand1 k
          obtain ⟨c, ec⟩ : ∃ c, k % 2 = c := ⟨_, rfl⟩
          obtain ⟨x, ex⟩ : ∃ x, mayN (f k) = x := ⟨_, rfl⟩
          obtain ⟨z, ez⟩ : ∃ z, f k = z := ⟨_, rfl⟩
          have lx : x ≤ 4611686018427387904 := by rw [← ex]; exact mayN_le _
          have HN := hid (fun d hd a => cnt_next f ec ex d hd a)
          have HIn : Hid (inL f (k + 1) = inL f k ++ [nmB (if c = 0 then 99 else 106) x]) := by
            unfold Hid
            show inL f k ++ [nmB (if k % 2 = 0 then 99 else 106) (mayN (f k))] = _
            rw [ec, ex]
          have hc2 : c < 2 := by omega
          rw [ec] at a1
          rw [ez] at z1
          rw [ex, ez] at HMy
          have hlen : (inL f k).length ≤ 1048576 := by rw [inL_len]; omega
          have HLen := hid hlen
          have hcb := HN.out c hc2 x
          have HGe : Hid (B ≤ wr.heap.size) := by unfold Hid; have h1 := HB.out.size; have h2 := HBs.out; omega
          have bd := cntZ_bd (parL f c k) (x : Int)
          have hpl : (parL f c k).length ≤ 40 := by
            have := par_len f k
            have : c = 0 ∨ c = 1 := by omega
            rcases this with rfl | rfl <;> omega
          clear hc hfb ec ex ez hlen hcb
          have h01 : c = 0 ∨ c = 1 := by omega
          rcases h01 with rfl | rfl
          · go_wp2_with fail
            refine HMy.out.mono ?_
            rintro e w2 ⟨rfl, rfl⟩
            go_wp2_with fail
            refine (check_c (N := x) (by omega) HT1.out).mono ?_
            rintro e w2 ⟨rfl, hM⟩
            have HC2 := hid (HC.out.bel hM.1)
            have HB2 := hid (HB.out.trans (hM.1.mono HGe.out))
            have HGe2 : Hid (B ≤ w2.heap.size) := Nat.le_trans HGe.out hM.1.size
            obtain ⟨v', w3, hrun, hC3, hB3⟩ := CS.app (x := nmB 99 x) 31 HC2.out HLen.out HGe2.out
            have HRUN := hid hrun
            have HC3 := hid hC3
            have HB3 := hid (HB2.out.trans hB3)
            have HGe3 : Hid (B ≤ w3.heap.size) := Nat.le_trans HGe2.out hB3.size
            clear hM hrun hC3 hB3 HC2 HB2
            have z2 := HC3.out.cell (k := 0) (by omega)
            have l1 := (HC3.out.cnt 0 (by omega)).look (a := (x : Int)) (by omega) (by omega)
            obtain ⟨N, D, hown, hN, hcm⟩ := HC3.out.cnt 0 (by omega)
            have HCM := hid hcm
            obtain ⟨y, ey⟩ : ∃ y, cntZ (parL f 0 k) (x : Int) = y := ⟨_, rfl⟩
            have EY := hid ey
            obtain ⟨mc, emc⟩ : ∃ mc, m 0 = mc := ⟨_, rfl⟩
            have EMC := hid emc
            have l1 : (Instr.lookup 32 (.map (some (m 0))) (.int .i64 (x : Int)) false).run Tryd.prog w3 = .ok (.int .i64 (cntZ (parL f 0 k) (x : Int))) w3 := l1
            rw [ey, emc] at l1
            rw [ey] at bd
            rw [emc] at z2 hown
            clear hcm ey emc
            go_wp2_with (first | (at_builtin; refine Lib.wpList_append_run _ rfl _ _ _ _ rfl _ _ rfl rfl _ _ HRUN.out ?_; go_frame) | (at_mapUpdate; refine wpList_mapUpdate_own _ rfl _ _ _ 32 rfl 3 3 lawI Tryd.underlying32 pI mc N D rfl hown (by unfold maxLen; omega) _ _ _ rfl rfl (keyI (a := (x : Int)) (by omega) (by omega)) (.lit (.int .i64 (y + 1))) [] (plainElem_int Tryd.underlying3 (WalkArith.wf_i64 ⟨by omega, by omega⟩)) ?_; intro w5 hown5 hg5; have HW5 := hid (And.intro hown5 hg5); clear hown5 hg5; go_frame))
            have hown5 := HW5.out.1
            have hg5 := HW5.out.2
            have HC5 : Hid (CS w5 B cb m (k + 1) v' (inL f (k + 1)) (fun c => cntZ (parL f c (k + 1)))) := by
              unfold Hid
              rw [HIn.out]
              rw [← EMC.out] at hown5 hg5
              exact HC3.out.upd (by omega) hN HCM.out hown5 hg5 fun d hd a => by
                have h1 := HN.out d hd a
                rw [EY.out] at h1
                exact h1
            have HB5 : Hid (Below B w w5) := by
              rw [← EMC.out] at hg5
              exact HB3.out.trans (HC3.out.bel_upd (by omega) hg5 HGe3.out)
            clear hown5 hg5 hown HC3 z2 l1
            go_wp2_with fail
            go_roundg (no - k - 1)
            case rel => exact ⟨k + 1, by omega, by go_num, HC5, HB5⟩
            case measure => omega
          · go_wp2_with fail
            refine HMy.out.mono ?_
            rintro e w2 ⟨rfl, rfl⟩
            go_wp2_with fail
            refine (segment_c (N := x) (by omega) HT1.out).mono ?_
            rintro e w2 ⟨rfl, hM⟩
            have HC2 := hid (HC.out.bel hM.1)
            have HB2 := hid (HB.out.trans (hM.1.mono HGe.out))
            have HGe2 : Hid (B ≤ w2.heap.size) := Nat.le_trans HGe.out hM.1.size
            obtain ⟨v', w3, hrun, hC3, hB3⟩ := CS.app (x := nmB 106 x) 31 HC2.out HLen.out HGe2.out
            have HRUN := hid hrun
            have HC3 := hid hC3
            have HB3 := hid (HB2.out.trans hB3)
            have HGe3 : Hid (B ≤ w3.heap.size) := Nat.le_trans HGe2.out hB3.size
            clear hM hrun hC3 hB3 HC2 HB2
            have z2 := HC3.out.cell (k := 1) (by omega)
            have l1 := (HC3.out.cnt 1 (by omega)).look (a := (x : Int)) (by omega) (by omega)
            obtain ⟨N, D, hown, hN, hcm⟩ := HC3.out.cnt 1 (by omega)
            have HCM := hid hcm
            obtain ⟨y, ey⟩ : ∃ y, cntZ (parL f 1 k) (x : Int) = y := ⟨_, rfl⟩
            have EY := hid ey
            obtain ⟨mc, emc⟩ : ∃ mc, m 1 = mc := ⟨_, rfl⟩
            have EMC := hid emc
            have l1 : (Instr.lookup 32 (.map (some (m 1))) (.int .i64 (x : Int)) false).run Tryd.prog w3 = .ok (.int .i64 (cntZ (parL f 1 k) (x : Int))) w3 := l1
            rw [ey, emc] at l1
            rw [ey] at bd
            rw [emc] at z2 hown
            clear hcm ey emc
            go_wp2_with (first | (at_builtin; refine Lib.wpList_append_run _ rfl _ _ _ _ rfl _ _ rfl rfl _ _ HRUN.out ?_; go_frame) | (at_mapUpdate; refine wpList_mapUpdate_own _ rfl _ _ _ 32 rfl 3 3 lawI Tryd.underlying32 pI mc N D rfl hown (by unfold maxLen; omega) _ _ _ rfl rfl (keyI (a := (x : Int)) (by omega) (by omega)) (.lit (.int .i64 (y + 1))) [] (plainElem_int Tryd.underlying3 (WalkArith.wf_i64 ⟨by omega, by omega⟩)) ?_; intro w5 hown5 hg5; have HW5 := hid (And.intro hown5 hg5); clear hown5 hg5; go_frame))
            have hown5 := HW5.out.1
            have hg5 := HW5.out.2
            have HC5 : Hid (CS w5 B cb m (k + 1) v' (inL f (k + 1)) (fun c => cntZ (parL f c (k + 1)))) := by
              unfold Hid
              rw [HIn.out]
              rw [← EMC.out] at hown5 hg5
              exact HC3.out.upd (by omega) hN HCM.out hown5 hg5 fun d hd a => by
                have h1 := HN.out d hd a
                rw [EY.out] at h1
                exact h1
            have HB5 : Hid (Below B w w5) := by
              rw [← EMC.out] at hg5
              exact HB3.out.trans (HC3.out.bel_upd (by omega) hg5 HGe3.out)
            clear hown5 hg5 hown HC3 z2 l1
            go_wp2_with fail
            go_roundg (no - k - 1)
            case rel => exact ⟨k + 1, by omega, by go_num, HC5, HB5⟩
            case measure => omega
        · have e : k = no := by omega
          subst e
          obtain ⟨F0, eF0⟩ : ∃ F : Nat → Int → Int, F = fun c => cntZ (parL f c k) := ⟨_, rfl⟩
          rw [← eF0] at HC
          have HF0 := hid eF0
          clear eF0
          go_wp2_with fail
          go_loopg [5, 11, 12, 13, 14, 68] nr (fun g v s c x q i wx => ∃ (j : Nat) (R : List ByteArray), j + g = nr ∧ i = .int .i64 (j : Nat) ∧ Hid (R.length ≤ j ∧ ∀ s ∈ R, s.size ≤ maxLen ∧ ∀ d m, NmOk d m → s ≠ nmB d m) ∧ Hid (CS wx B cb m k v (R ++ inL f k) F0) ∧ Hid (Below B w wx))
          case atStart => exact ⟨0, [], by omega, rfl, ⟨Nat.le_refl _, fun s h => (by cases h)⟩, HC, HB⟩
          case round =>
            clear HC HB
            obtain ⟨j, R, hj, rfl, HR, HC, HB⟩ := hrel
            obtain ⟨v5, ev5⟩ : ∃ v, u5 = v := ⟨_, rfl⟩
            rw [ev5] at HC ⊢
            clear ev5
            have HT1 : Hid (TabN wr) := HT.out.bel (by rw [HBs.out]; exact HB.out)
            have HGe : Hid (B ≤ wr.heap.size) := by unfold Hid; have h1 := HB.out.size; have h2 := HBs.out; omega
            have HLen : Hid ((R ++ inL f k).length ≤ 1048576) := by unfold Hid; rw [List.length_append, inL_len]; have := HR.out.1; omega
            by_cases hlt : j < nr
            · obtain ⟨b, off, rfl, hc⟩ := HS.out.1 (by have := HS.out.2.1; omega)
              obtain ⟨s, es⟩ : ∃ s, RW[j]? = some s := ⟨_, List.getElem?_eq_getElem (by have := HS.out.2.1; omega)⟩
              have z1 : wr.cell? ⟨b, off + j, none⟩ = some (.string s) := by
                have h0 := hc j s es
                exact (HB.out.cell (by have := World.block_lt_of_cell? (a := ⟨b, off + j, none⟩) w h0; rw [← HBs.out]; exact this)).trans h0
              have hs := HS.out.2.2.1 s (List.mem_of_getElem? es)
              have HP := hid (parse_c hs HT1.out)
              have HSz := hid hs
              clear hc es hs
              go_wp2_with fail
              refine HP.out.mono ?_
              rintro e w2 ⟨⟨c, x, q, rfl, h1, h2⟩, rfl⟩
              cases q with
              | true =>
                clear h1 h2
                go_wp2_with fail
                go_roundg (nr - j - 1)
                case rel => exact ⟨j + 1, R, by omega, by go_num, ⟨by have := HR.out.1; omega, HR.out.2⟩, HC, HB⟩
                case measure => omega
              | false =>
                obtain ⟨rfl, rfl, hno2⟩ := h2 rfl
                have HNo := hid hno2
                clear h1 h2 hno2
                obtain ⟨v', w3, hrun, hC3, hB3⟩ := CS.pre (x := s) 31 HC.out HLen.out HGe.out
                have HRUN := hid hrun
                have HC3 : Hid (CS w3 B cb m k v' ((s :: R) ++ inL f k) F0) := hC3
                have HB3 := hid (HB.out.trans hB3)
                clear hrun hC3 hB3 HC HB
                go_wp2_with (at_builtin; refine Lib.wpList_append_run _ rfl _ _ _ _ rfl _ _ rfl rfl _ _ HRUN.out ?_; go_frame)
                go_roundg (nr - j - 1)
                case rel => exact ⟨j + 1, s :: R, by omega, by go_num, ⟨by have := HR.out.1; rw [List.length_cons]; omega, fun t ht => by
                  rcases List.mem_cons.1 ht with rfl | ht
                  · exact ⟨HSz.out, HNo.out⟩
                  · exact HR.out.2 t ht⟩, HC3, HB3⟩
                case measure => omega
            · have HAll : Hid (∀ t ∈ R ++ inL f k, t.size ≤ maxLen) := fun t ht => by
                rcases List.mem_append.1 ht with ht | ht
                · exact (HR.out.2 t ht).1
                · exact inL_size f k t ht
              have hR0 : ∀ (c : Nat) (R' : List ByteArray), (∀ s ∈ R', ∀ d m, NmOk d m → s ≠ nmB d m) → numsN c R' = [] := fun c R' h => List.filterMap_eq_nil_iff.2 fun s hs => isN_none (h s hs)
              have HNums : Hid (numsN 99 (R ++ inL f k) = parL f 0 k ∧ numsN 106 (R ++ inL f k) = parL f 1 k) := by
                unfold Hid
                have h1 := inL_num f k
                rw [numsN_app, numsN_app, hR0 99 R (fun s hs => (HR.out.2 s hs).2), hR0 106 R (fun s hs => (HR.out.2 s hs).2), h1.1, h1.2]
                exact ⟨rfl, rfl⟩
              obtain ⟨ao, cc, rfl, hss⟩ := HC.out.texts
              have HSo := hid (nsort_c (c := cc) HT1.out hss rfl HAll.out HLen.out)
              rw [HNums.out.1, HNums.out.2] at HSo
              obtain ⟨IL, eIL⟩ : ∃ IL, R ++ inL f k = IL := ⟨_, rfl⟩
              rw [eIL] at HSo HC ⊢
              clear hss hR0 eIL
              go_wp2_with fail
              refine HSo.out.mono ?_
              rintro e w2 ⟨va, vb, rfl, hR2, hB2⟩
              obtain ⟨o1, c1, e1, hc1, -⟩ := hR2.a.cells
              obtain ⟨o2, c2, e2, hc2, -⟩ := hR2.b.cells
              obtain ⟨n1, en1⟩ : ∃ n, (sortZ (parL f 0 k)).length = n := ⟨_, rfl⟩
              obtain ⟨n2, en2⟩ : ∃ n, (sortZ (parL f 1 k)).length = n := ⟨_, rfl⟩
              rw [en1] at e1 hc1
              rw [en2] at e2 hc2
              have hn12 : n1 + n2 = k := by rw [← en1, ← en2, sortZ_len, sortZ_len]; exact par_len f k
              have HN12 := hid (And.intro en1 (And.intro en2 hn12))
              have hn1k : n1 ≤ 40 := by omega
              have hn2k : n2 ≤ 40 := by omega
              clear en1 en2 hn12
              obtain ⟨P, eP⟩ : ∃ P : Nat → List Int, P = fun c => parL f c k := ⟨_, rfl⟩
              obtain ⟨S, eS⟩ : ∃ S : Nat → List Int, S = fun c => sortZ (parL f c k) := ⟨_, rfl⟩
              subst e1 e2
              obtain ⟨vv, ev⟩ : ∃ vv : Nat → Value, vv = fun c => if c = 0 then .slice o1 n1 c1 else .slice o2 n2 c2 := ⟨_, rfl⟩
              have HC2 := hid (HC.out.bel hB2)
              have HB2 := hid (HB.out.trans (hB2.mono HGe.out))
              have HGe2 : Hid (B ≤ w2.heap.size) := Nat.le_trans HGe.out hB2.size
              obtain ⟨W3, eW3⟩ : ∃ W, W = w2.alloc (.cells #[.slice o1 n1 c1, .slice o2 n2 c2] 30) := ⟨_, rfl⟩
              have HC3 : Hid (CS W3 B cb m k (.slice ao IL.length cc) IL (leftZ P S 0 0)) := by
                rw [eW3]
                exact (HC2.out.tn (X := NilB) (tn_alloc _ _ NilB) (fun b hb => hb.elim)).congr (fun c hc a => by rw [left_start, eP, HF0.out]) (Nat.le_refl _)
              have HR3 : Hid (RS W3 wr.heap.size w2.heap.size vv S) := by
                rw [eW3, ev, eS]
                refine ⟨fun c hc => ?_, has_new _ _ _⟩
                have : c = 0 ∨ c = 1 := by omega
                rcases this with rfl | rfl
                · exact own_tn hR2.a (tn_alloc _ _ NilB) (fun _ _ h => h)
                · exact own_tn hR2.b (tn_alloc _ _ NilB) (fun _ _ h => h)
              have HB3 : Hid (Below B w W3) := by rw [eW3]; exact HB2.out.trans ((below_new _ _).mono HGe2.out)
              have HGe3 : Hid (B ≤ W3.heap.size) := by unfold Hid; have h1 := HB3.out.size; have h2 := HBs.out; omega
              have HP : Hid (∀ c, (S c).Perm (P c) ∧ (S c).Pairwise (· ≤ ·) ∧ ∀ x ∈ S c, 0 ≤ x ∧ x ≤ 4611686018427387904) := fun c => by
                rw [eP, eS]
                exact ⟨sortZ_perm _, sortZ_up _, fun x hx => par_may f c k x ((sortZ_perm _).mem_iff.1 hx)⟩
              have HLn : Hid (∀ c, (P c).length ≤ 1024 ∧ (S c).length ≤ 1024) := by
                have h1 : ∀ c n, (parL f c n).length ≤ n := fun c n => by
                  induction n with
                  | zero => exact Nat.le_refl _
                  | succ n ih =>
                    show (parL f c n ++ _).length ≤ _
                    rw [List.length_append]
                    split <;> simp <;> omega
                intro c
                rw [eP, eS]
                show (parL f c k).length ≤ 1024 ∧ (sortZ (parL f c k)).length ≤ 1024
                rw [sortZ_len]
                have := h1 c k
                omega
              obtain ⟨gs, egs⟩ : ∃ gs, w2.heap.size = gs := ⟨_, rfl⟩
              have EGS := hid egs
              rw [egs] at HR3
              have EW3 := hid eW3
              obtain ⟨B2, eB2⟩ : ∃ B2, wr.heap.size = B2 := ⟨_, rfl⟩
              rw [eB2] at HR3
              clear eP eS ev hR2 hB2 HC HB HC2 HB2 egs HSo HNums HAll HR eB2
              go_upto_region 24 with fail
              go_wp2_with fail
              rw [← EW3.out, EGS.out]
              clear eW3
              go_loopg [17, 18, 19, 20, 22, 94] 2 (fun g a b c d e i wx => ∃ q M : Nat, q + g = 2 ∧ i = .int .i64 (q : Nat) ∧ M ≤ 40 + 2048 * q ∧ Hid (CS wx B cb m M (.slice ao IL.length cc) IL (leftZ P S q 0)) ∧ Hid (RS wx B2 gs vv S) ∧ Hid (Below B w wx))
              case atStart => exact ⟨0, k, by omega, rfl, by omega, HC3, HR3, HB3⟩
              case round =>
                clear HC3 HR3 HB3 HGe3
                obtain ⟨q, M0, hq, rfl, hM0, HC, HR, HB⟩ := hrel
                by_cases hlt2 : q < 2
                · have z1 := HR.out.cell hlt2
                  obtain ⟨ax, cx, evx, hcx, -⟩ := (HR.out.rows q hlt2).cells
                  obtain ⟨N1, eN1⟩ : ∃ n, (S q).length = n := ⟨_, rfl⟩
                  have hN1 : N1 ≤ 1024 := by rw [← eN1]; exact (HLn.out q).2
                  rw [evx, eN1] at z1
                  rw [eN1] at evx hcx
                  have EV := hid evx
                  have EN1 := hid eN1
                  clear evx eN1
                  go_wp2_with fail
                  go_loopg [19, 20, 101] N1 (fun g a b i wx => ∃ j M : Nat, j + g = N1 ∧ i = .int .i64 (j : Nat) ∧ M ≤ 40 + 2048 * q + j ∧ Hid (CS wx B cb m M (.slice ao IL.length cc) IL (leftZ P S q j)) ∧ Hid (RS wx B2 gs vv S) ∧ Hid (Below B w wx))
                  case atStart => exact ⟨0, M0, by omega, rfl, by omega, HC, HR, HB⟩
                  case round =>
                    clear HC HR HB z1
                    obtain ⟨j, M, hj, rfl, hM, HC, HR, HB⟩ := hrel
                    have HGe : Hid (B ≤ wr.heap.size) := by unfold Hid; have h1 := HB.out.size; have h2 := HBs.out; omega
                    by_cases hlt3 : j < N1
                    · obtain ⟨x, es⟩ : ∃ x, (S q)[j]? = some x := ⟨_, List.getElem?_eq_getElem (by have := EN1.out; omega)⟩
                      have hrow := HR.out.rows q hlt2
                      rw [EV.out] at hrow
                      obtain ⟨ax', cx', e', -, hcell⟩ := hrow.cells
                      have eax : ax = ax' := by injection e'
                      subst eax
                      obtain ⟨g, rfl, hc0⟩ := hcell (by have := EN1.out; omega)
                      have z2 := hc0 j x es
                      have hx := (HP.out q).2.2 x (List.mem_of_getElem? es)
                      have ES := hid es
                      have HNx := hid (fun c a => left_next (P := P) es c a)
                      have z3 := HC.out.cell hlt2
                      have l1 := (HC.out.cnt q hlt2).look (a := x) (by omega) (by omega)
                      obtain ⟨N, D, hown, hN, hcm⟩ := HC.out.cnt q hlt2
                      have HCM := hid hcm
                      have bd := left_bd P S q j q x (HLn.out q).1 (HLn.out q).2
                      obtain ⟨y, ey⟩ : ∃ y, leftZ P S q j q x = y := ⟨_, rfl⟩
                      have EY := hid ey
                      obtain ⟨mc, emc⟩ : ∃ mc, m q = mc := ⟨_, rfl⟩
                      have EMC := hid emc
                      rw [ey, emc] at l1
                      rw [ey] at bd
                      rw [emc] at z3 hown
                      have HCW := hid (HC.out.cnt q hlt2)
                      rw [emc] at HCW
                      have HAt := hid (fun (w5 : World) (h : RS w5 B2 gs vv S) (i : Nat) (t : Int) (ht : (S q)[i]? = some t) => (by
                        have hr5 := h.rows q hlt2
                        rw [EV.out] at hr5
                        obtain ⟨ax', cx', e', -, hcell⟩ := hr5.cells
                        cases e'
                        obtain ⟨g', eg, hc0⟩ := hcell (by have := EN1.out; omega)
                        cases eg
                        exact hc0 i t ht : w5.cell? ⟨g, i, none⟩ = some (.int .i64 t)))
                      clear hcm ey emc hcell hc0 es hrow e'
                      by_cases hj0 : j = 0
                      · subst hj0
                        go_wp2_with (at_mapUpdate; refine wpList_mapUpdate_own _ rfl _ _ _ 32 rfl 3 3 lawI Tryd.underlying32 pI mc N D rfl hown (by unfold maxLen; omega) _ _ _ rfl rfl (keyI (a := x) (by omega) (by omega)) (.lit (.int .i64 (y - 1))) [] (plainElem_int Tryd.underlying3 (WalkArith.wf_i64 ⟨by omega, by omega⟩)) ?_; intro w5 hown5 hg5; have HW5 := hid (And.intro hown5 hg5); clear hown5 hg5; go_frame)
                        have hown5 := HW5.out.1
                        have hg5 := HW5.out.2
                        have HR5 := hid (HR.out.upd HCW.out hg5)
                        have HC5 : Hid (CS w5 B cb m (M + 1) (.slice ao IL.length cc) IL (leftZ P S q (0 + 1))) := by
                          unfold Hid
                          rw [← EMC.out] at hown5 hg5
                          exact HC.out.upd hlt2 hN HCM.out hown5 hg5 fun d hd a => by
                            have h1 := HNx.out d a
                            rw [EY.out] at h1
                            exact h1
                        have HB5 : Hid (Below B w w5) := by
                          rw [← EMC.out] at hg5
                          exact HB.out.trans (HC.out.bel_upd hlt2 hg5 HGe.out)
                        clear hown5 hg5 hown z3 l1
                        go_wp2_with fail
                        go_roundg (N1 - 0 - 1)
                        case rel => exact ⟨0 + 1, M + 1, by omega, by go_num, by omega, HC5, HR5, HB5⟩
                        case measure => omega
                      · obtain ⟨j', ej'⟩ : ∃ j', j = j' + 1 := ⟨j - 1, by omega⟩
                        subst ej'
                        obtain ⟨xp, es'⟩ : ∃ x, (S q)[j']? = some x := ⟨_, List.getElem?_eq_getElem (by have := EN1.out; omega)⟩
                        have hle : xp ≤ x := by
                          have h1 := (HP.out q).2.1
                          have h2 := ES.out
                          obtain ⟨b1, e1⟩ := List.getElem?_eq_some_iff.1 h2
                          obtain ⟨b2, e2⟩ := List.getElem?_eq_some_iff.1 es'
                          rw [← e1, ← e2]
                          exact List.pairwise_iff_getElem.1 h1 j' (j' + 1) b2 b1 (by omega)
                        have d1 : decide (x < xp) = false := decide_eq_false (by omega)
                        have d2 : ((j' + 1 : Nat) : Int) - 1 = (j' : Int) := by omega
                        have ES' := hid es'
                        clear es'
                        go_wp2_with (at_mapUpdate; refine wpList_mapUpdate_own _ rfl _ _ _ 32 rfl 3 3 lawI Tryd.underlying32 pI mc N D rfl hown (by unfold maxLen; omega) _ _ _ rfl rfl (keyI (a := x) (by omega) (by omega)) (.lit (.int .i64 (y - 1))) [] (plainElem_int Tryd.underlying3 (WalkArith.wf_i64 ⟨by omega, by omega⟩)) ?_; intro w5 hown5 hg5; have HR5 := hid (HR.out.upd HCW.out hg5); have z4 := HAt.out w5 HR5.out j' xp ES'.out; have HW5 := hid (And.intro hown5 hg5); clear hown5 hg5; go_frame)
                        have hown5 := HW5.out.1
                        have hg5 := HW5.out.2
                        have HR5 := hid (HR.out.upd HCW.out hg5)
                        have HC5 : Hid (CS w5 B cb m (M + 1) (.slice ao IL.length cc) IL (leftZ P S q (j' + 1 + 1))) := by
                          unfold Hid
                          rw [← EMC.out] at hown5 hg5
                          exact HC.out.upd hlt2 hN HCM.out hown5 hg5 fun d hd a => by
                            have h1 := HNx.out d a
                            rw [EY.out] at h1
                            exact h1
                        have HB5 : Hid (Below B w w5) := by
                          rw [← EMC.out] at hg5
                          exact HB.out.trans (HC.out.bel_upd hlt2 hg5 HGe.out)
                        clear hown5 hg5 hown z3 l1
                        go_wp2_with fail
                        go_roundg (N1 - (j' + 1) - 1)
                        case rel => exact ⟨j' + 1 + 1, M + 1, by omega, by go_num, by omega, HC5, HR5, HB5⟩
                        case measure => omega
                    · have e : j = N1 := by omega
                      subst e
                      have z3 := HC.out.cell hlt2
                      obtain ⟨N, D, hown, hN, hcm⟩ := HC.out.cnt q hlt2
                      obtain ⟨mc, emc⟩ : ∃ mc, m q = mc := ⟨_, rfl⟩
                      rw [emc] at z3 hown
                      have HZero : Hid (∀ a, D.atKey (kk a) (.lit (.int .i64 0)) = .lit (.int .i64 0)) := fun a => by
                        have h1 := hcm.at_ a
                        have h2 := left_zero (P := P) (S := S) (k := q) (HP.out q).1 a
                        rw [EN1.out] at h2
                        rw [h2] at h1
                        exact h1
                      have HKey : Hid (∀ kl, Maps.has D kl = true → ∃ a, kl = kk a) := hcm.has
                      have HC2 : Hid (CS wr B cb m M (.slice ao IL.length cc) IL (leftZ P S (q + 1) 0)) := HC.out.congr (fun c hc a => by
                        rw [left_done (HP.out q).1 c a, EN1.out]) (Nat.le_refl _)
                      clear hcm emc
                      go_wp2_with (at_range; refine wpList_range_own _ rfl _ 32 rfl 3 3 lawI Tryd.underlying32 pI mc N D rfl hown ?_; intro w0 hrg0 hg0 hs0)
                      go_frame
                      have HB0 : Hid (Below wr.heap.size wr w0) := (Below.refl _ _).grown hg0 (Nat.le_refl _) (fun j hj => by cases hj)
                      obtain ⟨gr, egr⟩ : ∃ g, wr.heap.size = g := ⟨_, rfl⟩
                      rw [egr] at hrg0 HB0 ⊢
                      have EG := hid egr
                      clear hg0 hs0 egr z3 hown
                      have d95 : decide ((q : Int) < 2) = true := decide_eq_true (by omega)
                      rw [d95]
                      go_loopw [22] (fun s wx => ∃ (left : Lit → Bool) (cnt : Nat), wx.ranges Tryd.prog 3 pI mc gr N D left cnt ∧ Hid (Below gr wr wx)) (fun _ wx => wx.rangeLeft mc gr)
                      case atStart => exact ⟨_, _, hrg0, HB0⟩
                      case round =>
                        clear HB0 hrg0
                        obtain ⟨left, cnt, hrg, HBr⟩ := hrel
                        go_wp2_with (at_next; refine wpList_next_ranges _ rfl _ rfl 3 lawI pI (Value.int .i64) (Value.int .i64) (fun key kl hk => by obtain ⟨a, e, _⟩ := keyZ hk; exact ⟨a, e⟩) (fun v y hv => by obtain ⟨c, rfl, _⟩ := plainElem_int_inv Tryd.underlying3 hv; exact ⟨c, rfl⟩) mc gr N D left cnt rfl hrg ?_ ?_)
                        · intro hc0 hl0
                          have HBr2 := HBr.out
                          rw [← EG.out] at HBr2
                          have HC5 := hid (HC2.out.bel HBr2)
                          have HR5 := hid (HR.out.tn (X := NilB) (Below.tn HBr2) (fun _ _ _ _ h => h) (fun h => h))
                          have HB5 : Hid (Below B w wr) := HB.out.trans (HBr2.mono HGe.out)
                          clear HBr2 hrg
                          go_wp2_with fail
                          go_roundg (2 - q - 1)
                          case rel => exact ⟨q + 1, M, by omega, by go_num, by omega, HC5, HR5, HB5⟩
                          case measure => omega
                        · intro x c kl yd yp w8 cnt8 hkey hlk hv hat hrg8 hlt8 hg8 hs8 hen0
                          obtain ⟨a, _, ekl⟩ := keyZ hkey
                          subst ekl
                          obtain ⟨c', ec, ey, _⟩ := plainElem_int_inv Tryd.underlying3 hv
                          have hc0 : c = 0 := by
                            have h1 := HZero.out a
                            rw [hat] at h1
                            cases ec
                            cases ey
                            injection h1 with h1
                            injection h1 with _ h1
                          subst hc0
                          have HB8 := hid (HBr.out.grown hg8 (by rw [← EG.out]; exact HBr.out.size) (fun j hj => by cases hj; exact Nat.le_refl _))
                          clear hat ec ey hv hg8 hs8
                          go_wp2_with fail
                          go_roundw
                          case rel => exact ⟨_, cnt8, hrg8, HB8⟩
                          case measure => rw [hrg8.left_eq, hrg.left_eq]; exact hlt8
                · have e : q = 2 := by omega
                  subst e
                  have hn12 := HN12.out.2.2
                  have s1 : (n1 : Int) + (n2 : Int) = (k : Int) := by omega
                  clear hn12
                  go_wp2_with fail
                  go_ret
                  exact ⟨rfl, by rw [HBs.out]; exact HB.out⟩
end Go.Proofs.YtmdhlobonnikcaaDoor.Fx
