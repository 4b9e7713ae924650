/- The statements' own all. -/
import Derived.Test.YtmfkcdinfahjlaaSwM
import Derived.Test.YtmfkcdinfahjlaaSwK
namespace Go.Proofs.Ytmfkcdinfahjlaa.Fx
open Go.ChangeShapes Go.WideShapes Go.ChangeAt Go.RowKit Go.Maps
set_option linter.unusedVariables false

set_option maxRecDepth 100000 in
set_option maxHeartbeats 8000000 in
theorem all_c {T : List It} {ao : Option Addr} {c n : Nat} {w : World} (hn : T.length = n) (h : LsT encI 6 w ao T) (hc : n ≤ c) (hl : n ≤ 64) (hI : ItsI T) :
    Calls Try.prog 19 #[.slice ao n c] w fun e w' => ∃ B L, e = .returned (.map (some B)) ∧ L.Perm (collect T) ∧ w'.ownsMap Try.prog 58 (plainElem Try.prog 3) B L.length (mapD L) ∧ w.heap.size ≤ B ∧ Below w.heap.size w w' := by
  have HL := hid h
  have HI := hid hI
  have HN := hid hn
  have hcap : ∀ i, i ≤ n → (allP T i).length ≤ 4096 := fun i hi => by
    have h1 := (allP_perm T i (by omega)).length_eq
    have h2 := collect_len (T.take i)
    have h3 : (T.take i).length ≤ 64 := by rw [List.length_take]; omega
    have h4 : (T.take i).length * (T.take i).length ≤ 64 * 64 := Nat.mul_le_mul h3 h3
    omega
  have HCap := hid hcap
  have hmm := @run_makeMap Try.prog
  clear h hI hn hcap
  go_enter Try.func19, Try.ntmps19
  go_wp2_with fail
  clear hmm
  go_loopg [11] n (fun g s11 wx => ∃ i : Nat, i + g = n ∧ s11 = .int .i64 i ∧ Hid (wx.ownsMap Try.prog 58 (plainElem Try.prog 3) w.heap.size (allP T i).length (mapD (allP T i))) ∧ Hid (Below w.heap.size w wx))
  case atStart => exact ⟨0, by omega, rfl, World.ownsMap_made _ _ _ _, (Below.refl _ _).alloc (Nat.le_refl _) _⟩
  case round =>
    obtain ⟨i, hi, rfl, HW, HM⟩ := hrel
    by_cases hlt : i < n
    · obtain ⟨a, ea⟩ : ∃ a, T[i]? = some a := ⟨_, List.getElem?_eq_getElem (by rw [HN.out]; exact hlt)⟩
      obtain ⟨b, off, rfl, hbl, hLB⟩ := HL.out (by rw [HN.out]; omega)
      have HAs : Hid (allP T (i + 1) = allP T i ++ withF a (T.take i)) := allP_succ ea
      obtain ⟨x0, x1, x2, x3, x4, x5⟩ := a
      obtain ⟨a0, a1, a2, a3, a4, a5⟩ := ((hLB.below HM.out hbl) i _ ea).i6
      obtain ⟨ii0, ii1, ii2, ii3, ii4⟩ := HI.out _ (List.mem_of_getElem? ea)
      simp only [] at a0 a1 a2 a3 a4 a5 ii0 ii1 ii2 ii3 ii4
      have HLB := hid hLB
      have hic : i ≤ c := by omega
      have hd0 : ¬ (0 = c) := by omega
      have hd1 : ¬ (c = 0) := by omega
      clear ea hLB
      obtain ⟨g0, eg⟩ : ∃ g, wr.heap.size = g := ⟨_, rfl⟩
      go_upto_region 5 with fail
      obtain ⟨W2, eW⟩ : ∃ V, V = wr.alloc (.cells #[.int .i64 x0, .int .i64 x1, .int .i64 x2, .int .i64 x3, .int .i64 x4, .bool x5] 61) := ⟨_, rfl⟩
      have hh : Hid (Has W2 g0 61 #[.int .i64 x0, .int .i64 x1, .int .i64 x2, .int .i64 x3, .int .i64 x4, .bool x5]) := by unfold Hid; rw [eW, ← eg]; exact has_new _ _ _
      have HW2 : Hid (W2.ownsMap Try.prog 58 (plainElem Try.prog 3) w.heap.size (allP T i).length (mapD (allP T i))) := by unfold Hid; rw [eW]; exact HW.out.alloc _
      have HM2 : Hid (Below w.heap.size w W2) := by unfold Hid; rw [eW]; exact HM.out.alloc HM.out.size _
      have hg0 : g0 ≠ w.heap.size := by have := HW.out.lt; omega
      rw [← eW]
      clear eW a0 a1 a2 a3 a4 a5 eg
      go_wp2_with fail
      go_loopg [20] i (fun g s20 wy => ∃ j : Nat, j + g = i ∧ s20 = .int .i64 j ∧ Hid (wy.ownsMap Try.prog 58 (plainElem Try.prog 3) w.heap.size (allP T i ++ withF ⟨x0, x1, x2, x3, x4, x5⟩ (T.take j)).length (mapD (allP T i ++ withF ⟨x0, x1, x2, x3, x4, x5⟩ (T.take j)))) ∧ Hid (Below w.heap.size w wy) ∧ Hid (Has wy g0 61 #[.int .i64 x0, .int .i64 x1, .int .i64 x2, .int .i64 x3, .int .i64 x4, .bool x5]))
      case atStart => exact ⟨0, by omega, rfl, by
        unfold Hid
        rw [List.take_zero, show withF ⟨x0, x1, x2, x3, x4, x5⟩ [] = [] from rfl, List.append_nil]
        exact HW2.out, HM2, hh⟩
      case round =>
        clear hh HW2 HM2 HW
        obtain ⟨j, hj, rfl, HW3, HM3, HH3⟩ := hrel
        by_cases hlt2 : j < i
        · obtain ⟨bb, eb⟩ : ∃ x, T[j]? = some x := ⟨_, List.getElem?_eq_getElem (by rw [HN.out]; omega)⟩
          have HTs : Hid (T.take (j + 1) = T.take j ++ [bb]) := by unfold Hid; rw [List.take_add_one, eb]; rfl
          obtain ⟨y0, y1, y2, y3, y4, y5⟩ := bb
          obtain ⟨b0, b1, b2, b3, b4, b5⟩ := ((HLB.out.below HM3.out hbl) j _ eb).i6
          obtain ⟨jj0, jj1, jj2, jj3, jj4⟩ := HI.out _ (List.mem_of_getElem? eb)
          simp only [] at b0 b1 b2 b3 b4 b5 jj0 jj1 jj2 jj3 jj4
          clear eb
          obtain ⟨g1, eg⟩ : ∃ g, wr.heap.size = g := ⟨_, rfl⟩
          go_upto_region 8 with fail
          obtain ⟨W4, eW⟩ : ∃ V, V = wr.alloc (.cells #[.int .i64 y0, .int .i64 y1, .int .i64 y2, .int .i64 y3, .int .i64 y4, .bool y5] 61) := ⟨_, rfl⟩
          have HHb : Hid (Has W4 g1 61 #[.int .i64 y0, .int .i64 y1, .int .i64 y2, .int .i64 y3, .int .i64 y4, .bool y5]) := by unfold Hid; rw [eW, ← eg]; exact has_new _ _ _
          have HHa : Hid (Has W4 g0 61 #[.int .i64 x0, .int .i64 x1, .int .i64 x2, .int .i64 x3, .int .i64 x4, .bool x5]) := by unfold Hid; rw [eW]; exact HH3.out.more _
          obtain ⟨K, eK⟩ : ∃ K, allP T i ++ withF ⟨x0, x1, x2, x3, x4, x5⟩ (T.take j) = K := ⟨_, rfl⟩
          have EK := hid eK
          rw [eK] at HW3
          have HW4 : Hid (W4.ownsMap Try.prog 58 (plainElem Try.prog 3) w.heap.size K.length (mapD K)) := by unfold Hid; rw [eW]; exact HW3.out.alloc _
          have HM4 : Hid (Below w.heap.size w W4) := by unfold Hid; rw [eW]; exact HM3.out.alloc HM3.out.size _
          have hKl : K.length ≤ 4096 := by
            rw [← eK]
            have h1 := HCap.out (i + 1) (by omega)
            rw [HAs.out] at h1
            simp only [List.length_append] at h1 ⊢
            have h2 : (withF ⟨x0, x1, x2, x3, x4, x5⟩ (T.take j)).length ≤ (withF ⟨x0, x1, x2, x3, x4, x5⟩ (T.take i)).length := by
              unfold withF
              rw [List.length_map, List.length_map]
              have h3 : T.take j = (T.take i).take j := by rw [List.take_take]; congr 1; omega
              rw [h3]
              exact ((List.take_sublist _ _).filter _).length_le
            omega
          rw [← eW]
          clear eW b0 b1 b2 b3 b4 b5 eg HW3 HM3 HH3 eK
          obtain ⟨t, et⟩ : ∃ t, taken ⟨x0, x1, x2, x3, x4, x5⟩ ⟨y0, y1, y2, y3, y4, y5⟩ = t := ⟨_, rfl⟩
          have ET := hid et
          have HG : Hid (∀ w, x5 = false ∨ y5 = false → Calls Try.prog 12 #[rectW x1 x2 x3 x4, rectW y1 y2 y3 y4] w fun e w' => e = .returned (.bool t) ∧ Made w.heap.size w w') := fun w hs => meet_w x1 x2 x3 x4 y1 y2 y3 y4 t w ii1 ii2 ii3 ii4 jj1 jj2 jj3 jj4 (by
            rw [← et]
            exact taken_iff (by rcases hs with rfl | rfl <;> simp))
          have HT : Hid (x5 = true → y5 = true → t = false) := fun h1 h2 => by rw [← et]; unfold taken; simp [h1, h2]
          clear et
          have a1 := HHa.out.at_ 1
          have a2 := HHa.out.at_ 2
          have a3 := HHa.out.at_ 3
          have a4 := HHa.out.at_ 4
          have a5 := HHa.out.at_ 5
          have b1 := HHb.out.at_ 1
          have b2 := HHb.out.at_ 2
          have b3 := HHb.out.at_ 3
          have b4 := HHb.out.at_ 4
          have b5 := HHb.out.at_ 5
          simp at a1 a2 a3 a4 a5 b1 b2 b3 b4 b5
          go_cut [37] (fun s37 wz => s37 = .bool t ∧ Hid (wz.ownsMap Try.prog 58 (plainElem Try.prog 3) w.heap.size K.length (mapD K)) ∧ Hid (Below w.heap.size w wz) ∧ Hid (Has wz g0 61 #[.int .i64 x0, .int .i64 x1, .int .i64 x2, .int .i64 x3, .int .i64 x4, .bool x5]) ∧ Hid (Has wz g1 61 #[.int .i64 y0, .int .i64 y1, .int .i64 y2, .int .i64 y3, .int .i64 y4, .bool y5]))
          case first =>
            cases x5
            · have HQ : Hid (∀ w, Calls Try.prog 12 #[rectW x1 x2 x3 x4, rectW y1 y2 y3 y4] w fun e w' => e = .returned (.bool t) ∧ Made w.heap.size w w') := fun w => HG.out w (.inl rfl)
              clear HG HT
              go_wp2_with fail
              refine (HQ.out _).mono ?_
              rintro e w6 ⟨rfl, k6⟩
              have KK := hid k6
              clear k6
              go_wp2_with fail
              go_meet
              exact ⟨rfl, ownsMap_below HW4.out KK.out.1, HM4.out.trans (KK.out.1.mono HM4.out.size), HHa.out.stays KK.out HHa.out.here, HHb.out.stays KK.out HHb.out.here⟩
            · cases y5
              · have HQ : Hid (∀ w, Calls Try.prog 12 #[rectW x1 x2 x3 x4, rectW y1 y2 y3 y4] w fun e w' => e = .returned (.bool t) ∧ Made w.heap.size w w') := fun w => HG.out w (.inr rfl)
                clear HG HT
                go_wp2_with fail
                refine (HQ.out _).mono ?_
                rintro e w6 ⟨rfl, k6⟩
                have KK := hid k6
                clear k6
                go_wp2_with fail
                go_meet
                exact ⟨rfl, ownsMap_below HW4.out KK.out.1, HM4.out.trans (KK.out.1.mono HM4.out.size), HHa.out.stays KK.out HHa.out.here, HHb.out.stays KK.out HHb.out.here⟩
              · have HT6 : Hid (t = false) := HT.out rfl rfl
                clear HT HG
                go_wp2_with fail
                go_meet
                exact ⟨by rw [HT6.out], HW4.out, HM4.out, HHa.out, HHb.out⟩
          obtain ⟨rfl, HW6, HM6, HHa, HHb⟩ := hcut
          clear HW4 HM4 a1 a2 a3 a4 a5 b1 b2 b3 b4 b5 HG HT
          have HWs : Hid (allP T i ++ withF ⟨x0, x1, x2, x3, x4, x5⟩ (T.take (j + 1)) = K ++ (if t then [pairOf ⟨x0, x1, x2, x3, x4, x5⟩ ⟨y0, y1, y2, y3, y4, y5⟩] else [])) := by
            unfold Hid
            rw [HTs.out, withF_snoc, ET.out, ← List.append_assoc, EK.out]
          cases t
          · have HWs : Hid (allP T i ++ withF ⟨x0, x1, x2, x3, x4, x5⟩ (T.take (j + 1)) = K) := by have := HWs.out; unfold Hid; simpa using this
            go_wp2_with fail
            go_roundg (i - (j + 1))
            case rel => exact ⟨j + 1, by omega, by go_num, by unfold Hid; rw [HWs.out]; exact HW6.out, HM6, HHa⟩
            case measure => omega
          · have a0 := HHa.out.at_ 0
            have b0 := HHb.out.at_ 0
            simp at a0 b0
            obtain ⟨p, ep⟩ : ∃ p, min x0 y0 = p := ⟨_, rfl⟩
            obtain ⟨q, eq⟩ : ∃ p, max x0 y0 = p := ⟨_, rfl⟩
            have EP : Hid (allP T i ++ withF ⟨x0, x1, x2, x3, x4, x5⟩ (T.take (j + 1)) = K ++ [(p, q)]) := by
              rw [← ep, ← eq]
              have := HWs.out
              unfold Hid
              simpa [pairOf] using this
            have hkey := key_pair p q (by unfold I64 at *; omega) (by unfold I64 at *; omega)
            have HKey := hid hkey
            clear HWs hkey
            go_wp2_with (at_mapUpdate; refine wpList_mapUpdate_own _ rfl _ _ _ 54 rfl 58 3 law58 Try.underlying54 _ w.heap.size K.length _ rfl HW6.out (by unfold maxLen; omega) _ _ _ rfl rfl HKey.out _ [] (plainElem_int Try.underlying3 (wf_i64 (by unfold I64; omega))) ?_)
            intro wk hown hgr
            have HW7 : Hid (wk.ownsMap Try.prog 58 (plainElem Try.prog 3) w.heap.size (K ++ [(p, q)]).length (mapD (K ++ [(p, q)]))) := by
              unfold Hid
              rw [mapD_snoc, List.length_append]
              exact hown
            have HM7 : Hid (Below w.heap.size w wk) := HM6.out.grown hgr HM6.out.size (fun b hb => by cases hb; exact Nat.le_refl _)
            have HH7 : Hid (Has wk g0 61 #[.int .i64 x0, .int .i64 x1, .int .i64 x2, .int .i64 x3, .int .i64 x4, .bool x5]) := HHa.out.app hgr (fun e => hg0 (by cases e; rfl))
            clear hown hgr HW6 HM6 HHa HHb ep eq a0 b0
            go_wp2_with fail
            go_roundg (i - (j + 1))
            case rel => exact ⟨j + 1, by omega, by go_num, by unfold Hid; rw [EP.out]; exact HW7.out, HM7, HH7⟩
            case measure => omega
        · have ej : j = i := by omega
          subst ej
          go_wp2_with fail
          go_roundg (n - (j + 1))
          case rel => exact ⟨j + 1, by omega, by go_num, by unfold Hid; rw [HAs.out]; exact HW3.out, HM3⟩
          case measure => omega
    · have ei : i = n := by omega
      subst ei
      go_wp2_with fail
      go_ret
      refine ⟨_, allP T i, rfl, ?_, HW.out, Nat.le_refl _, HM.out⟩
      have := allP_perm T i (by rw [HN.out]; exact Nat.le_refl _)
      rwa [List.take_of_length_le (by rw [HN.out]; exact Nat.le_refl _)] at this
end Go.Proofs.Ytmfkcdinfahjlaa.Fx
