/- sweep.Pairs. -/
import Derived.Test.YtmfkcdinfahjlaaSwT
import Derived.Test.YtmfkcdinfahjlaaSwB
import Derived.Deep.LoopGhost
import Derived.Deep.DeepCutAuto
import Derived.Deep.CutBlock
import Derived.LoopN
import Derived.WalkMore
namespace Go.Proofs.Ytmfkcdinfahjlaa.Fx
open Go.ChangeShapes Go.WideShapes Go.ChangeAt Go.RowKit
set_option linter.unusedVariables false

theorem info_Pr : (Try.prog.info? 58).map (fun i => (i.zero, i.size, i.bytes)) = some (some (.agg #[.int .i64 0, .int .i64 0]), 2, 16) := by kernel_rfl
theorem drop_at {α : Type} {l : List α} {k : Nat} {x : α} (h : l[k]? = some x) : l.drop k = x :: l.drop (k + 1) := by
  obtain ⟨hk, e⟩ := List.getElem?_eq_some_iff.1 h
  rw [List.drop_eq_getElem_cons hk, e]
theorem outer_len {l l' : List It} (hp : l'.Perm l) (hs : l'.Pairwise (fun x y => x.lx ≤ y.lx)) (hl : l.length ≤ 64) : (outer l').length ≤ 4096 := by
  rw [outer_eq l' hs]
  have h1 := collect_len l'
  have h2 := hp.length_eq
  have h3 : l'.length * l'.length ≤ 64 * 64 := Nat.mul_le_mul (by omega) (by omega)
  omega

set_option maxRecDepth 100000 in
set_option maxHeartbeats 8000000 in
theorem pairs_c {l : List It} {ao : Option Addr} {c n : Nat} {w : World} (hn : l.length = n) (h : LsT encI 6 w ao l) (ha : Flt ao) (hl : n ≤ 64) (h0 : ao = none → l = []) (hI : ItsI l) :
    Calls Try.prog 20 #[.slice ao n c] w fun e w' => ∃ bo d, e = .returned (.slice bo (pairsF l).length d) ∧ LsT encP 2 w' bo (pairsF l) ∧ (∀ g off, bo = some ⟨g, off, none⟩ → w.heap.size ≤ g ∧ g < w'.heap.size) ∧ Below w.heap.size w w' := by
  have HL := hid (left_c (c := c) hn h ha (by omega) h0)
  obtain ⟨i0, hi, hz0, hz1, hz2⟩ := info_parts info_Pr
  have iHi := hid hi; have iH0 := hid hz0; have iH1 := hid hz1; have iH2 := hid hz2
  have HI := hid hI
  have HN := hid hn
  clear h ha h0 hi hz0 hz1 hz2 hI hn
  go_enter Try.func20, Try.ntmps20
  go_wp2_with fail
  go_step3
  go_wp2_with fail
  refine HL.out.mono ?_
  rintro e w1 ⟨bo, d, l', rfl, hcap, hp, hs, hL, hb⟩
  have HCap := hid hcap
  have en : Hid (l'.length = n) := hp.length_eq.trans HN.out
  have HO : Hid ((outer l').length ≤ 4096) := outer_len hp hs (by rw [HN.out]; exact hl)
  have HI' : Hid (ItsI l') := fun x hx => HI.out x (hp.mem_iff.1 hx)
  have HR : Hid (sortP (outer l') = pairsF l) := pairsF_sorted hp hs
  have HLs := hid hL; have HB := hid hb
  have hlen : Hid (w.heap.size ≤ w1.heap.size) := hb.size
  clear hp hs hL hb HL HI hcap
  go_wp2_with fail
  go_step3
  go_wp2_with fail
  go_loopg [4, 13] n (fun g s4 s13 wx => ∃ (k : Nat) (L : List (Int × Int)), k + g = n ∧ s13 = .int .i64 k ∧ Hid (L ++ outer (l'.drop k) = outer l') ∧ Hid (wx.ownsRow w1.heap.size 58 2 s4 L.length (flatE encP L)) ∧ Hid (Below w1.heap.size w1 wx))
  case atStart => exact ⟨0, [], by omega, rfl, rfl, ⟨rfl, .inl ⟨rfl, rfl⟩⟩, Below.refl _ _⟩
  case round =>
    obtain ⟨k, L, hk, rfl, HL, HW, HM⟩ := hrel
    by_cases hlt : k < n
    · obtain ⟨a, ea⟩ : ∃ a, l'[k]? = some a := ⟨_, List.getElem?_eq_getElem (by rw [en.out]; exact hlt)⟩
      obtain ⟨b, off, rfl, hbl, hLB⟩ := HLs.out (by rw [en.out]; omega)
      obtain ⟨x0, x1, x2, x3, x4, x5⟩ := a
      obtain ⟨a0, a1, a2, a3, a4, a5⟩ := ((hLB.below HM.out hbl) k _ ea).i6
      obtain ⟨ii0, ii1, ii2, ii3, ii4⟩ := HI'.out _ (List.mem_of_getElem? ea)
      simp only [] at a0 a1 a2 a3 a4 a5 ii0 ii1 ii2 ii3 ii4
      have HLB := hid hLB
      have EA := hid ea
      clear ea hLB
      obtain ⟨g0, eg⟩ : ∃ g, wr.heap.size = g := ⟨_, rfl⟩
      go_upto_region 6 with fail
      obtain ⟨W2, eW⟩ : ∃ V, V = wr.alloc (.cells #[.int .i64 x0, .int .i64 x1, .int .i64 x2, .int .i64 x3, .int .i64 x4, .bool x5] 61) := ⟨_, rfl⟩
      have hh : Hid (Has W2 g0 61 #[.int .i64 x0, .int .i64 x1, .int .i64 x2, .int .i64 x3, .int .i64 x4, .bool x5]) := by unfold Hid; rw [eW, ← eg]; exact has_new _ _ _
      have HW2 : Hid (W2.ownsRow w1.heap.size 58 2 u4 L.length (flatE encP L)) := by unfold Hid; rw [eW]; exact HW.out.alloc _
      have HM2 : Hid (Below w1.heap.size w1 W2) := by unfold Hid; rw [eW]; exact HM.out.alloc HM.out.size _
      have hw1 : Hid (w1.heap.size ≤ g0) := by unfold Hid; rw [← eg]; exact HM.out.size
      rw [← eW]
      clear eW a0 a1 a2 a3 a4 a5 eg
      by_cases hd : d = k + 1
      · have hz : n - (k + 1) = 0 := by have := HCap.out; omega
        subst hd
        go_wp2_with fail
        refine wp_loop_rounds 1 ?_
        rw [rounds_succ]
        go_wp2_with fail
        go_roundg (n - (k + 1))
        case rel => exact ⟨k + 1, L, by omega, by go_num, by
          have := HL.out
          rw [drop_at EA.out] at this
          have e : l'.drop (k + 1) = [] := List.drop_eq_nil_of_le (by rw [en.out]; omega)
          rw [e] at this ⊢
          exact this, HW2, HM2⟩
        case measure => omega
      · have hd' : ¬ (k + 1 = d) := fun h => hd h.symm
        obtain ⟨m, em⟩ : ∃ m, n - (k + 1) = m := ⟨_, rfl⟩
        have EM := hid em
        go_wp2_with fail
        go_loopg [4, 23] m (fun g s4 s23 wy => ∃ (j : Nat) (L2 : List (Int × Int)), j + g = m ∧ s23 = .int .i64 j ∧ Hid (L2 ++ (inner ⟨x0, x1, x2, x3, x4, x5⟩ (l'.drop (k + 1 + j)) ++ outer (l'.drop (k + 1))) = outer l') ∧ Hid (wy.ownsRow w1.heap.size 58 2 s4 L2.length (flatE encP L2)) ∧ Hid (Below w1.heap.size w1 wy) ∧ Hid (Has wy g0 61 #[.int .i64 x0, .int .i64 x1, .int .i64 x2, .int .i64 x3, .int .i64 x4, .bool x5]))
        case atStart => exact ⟨0, L, by omega, rfl, by
          have := HL.out
          rw [drop_at EA.out] at this
          exact this, HW2, HM2, hh⟩
        case round =>
          clear hh HW2 HM2 HL HW
          obtain ⟨j, L2, hj, rfl, HL2, HW3, HM3, HH3⟩ := hrel
          by_cases hlt2 : j < m
          · obtain ⟨bb, eb⟩ : ∃ x, l'[k + 1 + j]? = some x := ⟨_, List.getElem?_eq_getElem (by rw [en.out]; omega)⟩
            obtain ⟨y0, y1, y2, y3, y4, y5⟩ := bb
            obtain ⟨b0, b1, b2, b3, b4, b5⟩ := ((HLB.out.below HM3.out hbl) (k + 1 + j) _ eb).i6
            obtain ⟨jj0, jj1, jj2, jj3, jj4⟩ := HI'.out _ (List.mem_of_getElem? eb)
            simp only [] at b0 b1 b2 b3 b4 b5 jj0 jj1 jj2 jj3 jj4
            have eoff : off + (k + 1 + j) * 6 = off + (k + 1) * 6 + j * 6 := by omega
            rw [eoff] at b0 b1 b2 b3 b4 b5
            have EB := hid eb
            clear eb eoff
            obtain ⟨g1, eg⟩ : ∃ g, wr.heap.size = g := ⟨_, rfl⟩
            go_upto_region 9 with fail
            obtain ⟨W4, eW⟩ : ∃ V, V = wr.alloc (.cells #[.int .i64 y0, .int .i64 y1, .int .i64 y2, .int .i64 y3, .int .i64 y4, .bool y5] 61) := ⟨_, rfl⟩
            have HHb : Hid (Has W4 g1 61 #[.int .i64 y0, .int .i64 y1, .int .i64 y2, .int .i64 y3, .int .i64 y4, .bool y5]) := by unfold Hid; rw [eW, ← eg]; exact has_new _ _ _
            have HHa : Hid (Has W4 g0 61 #[.int .i64 x0, .int .i64 x1, .int .i64 x2, .int .i64 x3, .int .i64 x4, .bool x5]) := by unfold Hid; rw [eW]; exact HH3.out.more _
            have HW4 : Hid (W4.ownsRow w1.heap.size 58 2 u4 L2.length (flatE encP L2)) := by unfold Hid; rw [eW]; exact HW3.out.alloc _
            have HM4 : Hid (Below w1.heap.size w1 W4) := by unfold Hid; rw [eW]; exact HM3.out.alloc HM3.out.size _
            rw [← eW]
            clear eW b0 b1 b2 b3 b4 b5 eg HW3 HM3 HH3
            have a1 := HHa.out.at_ 1
            have a2 := HHa.out.at_ 2
            have a3 := HHa.out.at_ 3
            have a4 := HHa.out.at_ 4
            have b1 := HHb.out.at_ 1
            have b2 := HHb.out.at_ 2
            have b3 := HHb.out.at_ 3
            have b4 := HHb.out.at_ 4
            simp at a1 a2 a3 a4 b1 b2 b3 b4
            obtain ⟨r, er⟩ : ∃ r, beyB ⟨x0, x1, x2, x3, x4, x5⟩ ⟨y0, y1, y2, y3, y4, y5⟩ = r := ⟨_, rfl⟩
            have ER := hid er
            have ER' : Hid (r = decide (cl x3 < cl y1)) := er.symm
            clear er
            go_wp2_with fail
            refine (beyond_w x1 x2 x3 x4 y1 y2 y3 y4 r _ ii3 jj1 jj2 ER'.out).mono ?_
            rintro e w5 ⟨rfl, k5⟩
            have HHa := hid (HHa.out.stays k5 HHa.out.here)
            have HHb := hid (HHb.out.stays k5 HHb.out.here)
            have HW5 := hid (own_below (B := 0) HW4.out k5.1)
            have HM5 : Hid (Below w1.heap.size w1 w5) := HM4.out.trans (k5.1.mono HM4.out.size)
            clear k5 HW4 HM4 a1 a2 a3 a4 b1 b2 b3 b4 ER'
            cases r
            · obtain ⟨t, et⟩ : ∃ t, taken ⟨x0, x1, x2, x3, x4, x5⟩ ⟨y0, y1, y2, y3, y4, y5⟩ = t := ⟨_, rfl⟩
              have ET := hid et
              have HG : Hid (∀ w, x5 = false ∨ y5 = false → Calls Try.prog 12 #[rectW x1 x2 x3 x4, rectW y1 y2 y3 y4] w fun e w' => e = .returned (.bool t) ∧ Made w.heap.size w w') := fun w hs => meet_w x1 x2 x3 x4 y1 y2 y3 y4 t w ii1 ii2 ii3 ii4 jj1 jj2 jj3 jj4 (by
                rw [← et]
                exact taken_iff (by rcases hs with rfl | rfl <;> simp))
              have HT : Hid (x5 = true → y5 = true → t = false) := fun h1 h2 => by rw [← et]; unfold taken; simp [h1, h2]
              clear et
              have a1 := HHa.out.at_ 1
              have a2 := HHa.out.at_ 2
              have a3 := HHa.out.at_ 3
              have a4 := HHa.out.at_ 4
              have a5 := HHa.out.at_ 5
              have b1 := HHb.out.at_ 1
              have b2 := HHb.out.at_ 2
              have b3 := HHb.out.at_ 3
              have b4 := HHb.out.at_ 4
              have b5 := HHb.out.at_ 5
              simp at a1 a2 a3 a4 a5 b1 b2 b3 b4 b5
              go_upto_region 10 with fail
              go_cut [45] (fun s45 wz => s45 = .bool (!t) ∧ Hid (wz.ownsRow w1.heap.size 58 2 u4 L2.length (flatE encP L2)) ∧ Hid (Below w1.heap.size w1 wz) ∧ Hid (Has wz g0 61 #[.int .i64 x0, .int .i64 x1, .int .i64 x2, .int .i64 x3, .int .i64 x4, .bool x5]) ∧ Hid (Has wz g1 61 #[.int .i64 y0, .int .i64 y1, .int .i64 y2, .int .i64 y3, .int .i64 y4, .bool y5]))
              case first =>
                cases x5
                · have HQ : Hid (∀ w, Calls Try.prog 12 #[rectW x1 x2 x3 x4, rectW y1 y2 y3 y4] w fun e w' => e = .returned (.bool t) ∧ Made w.heap.size w w') := fun w => HG.out w (.inl rfl)
                  clear HG HT
                  go_wp2_with fail
                  refine (HQ.out _).mono ?_
                  rintro e w6 ⟨rfl, k6⟩
                  have K := hid k6
                  clear k6
                  go_wp2_with fail
                  go_meet
                  exact ⟨rfl, own_below (B := 0) HW5.out K.out.1, HM5.out.trans (K.out.1.mono HM5.out.size), HHa.out.stays K.out HHa.out.here, HHb.out.stays K.out HHb.out.here⟩
                · cases y5
                  · have HQ : Hid (∀ w, Calls Try.prog 12 #[rectW x1 x2 x3 x4, rectW y1 y2 y3 y4] w fun e w' => e = .returned (.bool t) ∧ Made w.heap.size w w') := fun w => HG.out w (.inr rfl)
                    clear HG HT
                    go_wp2_with fail
                    refine (HQ.out _).mono ?_
                    rintro e w6 ⟨rfl, k6⟩
                    have K := hid k6
                    clear k6
                    go_wp2_with fail
                    go_meet
                    exact ⟨rfl, own_below (B := 0) HW5.out K.out.1, HM5.out.trans (K.out.1.mono HM5.out.size), HHa.out.stays K.out HHa.out.here, HHb.out.stays K.out HHb.out.here⟩
                  · have HT6 : Hid (t = false) := HT.out rfl rfl
                    clear HT HG
                    go_wp2_with fail
                    go_meet
                    exact ⟨by rw [HT6.out]; rfl, HW5.out, HM5.out, HHa.out, HHb.out⟩
              obtain ⟨rfl, HW6, HM6, HHa, HHb⟩ := hcut
              clear HW5 HM5 a1 a2 a3 a4 a5 b1 b2 b3 b4 b5
              have HL3 : Hid (L2 ++ ((if t then [pairOf ⟨x0, x1, x2, x3, x4, x5⟩ ⟨y0, y1, y2, y3, y4, y5⟩] else []) ++ (inner ⟨x0, x1, x2, x3, x4, x5⟩ (l'.drop (k + 1 + (j + 1))) ++ outer (l'.drop (k + 1)))) = outer l') := by
                have := HL2.out
                rw [drop_at EB.out] at this
                unfold inner at this
                rw [if_neg (by rw [ER.out]; simp), ET.out] at this
                cases t
                · exact this
                · exact this
              cases t
              · go_wp2_with fail
                go_roundg (m - (j + 1))
                case rel => exact ⟨j + 1, L2, by omega, by go_num, HL3.out, HW6, HM6, HHa⟩
                case measure => omega
              · have a0 := HHa.out.at_ 0
                have b0 := HHb.out.at_ 0
                simp at a0 b0
                obtain ⟨p, ep⟩ : ∃ p, min x0 y0 = p := ⟨_, rfl⟩
                obtain ⟨q, eq⟩ : ∃ p, max x0 y0 = p := ⟨_, rfl⟩
                have EP : Hid (pairOf ⟨x0, x1, x2, x3, x4, x5⟩ ⟨y0, y1, y2, y3, y4, y5⟩ = (p, q)) := by rw [← ep, ← eq]; rfl
                have HL4 : Hid (L2 ++ [(p, q)] ++ (inner ⟨x0, x1, x2, x3, x4, x5⟩ (l'.drop (k + 1 + (j + 1))) ++ outer (l'.drop (k + 1))) = outer l') := by
                  have := HL3.out
                  rw [if_pos rfl, EP.out] at this
                  unfold Hid
                  rw [List.append_assoc]
                  exact this
                have hL2 : L2.length < 4097 := by
                  have h1 := congrArg List.length HL2.out
                  have h2 := HO.out
                  simp only [List.length_append] at h1
                  omega
                have hbase : w1.heap.size ≤ wc.heap.size := HM6.out.size
                have HSV : Hid (∀ b, u4.ownBlock = some b → w1.heap.size ≤ b ∧ b < wc.heap.size) := fun b hb => HW6.out.lt b hb
                have lg0 : g0 < wc.heap.size := HHa.out.here
                go_wp2_with (at_builtin; refine wpList_append_own _ rfl _ _ 56 rfl w1.heap.size 58 i0 (.agg #[.int .i64 0, .int .i64 0]) 2 16 Try.underlying56 iHi.out iH0.out iH1.out iH2.out rfl (by decide) u4 L2.length (flatE encP L2) rfl (HW6.out.alloc _) ⟨wc.heap.size, 0, none⟩ 1 1 [.int .i64 p, .int .i64 q] rfl rfl (news_pair _ _ _ _) (pair_one _ _) (by unfold maxLen; omega) (by omega) (by simp; omega) ?_)
                intro v' wk hown hgr hnil
                have HM7 : Hid (Below w1.heap.size w1 wk) := (HM6.out.alloc HM6.out.size _).grown hgr (by simp; omega) (fun b hb => (HSV.out b hb).1)
                have HH7 : Hid (Has wk g0 61 #[.int .i64 x0, .int .i64 x1, .int .i64 x2, .int .i64 x3, .int .i64 x4, .bool x5]) := (HHa.out.more _).app hgr (own_apart HW6.out HHa.out (by decide))
                have HW7 : Hid (wk.ownsRow w1.heap.size 58 2 v' (L2 ++ [(p, q)]).length (flatE encP (L2 ++ [(p, q)]))) := by
                  unfold Hid
                  rw [← flatE_snoc, List.length_append]
                  exact hown
                clear hown hgr hnil HW6 HM6 HHa HHb ep eq a0 b0
                go_wp2_with fail
                go_roundg (m - (j + 1))
                case rel => exact ⟨j + 1, L2 ++ [(p, q)], by omega, by go_num, HL4, HW7, HM7, HH7⟩
                case measure => omega
            · go_wp2_with fail
              go_roundg (n - (k + 1))
              case rel => exact ⟨k + 1, L2, by omega, by go_num, by
                have := HL2.out
                rw [drop_at EB.out] at this
                unfold inner at this
                rw [if_pos ER.out, List.nil_append] at this
                exact this, HW5, HM5⟩
              case measure => omega
          · go_wp2_with fail
            go_roundg (n - (k + 1))
            case rel => exact ⟨k + 1, L2, by omega, by go_num, by
              have := HL2.out
              have e : l'.drop (k + 1 + j) = [] := List.drop_eq_nil_of_le (by rw [en.out]; omega)
              rw [e] at this
              exact this, HW3, HM3⟩
            case measure => omega
    · have hk' : k = n := by omega
      have e : l'.drop k = [] := List.drop_eq_nil_of_le (by rw [en.out]; omega)
      have eL : L = outer l' := by
        have := HL.out
        rw [e] at this
        simpa [outer] using this
      obtain ⟨bo', c', e4, hS⟩ := sort_pairs HW.out (by rw [eL]; have := HO.out; omega)
      subst e4
      have HS := hid hS
      have EL := hid eL
      clear hS eL e HL
      obtain ⟨m, em⟩ : ∃ m, L.length = m := ⟨_, rfl⟩
      have EM := hid em
      rw [em] at HS ⊢
      clear em
      go_wp2_with fail
      refine HS.out.mono ?_
      rintro e w2 ⟨rfl, hL, hfr, hb⟩
      have HL2 := hid hL
      have HF2 := hid hfr
      have HB2 := hid hb
      clear hL hfr hb HS
      go_wp2_with fail
      try rw [Exit.noGoto_ret]
      go_ret
      have hs : sortP L = pairsF l := by rw [EL.out]; exact HR.out
      have hm : m = (pairsF l).length := by rw [← hs, ← EM.out]; exact (sortP_perm L).length_eq.symm
      refine ⟨bo', c', by rw [hm]; rfl, by rw [← hs]; exact HL2.out, fun g off e => ⟨?_, (HF2.out g off e).2⟩, ?_⟩
      · have := (HF2.out g off e).1; have := hlen.out; omega
      · exact HB.out.trans ((HM.out.mono hlen.out).trans (HB2.out.mono hlen.out))
end Go.Proofs.Ytmfkcdinfahjlaa.Fx
