/- SweepPairs. -/
import Derived.Test.YtmfkcdinfahjlaaSwG
import Derived.Test.YtmfkcdinfahjlaaSwN
namespace Go.Proofs.Ytmfkcdinfahjlaa.Fx
open Go.ChangeShapes Go.WideShapes Go.ChangeAt Go.RowKit Go.Maps
set_option linter.unusedVariables false

set_option maxRecDepth 100000 in
set_option maxHeartbeats 8000000 in
theorem swpairs_walk (ao : Option Addr) (n c : Nat) (l : List It) (w : World) (hin : ItIn w ao n c l) :
    Calls Try.prog 5 #[.slice ao n c] w fun e w' => e = .returned (.bool true) ∧ Below w.heap.size w w' := by
  obtain ⟨hL, hn, hc, hcm, hI⟩ := hin
  obtain ⟨m, em⟩ : ∃ m, min n 40 = m := ⟨_, rfl⟩
  have hm : m ≤ 40 := by omega
  have HT := hid (fun (w1 : World) (hb : Below w.heap.size w w1) => tame_c (c := c) 40 hn (hL.below hb) hc em (by omega) hI)
  obtain ⟨T, eT⟩ : ∃ T, tameF 40 l = T := ⟨_, rfl⟩
  have HTl : Hid (T.length = m) := by unfold Hid; rw [← eT, tameF_len, hn, ← em]; omega
  have HTi : Hid (ItsI T) := by unfold Hid; rw [← eT]; exact tameF_i (by omega) hI
  have HTa : Hid (Apart T) := by unfold Hid; rw [← eT]; exact tameF_apart (by omega) l
  rw [eT] at HT
  clear hL hI em eT hn
  go_enter Try.func5, Try.ntmps5
  go_wp2_with fail
  refine (swfit_c _).mono ?_
  rintro e w1 ⟨rfl, hb⟩
  have HB := hid hb
  clear hb
  go_wp2_with fail
  refine (HT.out _ HB.out).mono ?_
  rintro e w2 ⟨v, rfl, ho, hmd⟩
  rw [← HTl.out] at ho
  obtain ⟨bo, d, rfl, hcap, hL2, hfr⟩ := LsT.of_own encI_len ho
  have HB2 : Hid (Below w.heap.size w w2) := HB.out.trans (hmd.1.mono HB.out.size)
  have HL2 := hid hL2
  have HFl : Hid (Flt bo) := by
    rcases ho.2 with ⟨hv, _⟩ | ⟨g, cap, cur, hv, _⟩
    · injection hv with h1
      exact .inl h1
    · injection hv with h1
      exact .inr ⟨_, _, h1⟩
  have HN0 : Hid (bo = none → T = []) := fun e => by
    rcases Nat.eq_zero_or_pos T.length with h | h
    · exact List.length_eq_zero_iff.1 h
    · obtain ⟨b, off, e', _⟩ := hL2 h
      rw [e] at e'; cases e'
  rw [HTl.out] at hcap ⊢
  have HC2 := hid hcap
  clear ho hmd hL2 hfr HT hcap
  go_wp2_with fail
  refine (all_c HTl.out HL2.out HC2.out (by omega) HTi.out).mono ?_
  rintro e w3 ⟨B, K, rfl, hK, hown, hBn, hb⟩
  have HB3 : Hid (Below w.heap.size w w3) := HB2.out.trans (hb.mono HB2.out.size)
  have HL3 := hid (HL2.out.below hb)
  have HK := hid hK
  have HO := hid hown
  clear hK hown hb hBn HL2
  go_wp2_with fail
  refine (pairs_c (c := d) HTl.out HL3.out HFl.out (by omega) HN0.out HTi.out).mono ?_
  rintro e w4 ⟨bp, dp, rfl, hLp, _, hb⟩
  have HB4 : Hid (Below w.heap.size w w4) := HB3.out.trans (hb.mono HB3.out.size)
  have HO4 := hid (ownsMap_below HO.out hb)
  have HLp := hid hLp
  have HKi : Hid (PsI K) := fun p hp => collect_i HTi.out p (HK.out.mem_iff.1 hp)
  have HKn : Hid (size (mapD K) = K.length) := mapD_size HKi.out (HK.out.nodup_iff.2 (collect_nodup T HTa.out))
  have HIn : Hid (∀ p, p ∈ pairsF T → p ∈ K) := fun p hp => HK.out.mem_iff.2 (pairsF_mem.1 hp)
  have HRise : Hid (∀ (i : Nat) (p q : Int × Int), (pairsF T)[i]? = some p → (pairsF T)[i + 1]? = some q → p.1 < q.1 ∨ p.1 = q.1 ∧ p.2 < q.2) := fun i p q hp hq => pairsF_rising HTa.out hp hq
  have hG : (pairsF T).length = K.length := by rw [pairsF_length]; exact HK.out.length_eq.symm
  have hG2 : K.length ≤ 1600 := by
    rw [HK.out.length_eq]
    have h1 := collect_len T
    have h2 := HTl.out
    have : T.length * T.length ≤ 40 * 40 := Nat.mul_le_mul (by omega) (by omega)
    omega
  obtain ⟨L, eL⟩ : ∃ L, pairsF T = L := ⟨_, rfl⟩
  rw [eL] at HLp HIn HRise hG ⊢
  obtain ⟨G, eG⟩ : ∃ G, L.length = G := ⟨_, rfl⟩
  have EG := hid eG
  have HGK : Hid (G = K.length) := by rw [← eG]; exact hG
  have hG3 : G ≤ 1600 := by omega
  rw [eG]
  clear hLp hb eL eG hG hG2 HL3 HO
  go_wp2_with fail
  go_loopg [18] G (fun g s18 wx => ∃ j : Nat, j + g = G ∧ s18 = .int .i64 j ∧ Hid (Below w4.heap.size w4 wx))
  case atStart => exact ⟨0, by omega, rfl, Below.refl _ _⟩
  case round =>
    obtain ⟨j, hj, rfl, HM⟩ := hrel
    have hbase : w4.heap.size ≤ wr.heap.size := HM.out.size
    by_cases hlt : j < G
    · obtain ⟨p, ep⟩ : ∃ p, L[j]? = some p := ⟨_, List.getElem?_eq_getElem (by rw [EG.out]; exact hlt)⟩
      obtain ⟨b, off, rfl, hbl, hLB⟩ := HLp.out (by rw [EG.out]; omega)
      obtain ⟨p0, p1⟩ := p
      obtain ⟨b0, b1⟩ := ((hLB.below HM.out hbl) j _ ep).p2
      simp only [] at b0 b1
      have hpK := HIn.out _ (List.mem_of_getElem? ep)
      obtain ⟨i0, i1⟩ := HKi.out _ hpK
      simp only [] at i0 i1
      have HPrev : Hid (0 < j → ∃ q0 q1, (q0 < p0 ∨ q0 = p0 ∧ q1 < p1) ∧ wr.cell? ⟨b, off + (j - 1) * 2, none⟩ = some (.int .i64 q0) ∧ wr.cell? ⟨b, off + (j - 1) * 2 + 1, none⟩ = some (.int .i64 q1)) := fun h0 => by
        obtain ⟨q, eq⟩ : ∃ q, L[j - 1]? = some q := ⟨_, List.getElem?_eq_getElem (by rw [EG.out]; omega)⟩
        obtain ⟨c0, c1⟩ := ((hLB.below HM.out hbl) (j - 1) _ eq).p2
        exact ⟨q.1, q.2, HRise.out (j - 1) q (p0, p1) eq (by rw [show j - 1 + 1 = j by omega]; exact ep), c0, c1⟩
      have HOr := hid (ownsMap_below HO4.out HM.out)
      have hAt := mapD_at HKi.out hpK (.lit (.int .i64 0))
      have HAt := hid hAt
      clear ep hLB hpK hAt
      go_upto_region 9 with fail
      obtain ⟨W9, eW⟩ : ∃ V, V = wr.alloc (.cells #[.int .i64 p0, .int .i64 p1] 58) := ⟨_, rfl⟩
      have c0 : W9.cell? ⟨wr.heap.size, 0, none⟩ = some (.int .i64 p0) := by rw [eW]; go_simp
      have c1 : W9.cell? ⟨wr.heap.size, 1, none⟩ = some (.int .i64 p1) := by rw [eW]; go_simp
      have HM9 : Hid (Below w4.heap.size w4 W9) := by unfold Hid; rw [eW]; exact HM.out.alloc hbase _
      have HO9 := hid (HOr.out.alloc (.cells #[.int .i64 p0, .int .i64 p1] 58))
      have HPrev9 : Hid (0 < j → ∃ q0 q1, (q0 < p0 ∨ q0 = p0 ∧ q1 < p1) ∧ W9.cell? ⟨b, off + (j - 1) * 2, none⟩ = some (.int .i64 q0) ∧ W9.cell? ⟨b, off + (j - 1) * 2 + 1, none⟩ = some (.int .i64 q1)) := fun h0 => by
        obtain ⟨q0, q1, h1, h2, h3⟩ := HPrev.out h0
        exact ⟨q0, q1, h1, by rw [eW]; exact cell_more h2, by rw [eW]; exact cell_more h3⟩
      rw [← eW] at HO9 ⊢
      clear eW b0 b1 HPrev HOr
      have hlook : ∀ N, (Instr.lookup 54 (.map (some B)) (.agg #[.int .i64 p0, .int .i64 p1]) false).run Try.prog (W9.drewN N) = .ok (.int .i64 1) (W9.drewN N) := fun N => by
        have ho : (W9.drewN N).ownsMap Try.prog 58 (plainElem Try.prog 3) B K.length (mapD K) := HO9.out
        obtain ⟨c, hrun, hat, _⟩ := ho.lookup_int law58 Try.underlying54 Try.underlying3 (by kernel_rfl) (key_pair p0 p1 i0 i1)
        rw [show keyP (p0, p1) = keyP (p0, p1) from rfl, HAt.out] at hat
        have ec : c = 1 := by
          unfold oneD at hat
          simpa using hat.symm
        rw [ec] at hrun
        exact hrun
      have h10 : ((1 : Int) == 0) = false := by decide
      rcases Nat.eq_zero_or_pos j with h0 | h0
      · have hj0 : decide ((0 : Int) < (j : Int)) = false := decide_eq_false (by omega)
        clear HPrev9
        go_quiet (fail)
        go_wp2_with fail
        go_roundg (G - (j + 1))
        case rel => exact ⟨j + 1, by omega, by go_num, Fx.Below.drewN HM9.out _⟩
        case measure => omega
      · obtain ⟨q0, q1, hq, d0, d1⟩ := HPrev9.out h0
        have hj0 : decide ((0 : Int) < (j : Int)) = true := decide_eq_true (by omega)
        have hj1 : ((j : Int) - 1) = ((j - 1 : Nat) : Int) := by omega
        clear HPrev9
        rcases hq with hq | ⟨hq, hq2⟩
        · have e1 : decide (p0 < q0) = false := decide_eq_false (by omega)
          have e2 : (q0 == p0) = false := by simp; omega
          clear hq
          go_quiet (fail)
          go_wp2_with fail
          go_roundg (G - (j + 1))
          case rel => exact ⟨j + 1, by omega, by go_num, Fx.Below.drewN HM9.out _⟩
          case measure => omega
        · have e1 : decide (p0 < q0) = false := decide_eq_false (by omega)
          have e2 : (q0 == p0) = true := by simp [hq]
          have e3 : decide (p1 ≤ q1) = false := decide_eq_false (by omega)
          clear hq hq2
          go_quiet (fail)
          go_wp2_with fail
          go_roundg (G - (j + 1))
          case rel => exact ⟨j + 1, by omega, by go_num, Fx.Below.drewN HM9.out _⟩
          case measure => omega
    · have HOz := hid (ownsMap_below HO4.out HM.out)
      go_wp2_with (at_len; refine wpList_len_own _ rfl _ 54 rfl 58 3 Try.underlying54 _ B K.length (mapD K) rfl HOz.out ?_)
      go_ret
      refine ⟨?_, HB4.out.trans (HM.out.mono HB4.out.size)⟩
      have h1 := HKn.out
      have h2 := HGK.out
      simp [h1, h2]
end Go.Proofs.Ytmfkcdinfahjlaa.Fx
