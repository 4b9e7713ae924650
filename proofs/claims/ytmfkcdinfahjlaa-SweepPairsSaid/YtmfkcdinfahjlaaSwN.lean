/- SweepOrders. -/
import Derived.Test.YtmfkcdinfahjlaaSwK
import Derived.Test.YtmfkcdinfahjlaaSwO
namespace Go.Proofs.Ytmfkcdinfahjlaa.Fx
open Go.ChangeShapes Go.WideShapes Go.ChangeAt Go.RowKit
set_option linter.unusedVariables false

def alA (B N : Nat) (l : List It) (i : Nat) (v : World) (g e : Nat) : Prop := N ≤ e ∧ v.ownsRow B 61 6 (.slice (some ⟨g, 0, none⟩) N e) N (flatE encI l)
def valA (N : Nat) (i g e : Nat) : Value := .slice (some ⟨g, 0, none⟩) N e
theorem alA_lasts (B N : Nat) (l : List It) : MK.Lasts (alA B N l) := fun i u v g e h hg k => ⟨h.1, own_below (B := 0) h.2 k.1⟩

theorem Below.drewN {B : Nat} {a w : World} (h : Below B a w) (n : Nat) : Below B a (w.drewN n) := ⟨h.os, h.tape, h.output, h.size, h.block⟩
set_option maxRecDepth 100000 in
set_option maxHeartbeats 8000000 in
theorem sworders_walk (ao : Option Addr) (n c : Nat) (l : List It) (turn : Int) (w : World) (hin : ItIn w ao n c l) :
    Calls Try.prog 6 #[.slice ao n c, .int .i64 turn] w fun e w' => e = .returned (.bool true) ∧ Below w.heap.size w w' := by
  obtain ⟨i0, hi, hz0, hz1, hz2⟩ := info_parts info_It
  have iHi := hid hi; have iH0 := hid hz0; have iH1 := hid hz1; have iH2 := hid hz2
  obtain ⟨hL, hn, hc, hcm, hI⟩ := hin
  have HI := hid hI
  have HL := hid hL
  obtain ⟨m, em⟩ : ∃ m, min n 30 = m := ⟨_, rfl⟩
  have hm : m ≤ 30 := by omega
  have HT := hid (fun (w1 : World) (hb : Below w.heap.size w w1) => tame_c (c := c) 30 hn (hL.below hb) hc em (by omega) hI)
  obtain ⟨T, eT⟩ : ∃ T, tameF 30 l = T := ⟨_, rfl⟩
  have HTl : Hid (T.length = m) := by unfold Hid; rw [← eT, tameF_len, hn, ← em]; omega
  have HTi : Hid (ItsI T) := by unfold Hid; rw [← eT]; exact tameF_i (by omega) hI
  rw [eT] at HT
  clear hi hz0 hz1 hz2 hL hI em eT hn
  go_enter Try.func6, Try.ntmps6
  go_wp2_with fail
  refine (swfit_c _).mono ?_
  rintro e w1 ⟨rfl, hb⟩
  have HB := hid hb
  clear hb
  go_wp2_with fail
  refine (HT.out _ HB.out).mono ?_
  rintro e w2 ⟨v, rfl, ho, hmd⟩
  rw [← HTl.out] at ho
  obtain ⟨bo, d, rfl, hcap, hL2, hfr⟩ := LsT.of_own encI_len ho
  have HB2 : Hid (Below w.heap.size w w2) := HB.out.trans (hmd.1.mono HB.out.size)
  have HL2 := hid hL2
  have HC2 := hid hcap
  rw [HTl.out] at hcap ⊢
  clear ho hmd hL2 hfr HT
  rcases Nat.eq_zero_or_pos m with h0 | h0
  · have h0' : (m : Int) = 0 := by omega
    have HP := hid (fun w => pairs_c (l := []) (ao := none) (c := 0) (n := 0) (w := w) rfl (fun h => absurd h (by simp)) (.inl rfl) (by omega) (fun _ => rfl) (fun x hx => by simp at hx))
    go_wp2_with fail
    refine (HP.out _).mono ?_
    rintro e w3 ⟨b3, d3, rfl, _, _, hb⟩
    have HB3 : Hid (Below w.heap.size w w3) := HB2.out.trans (hb.mono HB2.out.size)
    have e0 : (pairsF []).length = 0 := by rw [pairsF_length]; rfl
    rw [e0]
    clear hb e0
    go_wp2_with fail
    go_ret
    exact ⟨rfl, HB3.out⟩
  · have h0' : ((m : Int) == 0) = false := by simp; omega
    obtain ⟨b, off, rfl, hbl, hLB⟩ := HL2.out (by rw [HTl.out]; exact h0)
    obtain ⟨t, et⟩ : ∃ t, turn % 4096 = t := ⟨_, rfl⟩
    have e1 : bits BinOp.and IntKind.i64 turn 4095 = t := (and12 turn).trans et
    have t0 : 0 ≤ t := by omega
    have t1 : t < 4096 := by omega
    obtain ⟨k, ek⟩ : ∃ k : Nat, t.tmod m = (k : Int) := ⟨(t % m).toNat, by rw [Int.tmod_eq_emod_of_nonneg t0]; have := Int.emod_nonneg t (show (m : Int) ≠ 0 by omega); omega⟩
    have hk : k < m := by rw [Int.tmod_eq_emod_of_nonneg t0] at ek; have := Int.emod_lt_of_pos t (show (0 : Int) < m by omega); omega
    clear et
    go_upto_region 7 with fail
    have hkd : ¬ (k = d) := by omega
    have HLB := hid hLB
    have HNews : Hid (∀ (u : World), Made w2.heap.size w2 u → ∃ g cap u', (Builtin.append_ #[52, 52] 52 #[.slice none 0 0, .slice (some ⟨b, off + k * 6, none⟩) (m - k) (d - k)]).run Try.prog u = .ok (.slice (some ⟨g, 0, none⟩) (m - k) cap) u' ∧ u.heap.size ≤ g ∧ g < u'.heap.size ∧ m - k ≤ cap ∧ u'.ownsRow u.heap.size 61 6 (.slice (some ⟨g, 0, none⟩) (m - k) cap) (m - k) (flatE encI (T.drop k)) ∧ Made u.heap.size u u') := fun u hu =>
      append_new 52 52 61 i0 (.agg #[.int .i64 0, .int .i64 0, .int .i64 0, .int .i64 0, .int .i64 0, .bool false]) 6 48 Try.underlying52 iHi.out iH0.out iH1.out iH2.out rfl (by decide) ⟨b, off + k * 6, none⟩ (m - k) (d - k) (flatE encI (T.drop k)) (by rw [flatE_len encI_len, List.length_drop, HTl.out]) (LsB.news encI_len ((hLB.below hu.1 hbl).drop k)) (flatE_one encI_one _) (by unfold maxLen; omega) (by omega) (by omega)
    have hkd2 : k ≤ d := by omega
    have hd0 : ¬ (0 = d) := by omega
    have hd1 : ¬ (d = 0) := by omega
    clear hLB e1 h0'
    refine MK.reg_mk (alA w2.heap.size (m - k) (T.drop k)) 7 [0, 1, 2, 4, 5, 6, 3] [0, 1, 2, 4, 5, 6] [3] [] (fun _ => []) (val := valA (m - k)) (by kernel_rfl) (by kernel_rfl) ?hpu ?_
    case hpu => intro p hp; simp at hp
    refine MK.can_class (rest := [3]) [0, 1, 2, 4, 5, 6] [] 77 (alA_lasts _ _ _) (MK.any_class _) (by kernel_rfl) rfl (by kernel_rfl) (by kernel_rfl) ?_
    apply Exists.intro
    refine ⟨?q1, ?q2⟩
    case q1 =>
      intro Ty hT fw hf _
      change wpQuiet _ _ _ _ [_, _, _, _, _, _] _
      repeat (go_big_quiet_step (fail))
      exact wpQuiet_nil rfl
    refine MK.can_mk 3 31 _ rfl rfl rfl rfl ?m1 fun g3 e3 => ?m2
    case m1 =>
      intro G' u _ hu
      obtain ⟨g, cap, u', hr, hg1, hg2, hcp, hown, hM⟩ := HNews.out u hu.1
      rw [exec_append (P := Try.prog) rfl rfl rfl hr]
      exact ⟨g, cap, rfl, hu.next (alA_lasts _ _ _) hM hg1 hg2 ⟨hcp, own_base hown hu.1.1.size⟩⟩
    rw [show valA (m - k) 3 g3 e3 = .slice (some ⟨g3, 0, none⟩) (m - k) e3 from rfl]
    simp only [Act.put, List.setIfInBounds_toArray, List.set_cons_succ, List.set_cons_zero]
    intro w3 hu
    obtain ⟨hg3, hg4, hcp3, ho3⟩ := hu.2.1 3 (g3, e3) (by unfold MK.upd; simp)
    have HM3 := hid hu.1
    have HO3 := hid ho3
    clear hu ho3 HNews
    simp only [List.drop_succ_cons, List.drop_zero]
    have hb3 : w2.heap.size ≤ w3.heap.size := HM3.out.1.size
    have HTk : Hid (LsB encI 6 w3 b off (T.take k)) := (HLB.out.below HM3.out.1 hbl).take k
    go_wp2_with (at_builtin; refine wpList_append_own _ rfl _ _ 52 rfl w2.heap.size 61 i0 (.agg #[.int .i64 0, .int .i64 0, .int .i64 0, .int .i64 0, .int .i64 0, .bool false]) 6 48 Try.underlying52 iHi.out iH0.out iH1.out iH2.out rfl (by decide) (.slice (some ⟨g3, 0, none⟩) (m - k) e3) (m - k) (flatE encI (T.drop k)) rfl HO3.out ⟨b, off, none⟩ k d (flatE encI (T.take k)) rfl (by rw [flatE_len encI_len, List.length_take, HTl.out]; congr 1; omega) (LsB.news encI_len HTk.out) (flatE_one encI_one _) (by unfold maxLen; omega) (by omega) hb3 ?_)
    intro v4 w4 hown4 hgr4 hnil4
    obtain ⟨T', eT'⟩ : ∃ T', T.drop k ++ T.take k = T' := ⟨_, rfl⟩
    have HPm : Hid (T'.Perm T) := by unfold Hid; rw [← eT']; exact perm_turn T k
    have hT' : T'.length = m := HPm.out.length_eq.trans HTl.out
    have HT'l := hid hT'
    rw [flatE_append, eT', show m - k + k = T'.length by omega] at hown4
    have HM4 : Hid (Below w2.heap.size w2 w4) := HM3.out.1.grown hgr4 hb3 (fun j hj => by cases hj; exact hg3)
    obtain ⟨b4, c4, rfl, hc4, hL4, hf4⟩ := LsT.of_own encI_len hown4
    obtain ⟨p4, o4, rfl, hp4, hLB4⟩ := hL4 (by omega)
    have HL4 := hid hL4
    have HLB4 := hid hLB4
    rw [hT'] at hc4 ⊢
    have hb4 : w2.heap.size ≤ w4.heap.size := HM4.out.size
    clear hown4 hgr4 hnil4 HM3 HO3 HTk hL4 hf4 hLB4 eT' hT' hcp3 hg3 hg4
    go_wp2_with fail
    refine NoPanic.normal ?_
    go_wp2_with (at_builtin; refine wpList_append_own _ rfl _ _ 52 rfl w4.heap.size 61 i0 (.agg #[.int .i64 0, .int .i64 0, .int .i64 0, .int .i64 0, .int .i64 0, .bool false]) 6 48 Try.underlying52 iHi.out iH0.out iH1.out iH2.out rfl (by decide) (.slice none 0 0) 0 [] rfl (World.ownsRow_nil _ _ _ _) ⟨p4, o4, none⟩ m c4 (flatE encI T') rfl (by rw [flatE_len encI_len, HT'l.out]) (LsB.news encI_len HLB4.out) (flatE_one encI_one _) (by unfold maxLen; omega) (by omega) (Nat.le_refl _) ?_)
    intro v5 w5 hown5 hgr5 hnil5
    have hown5 : w5.ownsRow w4.heap.size 61 6 v5 T'.length (flatE encI T') := by rw [HT'l.out]; simpa using hown5
    have HM5 : Hid (Below w4.heap.size w4 w5) := (Below.refl _ _).grown hgr5 (Nat.le_refl _) (fun j hj => by cases hj)
    obtain ⟨b5, c5, rfl, hc5, hL5, hf5⟩ := LsT.of_own encI_len hown5
    obtain ⟨p5, o5, rfl, hp5, hLB5⟩ := hL5 (by have := HT'l.out; omega)
    have HLB5 := hid hLB5
    have HLb := hid (HL4.out.below HM5.out)
    have HLa := hid (LsT.stays HL2.out (HM4.out.trans (HM5.out.mono hb4)) (fun g o e => by cases e; exact hbl))
    have HB5 : Hid (Below w.heap.size w w5) := HB2.out.trans ((HM4.out.trans (HM5.out.mono hb4)).mono HB2.out.size)
    have hE : T'.length = m := HT'l.out
    rw [hE]
    have hp45 : p4 < w5.heap.size := Nat.lt_of_lt_of_le hp4 HM5.out.size
    have HLB4' := hid (HLB4.out.below HM5.out hp4)
    clear hown5 hgr5 hnil5 hL5 hf5 hLB5 HL4 hc5 hE HLB4
    have HP1 := hid (fun (u : World) (hu : LsT encI 6 u (some ⟨b, off, none⟩) T) => pairs_c (c := d) HTl.out hu (.inr ⟨_, _, rfl⟩) (by omega) (fun e => by cases e) HTi.out)
    have HP2 := hid (fun (u : World) (hu : LsT encI 6 u (some ⟨p4, o4, none⟩) T') => pairs_c (c := c4) HT'l.out hu (.inr ⟨_, _, rfl⟩) (by omega) (fun e => by cases e) (fun x hx => HTi.out x (HPm.out.mem_iff.1 hx)))
    rw [pairsF_perm HPm.out] at HP2
    obtain ⟨L, eL⟩ : ∃ L, pairsF T = L := ⟨_, rfl⟩
    rw [eL] at HP1 HP2
    obtain ⟨G, eG⟩ : ∃ G, L.length = G := ⟨_, rfl⟩
    have EG := hid eG
    have hG : G ≤ 900 := by
      rw [← eG, ← eL, pairsF_length]
      have h1 := collect_len T
      have h2 := HTl.out
      have : T.length * T.length ≤ 30 * 30 := Nat.mul_le_mul (by omega) (by omega)
      omega
    rw [eG] at HP1 HP2
    clear eL eG
    go_wp2_with fail
    refine (HP1.out _ HLa.out).mono ?_
    rintro e w6 ⟨ba, da, rfl, hLa, _, hb6⟩
    have HA6 := hid hLa
    have HLb6 := hid (HLb.out.below hb6)
    have HB6 : Hid (Below w.heap.size w w6) := HB5.out.trans (hb6.mono HB5.out.size)
    have K6 := hid hb6
    have l56 : w5.heap.size ≤ w6.heap.size := hb6.size
    clear hLa hb6 HP1 HLa HLb
    go_wp2_with fail
    refine (HP2.out _ HLb6.out).mono ?_
    rintro e w7 ⟨bb, db, rfl, hLb, _, hb7⟩
    have HA7 := hid (HA6.out.below hb7)
    have HBb7 := hid hLb
    have HB7 : Hid (Below w.heap.size w w7) := HB6.out.trans (hb7.mono HB6.out.size)
    have K7 : Hid (Below w5.heap.size w5 w7) := K6.out.trans (hb7.mono l56)
    have HO7 := hid (HLB4'.out.below K7.out hp45)
    have HW7 := hid (HLB5.out.below K7.out hp5)
    have lo7 : p4 < w7.heap.size := Nat.lt_of_lt_of_le hp45 K7.out.size
    have lw7 : p5 < w7.heap.size := Nat.lt_of_lt_of_le hp5 K7.out.size
    clear hLb hb7 HP2 HLb6 HA6 K6 HLB4' HLB5
    go_wp2_with fail
    go_loopg [49] G (fun g s49 wx => ∃ j : Nat, j + g = G ∧ s49 = .int .i64 j ∧ Hid (Below w7.heap.size w7 wx))
    case atStart => exact ⟨0, by omega, rfl, Below.refl _ _⟩
    case round =>
      obtain ⟨j, hj, rfl, HM8⟩ := hrel
      by_cases hlt : j < G
      · obtain ⟨p, ep⟩ : ∃ p, L[j]? = some p := ⟨_, List.getElem?_eq_getElem (by rw [EG.out]; exact hlt)⟩
        obtain ⟨xa, oa, rfl, ha, hLBa⟩ := HA7.out (by rw [EG.out]; omega)
        obtain ⟨xb, ob, rfl, hb, hLBb⟩ := HBb7.out (by rw [EG.out]; omega)
        obtain ⟨p0, p1⟩ := p
        obtain ⟨a0, a1⟩ := ((hLBa.below HM8.out ha) j _ ep).p2
        obtain ⟨b0, b1⟩ := ((hLBb.below HM8.out hb) j _ ep).p2
        simp only [] at a0 a1 b0 b1
        have q := pneq p0 p1 p0 p1
        simp at q
        clear ep hLBa hLBb
        go_upto_region 15 with fail
        go_quiet (fail)
        go_wp2_with fail
        go_roundg (G - (j + 1))
        case rel => exact ⟨j + 1, by omega, by go_num, Fx.Below.drewN HM8.out _⟩
        case measure => omega
      · go_wp2_with fail
        go_loopg [64] m (fun g s64 wx => ∃ j : Nat, j + g = m ∧ s64 = .int .i64 j ∧ Hid (Below w7.heap.size w7 wx))
        case atStart => exact ⟨0, by omega, rfl, HM8.out⟩
        case round =>
          obtain ⟨i, hi, rfl, HM9⟩ := hrel
          by_cases hlt2 : i < m
          · obtain ⟨x, ex⟩ : ∃ x, T'[i]? = some x := ⟨_, List.getElem?_eq_getElem (by rw [HT'l.out]; exact hlt2)⟩
            have q := ieql x
            obtain ⟨a0, a1, a2, a3, a4, a5⟩ := ((HO7.out.below HM9.out lo7) i _ ex).i6
            obtain ⟨b0, b1, b2, b3, b4, b5⟩ := ((HW7.out.below HM9.out lw7) i _ ex).i6
            obtain ⟨x0, x1, x2, x3, x4, x5⟩ := x
            simp only [] at a0 a1 a2 a3 a4 a5 b0 b1 b2 b3 b4 b5 q
            clear ex
            go_upto_region 21 with fail
            go_quiet (fail)
            go_wp2_with fail
            go_roundg (m - (i + 1))
            case rel => exact ⟨i + 1, by omega, by go_num, Fx.Below.drewN HM9.out _⟩
            case measure => omega
          · go_wp2_with fail
            go_ret
            exact ⟨rfl, HB7.out.trans (HM9.out.mono HB7.out.size)⟩
end Go.Proofs.Ytmfkcdinfahjlaa.Fx
