/- Layer 16: FrameCuts. -/
import Derived.Test.YtfkggnlefblniaaDoorFrG
import Derived.Test.YtfkggnlefblniaaDoorFrO
import Derived.Test.YtfkggnlefblniaaDoorFrH
namespace Go.Proofs.YtfkggnlefblniaaDoor.Fx
open Go.ChangeShapes Go.WideShapes Go.ChangeAt Go.RowKit
set_option linter.unusedVariables false

set_option maxRecDepth 100000 in
set_option maxHeartbeats 8000000 in
theorem fcuts_walk {m c k ck : Nat} {ao ak : Option Addr} {p d : Nat → Nat} {X cut : Int} {w : World} (hT : Tab w) (hA : ByP w ao m c p) (hK : ByIn w ak k ck d) :
    Calls Tryd.prog 7 #[.agg #[.int .i64 X, .slice ao m c], .int .i64 cut, .slice ak k ck] w fun e w' => e = .returned (.bool true) ∧ Below w.heap.size w w' := by
  obtain ⟨hA, hp, hmc, hmn⟩ := hA
  obtain ⟨hD, hd, hkc, hkn⟩ := hK
  obtain ⟨W0, eW0⟩ : ∃ W, W = w.alloc (.cells #[Value.int .i64 X, Value.slice ao m c] 37) := ⟨_, rfl⟩
  obtain ⟨G0, eG0⟩ : ∃ G, w.heap.size = G := ⟨_, rfl⟩
  have K0 : Made w.heap.size w W0 := by rw [eW0]; exact (Made.rfl_ _ _).cells (Nat.le_refl _) _ _
  have P0 : Hid (Has W0 G0 37 #[.int .i64 X, .slice ao m c]) := by unfold Hid; rw [eW0, ← eG0]; exact has_new _ _ _
  have HP := hid hp
  have HA0 := hid (hA.kept K0); have HT0 := hid (hT.kept K0)
  have HK0 := hid K0
  have HD0 := hid (hD.kept K0); have HDL := hid hd
  clear hD hd
  clear hA hT hp K0
  go_enter Tryd.func7, Tryd.ntmps7
  go_upto_region 1 with fail
  rw [← eW0]
  clear eW0
  try rw [eG0]
  go_wp2_with fail
  refine (ffit_c HT0.out).mono ?_
  rintro e w1 ⟨rfl, hw1⟩
  have P1 := hid (P0.out.below hw1 P0.out.here)
  have HA1 := hid (HA0.out.bel hw1)
  have HT1 := hid (HT0.out.bel hw1)
  have HW1 : Hid (Below w.heap.size w w1) := HK0.out.1.trans (hw1.mono HK0.out.1.size)
  have HD1 := hid (HD0.out.bel hw1)
  have z0 := P1.out.at_ 0
  have z1 := P1.out.at_ 1
  simp at z0 z1
  clear hw1 HA0 HT0 P0 HK0 eG0
  by_cases h1 : m > 300
  · go_wp2_with fail
    go_ret
    exact ⟨rfl, HW1.out⟩
  by_cases h2 : k > 300
  · go_wp2_with fail
    go_ret
    exact ⟨rfl, HW1.out⟩
  obtain ⟨N, eN⟩ : ∃ N, posF X = N := ⟨_, rfl⟩
  have hN1 : 0 ≤ N := by rw [← eN]; exact (posF_rg X).1
  have hN2 : N < 4611686018427387904 := by rw [← eN]; exact (posF_rg X).2
  have EN := hid eN
  clear eN
  obtain ⟨M, eM⟩ : ∃ M, m + 20 = M := ⟨_, rfl⟩
  have EM := hid eM
  obtain ⟨R, eR⟩ : ∃ R, recF p m N = R := ⟨_, rfl⟩
  have HRL : Hid (∀ i, R i < 256) := by unfold Hid; rw [← eR]; exact recF_lt HP.out m N
  have ER := hid eR
  have hm32 : m ≤ 4294967295 := by omega
  have mkb : Hid (∀ (G' : Nat → Option (Nat × MY.Ex)) (u : World), MY.Cm w1 (alBy w1.heap.size M R) G' u → Calls Tryd.prog 10 #[.int .i64 N, .slice ao m c] u fun e v => ∃ x, e = .returned x ∧ OB v w1.heap.size x M R ∧ Made u.heap.size u v) := fun G' u hu => by
    refine (fbytes_c HP.out (HT1.out.kept hu.1) (HA1.out.kept hu.1) hm32 (by omega) (by omega)).mono ?_
    rintro e v ⟨ao', c', rfl, hc', h1, h2⟩
    rw [EM.out] at h1 ⊢
    rw [ER.out] at h1
    exact ⟨_, rfl, h1.low hu.1.1.size, h2⟩
  have hM4 : 20 ≤ M := by omega
  have hMx : M ≤ 1000 := by omega
  clear eM eR
  go_upto_region 5 with fail
  refine MY.reg_mk (alBy w1.heap.size M R) 6 [0, 1, 2, 3, 4, 5] [0, 1, 2, 3, 4] [5] [] (fun i => []) (val := valBy) (by kernel_rfl) (by kernel_rfl) (fun p hp => absurd hp (by simp)) ?_
  refine MY.can_class (rest := [5]) [0, 1, 2, 3, 4] [] 90 (alBy_lasts _ _ _) (MY.any_class _) (by kernel_rfl) rfl (by kernel_rfl) (by kernel_rfl) ?_
  apply Exists.intro
  refine ⟨?r1, ?r2⟩
  case r1 =>
    intro Ty hTT fw hf _
    have HN := hid (fun t => hf.same (x := t) ((number_c (n := X) (w := fw t)).mono fun e w' h => by rw [EN.out] at h; exact h))
    have x0 := Class.reads hf z0
    have x1 := Class.reads hf z1
    change wpQuiet _ _ _ _ [_, _, _, _, _] _
    repeat (go_big_quiet_step ((go_at_call 9; with_reducible exact HN.out _)))
    exact wpQuiet_nil rfl
  refine MY.can_mk 5 33 _ rfl rfl rfl rfl ?m2 fun q2 e2 => ?n2
  case m2 =>
    intro G' u _ hu
    rw [show (execOp _ _).run Tryd.prog u = .ok (.enter 10 #[.int .i64 N, .slice ao m c]) u by kernel_rfl]
    show Calls _ _ _ _ _
    refine (mkb.out G' u hu).mono ?_
    rintro e v ⟨x, rfl, h1, h2⟩
    exact ⟨u.heap.size, ⟨v.heap.size, x⟩, rfl, hu.next (alBy_lasts _ _ _) h2 (Nat.le_refl _) h2.1.size (Nat.le_refl _) h1⟩
  rw [show valBy 5 q2 e2 = e2.v from rfl]
  simp only [Act.put, List.setIfInBounds_toArray, List.set_cons_succ, List.set_cons_zero]
  intro w3 hu
  have hO3 : OB w3 w1.heap.size e2.v M R := (hu.2.1 5 (q2, e2) (by unfold MY.upd; simp)).2.2.2
  have k3 := hu.1
  obtain ⟨ao3, c3, ev3, hc3, hc4, hsh⟩ := hO3.shape
  obtain ⟨g3, rfl, hg3, hg4, hg5⟩ := hsh (by omega)
  rw [ev3] at hO3 ⊢
  have HB3 := hid hO3.by_
  have HGG : Hid (G0 < g3) := Nat.lt_of_lt_of_le P1.out.here hg3
  have P3 := hid (P1.out.stays k3 P1.out.here)
  have HA3 := hid (HA1.out.kept k3)
  have HT3 := hid (HT1.out.kept k3)
  have HW3 : Hid (Below w.heap.size w w3) := HW1.out.trans (k3.1.mono HW1.out.size)
  have HD3 := hid (HD1.out.kept k3)
  clear HD1
  unfold maxLen at hc4
  clear hu hO3 k3 ev3 hsh hg3 hg4 hg5 mkb HA1 HT1 P1 HW1 z0 z1
  simp only [List.drop_succ_cons, List.drop_zero]
  go_wp2_with fail
  refine NoPanic.normal ?_
  obtain ⟨A, eA⟩ : ∃ A : Nat, cut % 65536 = (A : Int) := ⟨(cut % 65536).toNat, by omega⟩
  have ha := (show bits .and .i64 cut 65535 = cut % 65536 from cand_low cut 16 (by omega)).trans eA
  obtain ⟨K, eK⟩ : ∃ K, A % M = K := ⟨_, rfl⟩
  have ek2 : (A : Int) % (M : Int) = (K : Int) := by rw [← eK]; omega
  have ek3 : (A : Int).tmod (M : Int) = (K : Int) := by rw [Int.tmod_eq_emod_of_nonneg (by omega)]; exact ek2
  have hn0 : (M : Int) ≠ 0 := by omega
  have hnb : ((M : Int) == 0) = false := by simp; omega
  have hKM : K < M := by rw [← eK]; exact Nat.mod_lt _ (by omega)
  have hEM : Hid (m + 20 = M) := EM.out
  have HBK := hid (HB3.out.take (Nat.le_of_lt hKM))
  have HNO : Hid (∀ most, ¬ IsRec R K most) := fun most h => by
    have h1 := h.2.2.2.2.1
    rw [← ER.out, rec_size (by omega)] at h1
    have := hEM.out
    omega
  clear eA eK
  go_upto_region 7 with fail
  go_wp2_with fail
  refine (next_c (most := 300) HRL.out HT3.out HBK.out (by omega) (by omega) (by omega) (by omega)).mono ?_
  rintro e w4 ⟨a4, v4, k4, q4, rfl, hq, ht, hf, hM⟩
  have hq1 : q4 = false := by cases q4 with
    | false => rfl
    | true => exact absurd (hq.1 rfl) (HNO.out _)
  subst hq1
  obtain ⟨rfl, rfl, rfl⟩ := hf rfl
  obtain ⟨W5, eW5⟩ : ∃ W, W = w4.alloc (.cells #[Value.int .i64 0, Value.slice none 0 0] 28) := ⟨_, rfl⟩
  have K5 : Made w4.heap.size w4 W5 := by rw [eW5]; exact (Made.rfl_ _ _).cells (Nat.le_refl _) _ _
  have J5 : Hid (Made w3.heap.size w3 W5) := hM.then_ (K5.low hM.1.size)
  have HB5 := hid (HBK.out.kept J5.out)
  have HT5 := hid (HT3.out.kept J5.out)
  clear hq ht hf hM K5
  go_upto_region 8 with fail
  rw [← eW5]
  clear eW5
  go_wp2_with fail
  refine (one_c (most := 300) HRL.out HT5.out HB5.out (by omega) (by omega) (by omega) (by omega)).mono ?_
  rintro e w6 ⟨a6, ao6, s6, c6, q6, rfl, hq, ht, hM⟩
  have hq1 : q6 = false := by cases q6 with
    | false => rfl
    | true => exact absurd (hq.1 rfl).1 (HNO.out _)
  subst hq1
  obtain ⟨W7, eW7⟩ : ∃ W, W = w6.alloc (.cells #[Value.int .i64 a6, Value.slice ao6 s6 c6] 28) := ⟨_, rfl⟩
  have K7 : Made w6.heap.size w6 W7 := by rw [eW7]; exact (Made.rfl_ _ _).cells (Nat.le_refl _) _ _
  have J7 : Hid (Made w3.heap.size w3 W7) := (J5.out.then_ (hM.low J5.out.1.size)).then_ (K7.low (Nat.le_trans J5.out.1.size hM.1.size))
  have HB7 := hid (HB3.out.kept J7.out)
  have HT7 := hid (HT3.out.kept J7.out)
  have HD7 := hid (HD3.out.kept J7.out)
  clear hq ht hM K7 HB5 HT5 J5
  obtain ⟨v8, w8, hr8, hO8, hM8⟩ := append_copy (c := c3) 22 HB7.out (by omega)
  obtain ⟨v9, w9, hr9, hO9, hg9, hz9⟩ := append_by (c := ck) 22 hO8 (HD7.out.kept hM8) (by omega) hM8.1.size
  have hM9 : Made W7.heap.size W7 w9 := hM8.app hg9 hz9 hM8.1.size (fun b hb => (hO8.lt b hb).1)
  obtain ⟨o9, c9, rfl, hc9, _, _⟩ := hO9.shape
  have HR8 := hid hr8; have HR9 := hid hr9
  have HB9 := hid hO9.by_
  have HC9 := hid hc9
  have HT9 := hid (HT7.out.kept hM9)
  have J9 : Hid (Made w3.heap.size w3 w9) := J7.out.then_ (hM9.low J7.out.1.size)
  have HJL : Hid (∀ i, joinB R d M i < 256) := joinB_lt HRL.out HDL.out M
  have HJ : Hid ((IsRec (joinB R d M) (M + k) 300 ↔ (m : Int) ≤ 300) ∧ sizeF (joinB R d M) = m ∧ numF (joinB R d M) = N ∧ strB (payF (joinB R d M)) m = strB p m) :=
    rec_more HP.out (by omega) hN1 (by omega) (by have := hEM.out; omega) fun i hi => by rw [joinB_low (by have := hEM.out; omega), ER.out]
  clear hr8 hr9 hO8 hO9 hM8 hM9 hg9 hz9 hc9
  go_upto_region 9 with fail
  rw [← eW7]
  clear eW7
  go_wp2_with (at_builtin; first
    | refine Lib.wpList_append_run _ rfl _ _ _ _ rfl _ _ rfl rfl _ _ HR8.out ?_
    | refine Lib.wpList_append_run _ rfl _ _ _ _ rfl _ _ rfl rfl _ _ HR9.out ?_)
  refine (next_c (most := 300) HJL.out HT9.out HB9.out HC9.out (by omega) (by omega) (by omega)).mono ?_
  rintro e w10 ⟨a10, v10, k10, q10, rfl, hq, ht, hf, hM⟩
  have hq1 : q10 = true := hq.2 (HJ.out.1.2 (by omega))
  subst hq1
  obtain ⟨rfl, rfl, ao10, c10, rfl, hc10, hO⟩ := ht rfl
  rw [HJ.out.2.1, HJ.out.2.2.1, EM.out]
  obtain ⟨W11, eW11⟩ : ∃ W, W = w10.alloc (.cells #[Value.int .i64 N, Value.slice ao10 m c10] 28) := ⟨_, rfl⟩
  obtain ⟨g11, eg11⟩ : ∃ g, w10.heap.size = g := ⟨_, rfl⟩
  have K11 : Made w10.heap.size w10 W11 := by rw [eW11]; exact (Made.rfl_ _ _).cells (Nat.le_refl _) _ _
  have R11 : Has W11 g11 28 #[Value.int .i64 N, Value.slice ao10 m c10] := by rw [eW11, ← eg11]; exact has_new _ _ _
  have J11 : Made w3.heap.size w3 W11 := (J9.out.then_ (hM.low J9.out.1.size)).then_ (K11.low (Nat.le_trans J9.out.1.size hM.1.size))
  have y0 := R11.at_ 0
  have x0 := (P3.out.stays J11 P3.out.here).at_ 0
  simp at y0 x0
  have hmm : ((M : Int) == (M : Int)) = true := by simp
  have hnn : ((N : Int) == (N : Int)) = true := by simp
  have HE : Hid (Below w.heap.size w W11) := HW3.out.trans (J11.1.mono HW3.out.size)
  clear hq ht hf hM hO K11 R11 J11 HR8 HR9 HB9 HT9 HC9 hc10
  go_upto_region 10 with fail
  try rw [eg11]
  rw [← eW11]
  clear eW11 eg11
  refine reg_made (by kernel_rfl) (by kernel_rfl) ?_
  intro T hTT fw hfw
  have HN := hid (fun t => hfw.same (x := t) ((number_c (n := X) (w := fw t)).mono fun e w' h => by rw [EN.out] at h; exact h))
  have u0 := Class.reads hfw y0
  have u1 := Class.reads hfw x0
  repeat (go_big_quiet_step (first | (go_at_call 9; with_reducible exact HN.out _) | rfl))
  refine wpQuiet_nil ?_
  intro w12 h12
  have k12 := hfw.here h12
  have HE2 : Hid (Below w.heap.size w w12) := HE.out.trans (k12.1.mono HE.out.size)
  clear h12 k12 hfw u0 u1
  go_wp2_with fail
  go_ret
  exact ⟨rfl, HE2.out⟩
end Go.Proofs.YtfkggnlefblniaaDoor.Fx
