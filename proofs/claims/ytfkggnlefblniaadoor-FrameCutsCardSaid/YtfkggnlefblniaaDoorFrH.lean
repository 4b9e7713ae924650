/- Layer 16: FrameBack. -/
import Derived.Test.YtfkggnlefblniaaDoorFrF
namespace Go.Proofs.YtfkggnlefblniaaDoor.Fx
open Go.ChangeShapes Go.WideShapes Go.ChangeAt Go.RowKit
set_option linter.unusedVariables false

theorem fret_b' {a b : Bool} (h : a = b) : Ending.returned (.bool a) = .returned (.bool b) := by rw [h]
theorem joinB_low {f g : Nat → Nat} {n i : Nat} (h : i < n) : joinB f g n i = f i := by unfold joinB; rw [if_pos h]
/-- what a record with something behind it is -/
theorem rec_more {p f : Nat → Nat} (hp : ∀ i, p i < 256) {m k : Nat} {N most : Int} (hm : m < 4294967296) (h1 : 0 ≤ N) (h2 : N ≤ 9223372036854775807) (hk : m + 20 ≤ k) (hf : ∀ i, i < m + 20 → f i = recF p m N i) :
    (IsRec f k most ↔ (m : Int) ≤ most) ∧ sizeF f = m ∧ numF f = N ∧ strB (payF f) m = strB p m :=
  ⟨isRec_rec hp hm h1 h2 hk hf, by rw [sizeF_congr (g := recF p m N) fun i hi => hf i (by omega), rec_size hm], by rw [numF_congr (g := recF p m N) fun i hi => hf i (by omega), rec_num (by omega) h2],
    strB_congr m fun i hi => by rw [show payF f i = f (16 + i) from rfl, hf _ (by omega), recF_high, sealB_low hi]⟩
set_option maxRecDepth 100000 in
set_option maxHeartbeats 8000000 in
theorem fback_walk {m c k ck : Nat} {ao ak : Option Addr} {p f : Nat → Nat} {X : Int} {w : World} (hT : Tab w) (hA : ByIn w ao m c p) (hK : ByIn w ak k ck f) (hX1 : -9223372036854775808 ≤ X) (hX2 : X ≤ 9223372036854775807) :
    Calls Tryd.prog 3 #[.int .i64 X, .slice ao m c, .slice ak k ck] w fun e w' => e = .returned (.bool true) ∧ Below w.heap.size w w' := by
  obtain ⟨hA, hp, hmc, hmn⟩ := hA
  obtain ⟨hK, hf, hkc, hkn⟩ := hK
  have HA := hid hA; have HK := hid hK; have HT := hid hT; have HP := hid hp; have HF := hid hf
  clear hA hK hT hp hf
  go_enter Tryd.func3, Tryd.ntmps3
  go_wp2_with fail
  refine (ffit_c HT.out).mono ?_
  rintro e w1 ⟨rfl, hw1⟩
  have HA1 := hid (HA.out.bel hw1)
  have HK1 := hid (HK.out.bel hw1)
  have HT1 := hid (HT.out.bel hw1)
  have HW1 := hid hw1
  clear hw1 HA HK HT
  by_cases hlen : m + k > 2000
  · go_wp2_with fail
    go_ret
    exact ⟨rfl, HW1.out⟩
  go_wp2_with fail
  refine number_c.mono ?_
  rintro e w0 ⟨rfl, rfl⟩
  obtain ⟨N, eN⟩ : ∃ N, posF X = N := ⟨_, rfl⟩
  have hN1 : 0 ≤ N := by rw [← eN]; exact (posF_rg X).1
  have hN2 : N < 4611686018427387904 := by rw [← eN]; exact (posF_rg X).2
  rw [eN]
  clear eN
  go_wp2_with fail
  refine (fbytes_c (c := c) HP.out HT1.out HA1.out (by omega) (by omega) (by omega)).mono ?_
  rintro e w3 ⟨ao3, c3, rfl, hc3, hO, hM⟩
  have HB3 := hid hO.by_
  have HA3 := hid (HA1.out.kept hM)
  have HK3 := hid (HK1.out.kept hM)
  have HT3 := hid (HT1.out.kept hM)
  have HW3 : Hid (Below w.heap.size w w3) := HW1.out.trans (hM.1.mono HW1.out.size)
  obtain ⟨M, eM⟩ : ∃ M, m + 20 = M := ⟨_, rfl⟩
  have EM := hid eM
  obtain ⟨R, eR⟩ : ∃ R, recF p m N = R := ⟨_, rfl⟩
  have HRL : Hid (∀ i, R i < 256) := by unfold Hid; rw [← eR]; exact recF_lt HP.out m N
  have ER := hid eR
  obtain ⟨S, eS⟩ : ∃ S, strB R M = S := ⟨_, rfl⟩
  have ES := hid eS
  rw [eM, eR] at HB3
  rw [eM] at hc3
  rw [eM]
  have hM3 : M ≤ 2020 := by omega
  have hM4 : 20 ≤ M := by omega
  have hMm : (M : Int) = (m : Int) + 20 := by omega
  have HMm := hid hMm
  clear hO hM HA1 HK1 HT1 HW1 eM eR eS hMm
  -- region 7
  go_upto_region 7 with fail
  refine reg_below (by kernel_rfl) (by kernel_rfl) ?_
  intro T hT fw hfw
  have hq1 : ∀ t, (convert 22 9 (.slice ao3 M c3)).run Tryd.prog (fw t) = .ok (.string S) (fw t) := fun t => by
    rw [← ES.out]
    exact conv_by (HB3.out.bel (hfw.1 t))
  have H1 := hid (fun t => hfw.below (x := t) ((laid_c (c := c) (n := N) HP.out (HT3.out.bel (hfw.1 t)) (HA3.out.bel (hfw.1 t)) (by omega) (by omega) (by omega)).mono fun e w' h => by rw [EM.out, ER.out, ES.out] at h; exact h))
  repeat (go_big_quiet_step ((go_at_call 11; with_reducible exact H1.out _)))
  refine wpQuiet_nil ?_
  intro w4 h4
  have k4 := hfw.here h4
  have hne : (S.toList != S.toList) = false := by simp
  have HB4 := hid (HB3.out.bel k4)
  have HA4 := hid (HA3.out.bel k4)
  have HK4 := hid (HK3.out.bel k4)
  have HT4 := hid (HT3.out.bel k4)
  have HW4 : Hid (Below w.heap.size w w4) := HW3.out.trans (k4.mono HW3.out.size)
  clear h4 k4 hfw H1 hq1 HB3 HA3 HK3 HT3 HW3
  -- region 9: b and more
  obtain ⟨v5, w5, hr5, hO5, hM5⟩ := append_copy (c := c3) 22 HB4.out (by omega)
  obtain ⟨v6, w6, hr6, hO6, hg6, hz6⟩ := append_by (c := ck) 22 hO5 (HK4.out.kept hM5) (by omega) hM5.1.size
  have hM6 : Made w4.heap.size w4 w6 := hM5.app hg6 hz6 hM5.1.size (fun b hb => (hO5.lt b hb).1)
  obtain ⟨o6, c6, rfl, hc6, _, _⟩ := hO6.shape
  have HR5 := hid hr5; have HR6 := hid hr6
  have HB6 := hid hO6.by_
  have HC6 := hid hc6
  have HT6 := hid (HT4.out.kept hM6)
  have HM6 := hid hM6
  have HJL : Hid (∀ i, joinB R f M i < 256) := joinB_lt HRL.out HF.out M
  have HJ : Hid ((IsRec (joinB R f M) (M + k) (m : Nat) ↔ (m : Int) ≤ (m : Nat)) ∧ sizeF (joinB R f M) = m ∧ numF (joinB R f M) = N ∧ strB (payF (joinB R f M)) m = strB p m) :=
    rec_more HP.out (by omega) hN1 (by omega) (by have := EM.out; omega) fun i hi => by rw [joinB_low (by have := EM.out; omega), ER.out]
  clear hr5 hr6 hO5 hO6 hM5 hM6 hg6 hz6 hc6
  go_upto_region 9 with fail
  go_wp2_with (at_builtin; first
    | refine Lib.wpList_append_run _ rfl _ _ _ _ rfl _ _ rfl rfl _ _ HR5.out ?_
    | refine Lib.wpList_append_run _ rfl _ _ _ _ rfl _ _ rfl rfl _ _ HR6.out ?_)
  refine (next_c (most := (m : Nat)) HJL.out HT6.out HB6.out HC6.out (by omega) (by omega) (by omega)).mono ?_
  rintro e w7 ⟨a7, v7, k7, q7, rfl, hq, ht, hf, hM⟩
  have hq1 : q7 = true := hq.2 (HJ.out.1.2 (by omega))
  subst hq1
  obtain ⟨rfl, rfl, ao7, c7, rfl, hc7, hO⟩ := ht rfl
  rw [HJ.out.2.1, HJ.out.2.2.1, EM.out]
  rw [HJ.out.2.1] at hO
  obtain ⟨W8, eW8⟩ : ∃ W, W = w7.alloc (.cells #[Value.int .i64 N, Value.slice ao7 m c7] 28) := ⟨_, rfl⟩
  obtain ⟨g8, eg8⟩ : ∃ g, w7.heap.size = g := ⟨_, rfl⟩
  have K8 : Made w7.heap.size w7 W8 := by rw [eW8]; exact (Made.rfl_ _ _).cells (Nat.le_refl _) _ _
  have R8 : Hid (Has W8 g8 28 #[Value.int .i64 N, Value.slice ao7 m c7]) := by unfold Hid; rw [eW8, ← eg8]; exact has_new _ _ _
  have P8 : Hid (By W8 ao7 m (payF (joinB R f M))) := hO.by_.kept K8
  have M8 := hid ((HM6.out.then_ (hM.low HM6.out.1.size)).then_ (K8.low (Nat.le_trans HM6.out.1.size hM.1.size)))
  have HB8 := hid (HB4.out.kept M8.out)
  have HT8 := hid (HT4.out.kept M8.out)
  have HRR : Hid ((IsRec R M (m : Nat) ↔ (m : Int) ≤ (m : Nat)) ∧ sizeF R = m ∧ numF R = N ∧ strB (payF R) m = strB p m) :=
    rec_more HP.out (by omega) hN1 (by omega) (by have := EM.out; omega) fun i hi => by rw [ER.out]
  clear hq ht hf hM hO K8 HR5 HR6 HB6 HT6 HC6 hc7
  go_upto_region 10 with fail
  try rw [eg8]
  rw [← eW8]
  clear eW8 eg8
  go_wp2_with fail
  refine (one_c (most := (m : Nat)) HRL.out HT8.out HB8.out hc3 (by omega) (by omega) (by omega)).mono ?_
  rintro e w9 ⟨a9, ao9, s9, c9, q9, rfl, hq, ht, hM⟩
  have hq1 : q9 = true := hq.2 ⟨HRR.out.1.2 (by omega), by rw [HRR.out.2.1, EM.out]⟩
  subst hq1
  obtain ⟨rfl, rfl, hc9, hO⟩ := ht rfl
  rw [HRR.out.2.1, HRR.out.2.2.1]
  rw [HRR.out.2.1] at hO
  obtain ⟨W10, eW10⟩ : ∃ W, W = w9.alloc (.cells #[Value.int .i64 N, Value.slice ao9 m c9] 28) := ⟨_, rfl⟩
  obtain ⟨g10, eg10⟩ : ∃ g, w9.heap.size = g := ⟨_, rfl⟩
  have K10 : Made w9.heap.size w9 W10 := by rw [eW10]; exact (Made.rfl_ _ _).cells (Nat.le_refl _) _ _
  have R10 : Hid (Has W10 g10 28 #[Value.int .i64 N, Value.slice ao9 m c9]) := by unfold Hid; rw [eW10, ← eg10]; exact has_new _ _ _
  have P10 : Hid (By W10 ao9 m (payF R)) := hO.by_.kept K10
  have J10 : Hid (Made W8.heap.size W8 W10) := hM.then_ (K10.low hM.1.size)
  have HB10 := hid (HB8.out.kept J10.out)
  have HT10 := hid (HT8.out.kept J10.out)
  clear hq ht hM hO K10 hc9
  -- region 11: one byte more
  obtain ⟨v11, w11, hr11, hO11, hM11⟩ := append_copy (c := c3) 22 HB10.out (by omega)
  obtain ⟨V, eV⟩ : ∃ V, V = w11.alloc (.cells #[Value.int .u8 0] 5) := ⟨_, rfl⟩
  have KV : Made w11.heap.size w11 V := by rw [eV]; exact (Made.rfl_ _ _).cells (Nat.le_refl _) _ _
  have BV : By V (some ⟨w11.heap.size, 0, none⟩) 1 (fun _ => 0) := by rw [eV]; exact By.one w11 0
  obtain ⟨v12, w12, hr12, hO12, hg12, hz12⟩ := append_by (c := 1) 22 (hO11.kept KV) BV (by omega) (Nat.le_trans hM11.1.size KV.1.size)
  have hM12 : Made W10.heap.size W10 w12 := (hM11.then_ (KV.low hM11.1.size)).app hg12 hz12 (Nat.le_trans hM11.1.size KV.1.size) (fun b hb => ((hO11.kept KV).lt b hb).1)
  obtain ⟨o12, c12, rfl, hc12, _, _⟩ := hO12.shape
  rw [eV] at hr12
  have HR11 := hid hr11; have HR12 := hid hr12
  have HB12 := hid hO12.by_
  have HC12 := hid hc12
  have HT12 := hid (HT10.out.kept hM12)
  have HM12 := hid hM12
  have HJL2 : Hid (∀ i, joinB R (fun _ => 0) M i < 256) := joinB_lt HRL.out (fun _ => by omega) M
  have HJ2 : Hid (sizeF (joinB R (fun _ => 0) M) = m) :=
    (rec_more (most := 0) (k := M + 1) HP.out (by omega) hN1 (by omega) (by have := EM.out; omega) fun i hi => by rw [joinB_low (by have := EM.out; omega), ER.out]).2.1
  clear hr11 hr12 hO11 hO12 hM11 hM12 hg12 hz12 hc12 eV KV BV
  go_upto_region 11 with fail
  try rw [eg10]
  rw [← eW10]
  clear eW10 eg10
  go_wp2_with (at_builtin; first
    | refine Lib.wpList_append_run _ rfl _ _ _ _ rfl _ _ rfl rfl _ _ HR11.out ?_
    | refine Lib.wpList_append_run _ rfl _ _ _ _ rfl _ _ rfl rfl _ _ HR12.out ?_)
  refine (one_c (most := (m : Nat)) HJL2.out HT12.out HB12.out HC12.out (by omega) (by omega) (by omega)).mono ?_
  rintro e w13 ⟨a13, ao13, s13, c13, q13, rfl, hq, ht, hM⟩
  have hq1 : q13 = false := by
    cases q13 with
    | false => rfl
    | true =>
      have h := (hq.1 rfl).2
      rw [HJ2.out] at h
      have := EM.out
      omega
  subst hq1
  obtain ⟨W14, eW14⟩ : ∃ W, W = w13.alloc (.cells #[Value.int .i64 a13, Value.slice ao13 s13 c13] 28) := ⟨_, rfl⟩
  have K14 : Made w13.heap.size w13 W14 := by rw [eW14]; exact (Made.rfl_ _ _).cells (Nat.le_refl _) _ _
  have J14 : Hid (Made W10.heap.size W10 W14) := (HM12.out.then_ (hM.low HM12.out.1.size)).then_ (K14.low (Nat.le_trans HM12.out.1.size hM.1.size))
  have HB14 := hid (HB10.out.kept J14.out)
  have HT14 := hid (HT10.out.kept J14.out)
  clear hq ht hM K14 HR11 HR12 HB12 HC12 HT12
  -- region 12: a byte less may be
  go_upto_region 12 with fail
  rw [← eW14]
  clear eW14
  go_wp2_with fail
  refine (next_c (most := (m : Int) - 1) HRL.out HT14.out HB14.out hc3 (by omega) (by omega) (by omega)).mono ?_
  rintro e w15 ⟨a15, v15, k15, q15, rfl, hq, ht, hf, hM⟩
  have hq1 : q15 = false := by
    cases q15 with
    | false => rfl
    | true =>
      have h := (hq.1 rfl).2.2.2.1
      rw [HRR.out.2.1] at h
      omega
  subst hq1
  obtain ⟨rfl, rfl, rfl⟩ := hf rfl
  obtain ⟨W16, eW16⟩ : ∃ W, W = w15.alloc (.cells #[Value.int .i64 0, Value.slice none 0 0] 28) := ⟨_, rfl⟩
  have K16 : Made w15.heap.size w15 W16 := by rw [eW16]; exact (Made.rfl_ _ _).cells (Nat.le_refl _) _ _
  have J16 : Made W10.heap.size W10 W16 := (J14.out.then_ (hM.low J14.out.1.size)).then_ (K16.low (Nat.le_trans J14.out.1.size hM.1.size))
  have J16' : Made W8.heap.size W8 W16 := J10.out.then_ (J16.low J10.out.1.size)
  have x0 := (R8.out.stays J16' R8.out.here).at_ 0
  have x1 := (R8.out.stays J16' R8.out.here).at_ 1
  have y0 := (R10.out.stays J16 R10.out.here).at_ 0
  have y1 := (R10.out.stays J16 R10.out.here).at_ 1
  simp at x0 x1 y0 y1
  obtain ⟨Z, eZ⟩ : ∃ Z, strB p m = Z := ⟨_, rfl⟩
  have u1 : (convert 22 9 (.slice ao7 m c7)).run Tryd.prog W16 = .ok (.string Z) W16 := by rw [← eZ, ← HJ.out.2.2.2]; exact conv_by (P8.out.kept J16')
  have u2 : (convert 22 9 (.slice ao9 m c9)).run Tryd.prog W16 = .ok (.string Z) W16 := by rw [← eZ, ← HRR.out.2.2.2]; exact conv_by (P10.out.kept J16)
  have u3 : (convert 22 9 (.slice ao m c)).run Tryd.prog W16 = .ok (.string Z) W16 := by rw [← eZ]; exact conv_by ((HA4.out.kept M8.out).kept J16')
  have HE : Hid (Below w.heap.size w W16) := HW4.out.trans ((M8.out.1.trans (J16'.1.mono M8.out.1.size)).mono HW4.out.size)
  have hzz : (Z.toList == Z.toList) = true := by simp
  have hmm : ((M : Int) == (M : Int)) = true := by simp
  have hnn : ((N : Int) == (N : Int)) = true := by simp
  clear hq ht hf hM K16 J16 J16' eZ
  go_upto_region 13 with fail
  rw [← eW16]
  clear eW16
  go_wp2_with fail
  go_ret
  exact ⟨rfl, HE.out⟩
end Go.Proofs.YtfkggnlefblniaaDoor.Fx
