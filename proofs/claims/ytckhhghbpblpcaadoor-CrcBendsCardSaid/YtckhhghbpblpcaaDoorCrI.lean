/- The walk of CrcBends. -/
import Derived.Test.YtckhhghbpblpcaaDoorCrF
import Derived.Test.YtckhhghbpblpcaaDoorCrO
import Derived.Test.YtckhhghbpblpcaaDoorMky
namespace Go.Proofs.YtckhhghbpblpcaaDoor.Fx
open Go.ChangeShapes Go.WideShapes Go.ChangeAt Go.RowKit
set_option linter.unusedVariables false

theorem and16' (x : Int) : bits .and .i64 x 65535 = x % 65536 := and_low x 16 (by omega)
theorem xor8i {a b : Nat} (ha : a < 256) (hb : b < 256) : bits .xor .u8 (a : Int) (b : Int) = ((a ^^^ b : Nat) : Int) := u8_xor_nat a b ha hb
theorem ret_bi {a b : Bool} (h : a = b) : Ending.returned (.bool a) = .returned (.bool b) := by rw [h]
def alBn (Z M : Nat) (F : Nat → Nat) (i : Nat) (v : World) (g : Nat) (e : MY.Ex) : Prop := OB v Z e.v M F
theorem alBn_lasts (Z M : Nat) (F : Nat → Nat) : MY.Lasts (alBn Z M F) := fun i u v g e h hh k => OB.kept h k
def valBn (i g : Nat) (e : MY.Ex) : Value := e.v
theorem bit_le (b : Bool) : b.toNat ≤ 1 := by cases b <;> decide
theorem bit_xor_nat (a b : Bool) : a.toNat ^^^ b.toNat = (a ^^ b).toNat := by cases a <;> cases b <;> rfl
set_option maxRecDepth 100000 in
set_option maxHeartbeats 8000000 in
theorem crcbends_walk {n c mask : Nat} {ao : Option Addr} {f : Nat → Nat} {at_ : Int} {w : World} (hT : Tab w) (hA : ByIn w ao n c f) (hm : mask < 4294967296) :
    Calls Tryd.prog 4 #[.slice ao n c, .int .i64 at_, .int .u32 (mask : Nat)] w fun e w' => e = .returned (.bool true) ∧ Below w.heap.size w w' := by
  obtain ⟨hA, hf, hna, hca⟩ := hA
  have HA := hid hA; have HT := hid hT; have HF := hid hf
  clear hA hT hf hna
  go_enter Tryd.func4, Tryd.ntmps4
  go_wp2_with fail
  refine (cfit_c HT.out).mono ?_
  rintro e w1 ⟨rfl, hw1⟩
  have HA1 := hid (HA.out.bel hw1)
  have HT1 := hid (HT.out.bel hw1)
  have HW1 := hid hw1
  clear hw1 HA HT
  by_cases hlen : n > 2000
  · go_wp2_with fail
    go_ret
    exact ⟨rfl, HW1.out⟩
  go_wp2_with fail
  refine (cseal_c HF.out HT1.out HA1.out (by omega)).mono ?_
  rintro e w2 ⟨v2, rfl, hO, hM⟩
  obtain ⟨o2, c2, rfl, _, _, _⟩ := hO.shape
  have HS2 := hid hO.by_
  have HM2 := hid hM
  have HT2 := hid (HT1.out.kept hM)
  have HSL : Hid (∀ i, sealB f n i < 256) := sealB_lt HF.out n
  obtain ⟨M, eM⟩ : ∃ M, n + 4 = M := ⟨_, rfl⟩
  obtain ⟨N, eN⟩ : ∃ N, 8 * M = N := ⟨_, rfl⟩
  have eN2 : (8 : Int) * (M : Int) = (N : Int) := by omega
  have e16 := and16' at_
  obtain ⟨A, eA⟩ : ∃ A : Nat, at_ % 65536 = (A : Int) := ⟨(at_ % 65536).toNat, by omega⟩
  rw [eA] at e16
  obtain ⟨k, ek⟩ : ∃ k, A % N = k := ⟨_, rfl⟩
  have lk : k < N := by rw [← ek]; exact Nat.mod_lt _ (by omega)
  have ek2 : (A : Int) % (N : Int) = (k : Int) := by rw [← ek]; omega
  have ek3 : (A : Int).tmod (N : Int) = (k : Int) := by rw [Int.tmod_eq_emod_of_nonneg (by omega)]; exact ek2
  have hn0 : (N : Int) ≠ 0 := by omega
  have lN : N ≤ 16032 := by omega
  have lM : M ≤ 2004 := by omega
  have HG : Hid ((sumB (bendB (sealB f n) (k : Int) mask 32) n = word (fun i => bendB (sealB f n) (k : Int) mask 32 (n + i)) 4) ↔ ∀ i, i < n + 4 → bendB (sealB f n) (k : Int) mask 32 i = sealB f n i) := bent_good HF.out n k mask hm (by omega)
  have HBT : Hid (∀ j, bendB (bendB (sealB f n) (k : Int) mask 32) (k : Int) mask 32 j = sealB f n j) := bend_twice HSL.out k mask
  obtain ⟨S, eS⟩ : ∃ S, sealB f n = S := ⟨_, rfl⟩
  rw [eS] at HS2 HSL HG HBT
  have HBB : Hid (∀ i, bitOf (bendB S (k : Int) mask 32) i = (bitOf S i ^^ bendE (k : Int) mask 32 i)) := fun i => bend_bits S k mask i
  rw [eM] at HS2
  have EM := hid eM; have EN := hid eN
  clear hO hM eA ek HT1 HA1
  rw [eM]
  clear eM eN
  go_wp2_with fail
  refine (cbend_c (at_ := (k : Int)) HSL.out HS2.out (by omega) hm (by omega) (by omega)).mono ?_
  rintro e w3 ⟨v3, rfl, hO, hM⟩
  obtain ⟨o3, c3, rfl, hc3, _, _⟩ := hO.shape
  have HB3 := hid hO.by_
  have HS3 := hid (HS2.out.kept hM)
  have HT3 := hid (HT2.out.kept hM)
  have HM3 := hid (HM2.out.then_ (hM.low HM2.out.1.size))
  have HBL : Hid (∀ i, bendB S (k : Int) mask 32 i < 256) := bendB_lt HSL.out k mask 32
  obtain ⟨B, eB⟩ : ∃ B, bendB S (k : Int) mask 32 = B := ⟨_, rfl⟩
  rw [eB] at HB3 HBL HG HBT HBB
  have HC3 := hid hc3
  clear hO hM eB HS2 HT2 HM2 hc3 eS
  go_upto_region 8 with fail
  have mkb : Hid (∀ (G' : Nat → Option (Nat × MY.Ex)) (u : World), MY.Cm w3 (alBn w3.heap.size M S) G' u → Calls Tryd.prog 12 #[.slice o3 M c3, .int .i64 (k : Int), .int .u32 (mask : Nat)] u fun e v => ∃ x, e = .returned x ∧ OB v w3.heap.size x M S ∧ Made u.heap.size u v) := fun G' u hu => by
    refine (cbend_c (at_ := (k : Int)) HBL.out (HB3.out.kept hu.1) (by omega) hm (by omega) (by omega)).mono ?_
    rintro e v ⟨x, rfl, h1, h2⟩
    exact ⟨x, rfl, (h1.low hu.1.1.size).congr fun i _ => HBT.out i, h2⟩
  obtain ⟨XS, eXS⟩ : ∃ X, strB S M = X := ⟨_, rfl⟩
  obtain ⟨XB, eXB⟩ : ∃ X, strB B M = X := ⟨_, rfl⟩
  have EXS := hid eXS; have EXB := hid eXB
  have HXX : Hid (XB = XS ↔ ∀ i, i < M → B i = S i) := by unfold Hid; rw [← eXS, ← eXB]; exact strB_ext HBL.out HSL.out M
  clear eXS eXB
  refine MY.reg_mk (alBn w3.heap.size M S) 14 [0, 1, 2, 5, 6, 3, 4, 7, 8, 9, 10, 11, 12, 13] [0, 1, 2, 4, 5, 6, 7, 8, 9, 10, 11, 12, 13] [3] [] (fun i => if i = 4 then [3] else []) (val := valBn) (by kernel_rfl) (by kernel_rfl) (fun p hp => absurd hp (by simp)) ?_
  refine MY.can_class (rest := [3, 4, 7, 8, 9, 10, 11, 12, 13]) [0, 1, 2, 5, 6] [] 101 (alBn_lasts _ _ _) (MY.any_class _) (by kernel_rfl) rfl (by kernel_rfl) (by kernel_rfl) ?_
  apply Exists.intro
  refine ⟨?r1, ?r2⟩
  case r1 =>
    intro Ty hTT fw hf _
    have hq6 : ∀ x, (convert 22 9 (.slice o2 M c2)).run Tryd.prog (fw x) = .ok (.string XS) (fw x) := fun x => by
      rw [← EXS.out]
      exact conv_by (HS3.out.kept (hf.1 x))
    change wpQuiet _ _ _ _ [_, _, _, _, _] _
    repeat (go_big_quiet_step (fail))
    exact wpQuiet_nil rfl
  refine MY.can_mk 3 34 _ rfl rfl rfl rfl ?m2 fun q2 e2 => ?n2
  case m2 =>
    intro G' u _ hu
    rw [show (execOp _ _).run Tryd.prog u = .ok (.enter 12 #[.slice o3 M c3, .int .i64 (k : Int), .int .u32 (mask : Nat)]) u by kernel_rfl]
    show Calls _ _ _ _ _
    refine (mkb.out G' u hu).mono ?_
    rintro e v ⟨x, rfl, h1, h2⟩
    exact ⟨u.heap.size, ⟨v.heap.size, x⟩, rfl, hu.next (alBn_lasts _ _ _) h2 (Nat.le_refl _) h2.1.size (Nat.le_refl _) h1⟩
  rw [show valBn 3 q2 e2 = e2.v from rfl]
  simp only [Act.put, List.setIfInBounds_toArray, List.set_cons_succ, List.set_cons_zero]
  refine MY.can_one 4 35 _ (.string XS) [3] (alBn_lasts _ _ _) (by kernel_rfl) rfl rfl (of_decide_eq_true rfl) (by kernel_rfl) ?r3 ?r4
  case r3 =>
    intro Ty hTT fw hf hmm
    try simp only [List.getElem_toArray, List.getElem_cons_succ, List.getElem_cons_zero]
    have hm2 := fun x => (hmm 3 (by simp) (q2, e2) (by unfold MY.upd; simp) x).2.2.2
    obtain ⟨x0⟩ := hTT
    have hx0 : OB (fw x0) w3.heap.size e2.v M S := hm2 x0
    obtain ⟨ao5, c5, ev5, _⟩ := hx0.shape
    have hq5 : ∀ x, (convert 22 9 (.slice ao5 M c5)).run Tryd.prog (fw x) = .ok (.string XS) (fw x) := fun x => by
      have h : OB (fw x) w3.heap.size e2.v M S := hm2 x
      rw [ev5] at h
      rw [← EXS.out]
      exact conv_by h.by_
    rw [ev5]
    clear hmm hm2 hx0
    repeat (go_big_quiet_step (rfl))
    exact wpQuiet_nil rfl
  simp only [Act.put, List.setIfInBounds_toArray, List.set_cons_succ, List.set_cons_zero]
  refine MY.can_class (rest := []) [7, 8, 9, 10, 11, 12, 13] [] 101 (alBn_lasts _ _ _) (MY.any_class _) (by kernel_rfl) rfl (by kernel_rfl) (by kernel_rfl) ?_
  apply Exists.intro
  refine ⟨?r5, ?r6⟩
  case r5 =>
    intro Ty hTT fw hf _
    have hbb : (XS.toList == XS.toList) = true := by simp
    change wpQuiet _ _ _ _ [_, _, _, _, _, _, _] _
    repeat (go_big_quiet_step (rfl))
    exact wpQuiet_nil rfl
  intro w9 hu
  have k9 := hu.1
  have HM9 := hid (HM3.out.then_ (k9.low HM3.out.1.size))
  have HB9 := hid (HB3.out.kept k9)
  have HS9 := hid (HS3.out.kept k9)
  have HT9 := hid (HT3.out.kept k9)
  clear hu k9 mkb HB3 HS3 HT3 HM3
  simp only [List.drop_succ_cons, List.drop_zero]
  go_wp2_with fail
  refine NoPanic.normal ?_
  go_wp2_with fail
  go_loopg [49] N (fun g i wx => ∃ j : Nat, j + g = N ∧ i = .int .i64 (j : Nat) ∧ Hid (w9 = wx))
  case atStart => exact ⟨0, by omega, by first | rfl | trivial, rfl⟩
  case round =>
    obtain ⟨j, hj, rfl, HW⟩ := hrel
    have hW := HW.out
    subst hW
    by_cases hlt : j < N
    · have hjn : j / 8 < M := by have := EN.out; omega
      obtain ⟨b, off, rfl, hc⟩ := HS9.out (by omega)
      obtain ⟨b4, off4, rfl, hc4⟩ := HB9.out (by omega)
      have c0 := hc (j / 8) hjn
      have c4 := hc4 (j / 8) hjn
      obtain ⟨q, eq⟩ : ∃ q, j / 8 = q := ⟨_, rfl⟩
      obtain ⟨t, et⟩ : ∃ t, j % 8 = t := ⟨_, rfl⟩
      have a7 := and7 j
      have d8 : (j : Int) / 8 = (q : Int) := by omega
      have lt8 : t < 8 := by omega
      obtain ⟨x, ex⟩ : ∃ x, S q = x := ⟨_, rfl⟩
      obtain ⟨y, ey⟩ : ∃ x, B q = x := ⟨_, rfl⟩
      have lx : x < 256 := by rw [← ex]; exact HSL.out q
      have ly : y < 256 := by rw [← ey]; exact HBL.out q
      rw [et] at a7
      rw [eq] at c0 c4 hjn
      rw [ex] at c0
      rw [ey] at c4
      have d1 := div_cast x t
      have d4 := div_cast y t
      obtain ⟨x2, ex2⟩ : ∃ z, x / 2 ^ t = z := ⟨_, rfl⟩
      obtain ⟨y2, ey2⟩ : ∃ z, y / 2 ^ t = z := ⟨_, rfl⟩
      have lx2 : x2 < 256 := by rw [← ex2]; exact Nat.lt_of_le_of_lt (Nat.div_le_self _ _) lx
      have ly2 : y2 < 256 := by rw [← ey2]; exact Nat.lt_of_le_of_lt (Nat.div_le_self _ _) ly
      have a1 := and1_8 lx2
      have a4 := and1_8 ly2
      obtain ⟨x3, ex3⟩ : ∃ z, x2 % 2 = z := ⟨_, rfl⟩
      obtain ⟨y3, ey3⟩ : ∃ z, y2 % 2 = z := ⟨_, rfl⟩
      rw [ex3] at a1
      rw [ey3] at a4
      rw [ex2] at d1
      rw [ey2] at d4
      have HX3 : Hid (x3 = (bitOf S j).toNat) := by
        unfold Hid bitOf
        rw [eq, et, ex, ← bit_nat, ex2, ex3]
      have HY3 : Hid (y3 = (bitOf S j ^^ bendE (k : Int) mask 32 j).toNat) := by
        unfold Hid
        rw [← HBB.out j]
        unfold bitOf
        rw [eq, et, ey, ← bit_nat, ey2, ey3]
      have lx3 : x3 ≤ 1 := by omega
      have ly3 : y3 ≤ 1 := by omega
      clear hc hc4 eq et ex ey ex2 ey2 ex3 ey3
      by_cases hkj : k ≤ j
      · obtain ⟨d, ed⟩ : ∃ d, j - k = d := ⟨_, rfl⟩
        have ed2 : (j : Int) - (k : Int) = (d : Int) := by omega
        by_cases hd : d < 32
        · have m1 := div_cast mask d
          obtain ⟨m2, em2⟩ : ∃ z, mask / 2 ^ d = z := ⟨_, rfl⟩
          have lm2 : m2 < 4294967296 := by rw [← em2]; exact Nat.lt_of_le_of_lt (Nat.div_le_self _ _) hm
          have a9 := and1_32 lm2
          obtain ⟨z, ez⟩ : ∃ z, m2 % 2 = z := ⟨_, rfl⟩
          have lz : z ≤ 1 := by omega
          rw [ez] at a9
          rw [em2] at m1
          have wz : (z : Int) % 256 = (z : Int) := by omega
          have x9 := xor8i (show x3 < 256 by omega) (show z < 256 by omega)
          have HE : x3 ^^^ z = y3 := by
            rw [HX3.out, HY3.out, bendE_nat k mask j hm, decide_eq_true hkj, ed, Bool.true_and, ← ez, ← em2, bit_nat, bit_xor_nat]
          rw [HE] at x9
          have hyy : ((y3 : Int) != (y3 : Int)) = false := by simp
          clear em2 ez HE ed
          go_wp2_with fail
          go_roundg (N - j - 1)
          case rel => exact ⟨j + 1, by omega, by go_num, rfl⟩
          case measure => omega
        · have HE : x3 = y3 := by
            rw [HX3.out, HY3.out]
            have : bendE (k : Int) mask 32 j = false := by unfold bendE; rw [decide_eq_false (by omega)]; rfl
            rw [this]; cases bitOf S j <;> rfl
          rw [← HE] at a4
          have hyy : ((x3 : Int) != (x3 : Int)) = false := by simp
          have hd2 : ¬ ((d : Int) < 32) := by omega
          clear HE ed HY3
          go_wp2_with fail
          go_roundg (N - j - 1)
          case rel => exact ⟨j + 1, by omega, by go_num, rfl⟩
          case measure => omega
      · have HE : x3 = y3 := by
          rw [HX3.out, HY3.out]
          have : bendE (k : Int) mask 32 j = false := by unfold bendE; rw [decide_eq_false (by omega)]; rfl
          rw [this]; cases bitOf S j <;> rfl
        rw [← HE] at a4
        have hyy : ((x3 : Int) != (x3 : Int)) = false := by simp
        clear HE HY3
        go_wp2_with fail
        go_roundg (N - j - 1)
        case rel => exact ⟨j + 1, by omega, by go_num, rfl⟩
        case measure => omega
    · have e : j = N := by omega
      subst e
      go_wp2_with fail
      refine (copen_c (c := c3) HBL.out HT9.out HB9.out (by have := EM.out; omega) (by omega) HC3.out).mono ?_
      rintro e w10 ⟨v, q, rfl, hq, _, hM⟩
      have HM10 := hid (HM9.out.then_ (hM.low HM9.out.1.size))
      have e1 := conv_by (c := c3) (HB9.out.kept hM)
      have e2' := conv_by (c := c2) (HS9.out.kept hM)
      rw [EXB.out] at e1
      rw [EXS.out] at e2'
      have HQ : Hid ((q == (XB.toList == XS.toList)) = true) := by
        have h4 : M - 4 = n := by have := EM.out; omega
        rw [h4] at hq
        have h5 : q = true ↔ XB = XS := hq.trans (HG.out.trans (by rw [EM.out]; exact HXX.out.symm))
        unfold Hid
        by_cases h : XB = XS
        · rw [str_yes h, h5.2 h]; rfl
        · rw [str_no h]
          cases q with
          | false => rfl
          | true => exact absurd (h5.1 rfl) h
      clear hq hM
      go_wp2_with fail
      go_ret
      exact ⟨ret_bi HQ.out, HW1.out.trans (HM10.out.1.mono HW1.out.size)⟩
theorem crcbends_i {n c : Nat} {ao : Option Addr} {f : Nat → Nat} {at_ m : Int} {w : World} (hT : Tab w) (hA : ByIn w ao n c f) (h2 : (Lit.int .u32 m).wf = true) :
    Calls Tryd.prog 4 #[.slice ao n c, .int .i64 at_, .int .u32 m] w fun e w' => e = .returned (.bool true) ∧ Below w.heap.size w w' := by
  have b2 := bounds_u32 h2
  have h := crcbends_walk (mask := m.toNat) (at_ := at_) hT hA (by omega)
  rwa [show ((m.toNat : Nat) : Int) = m by omega] at h
end Go.Proofs.YtckhhghbpblpcaaDoor.Fx
