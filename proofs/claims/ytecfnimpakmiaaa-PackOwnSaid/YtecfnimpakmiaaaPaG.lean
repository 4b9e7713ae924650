/- Layer 14: PackOwn. -/
import Derived.Test.YtecfnimpakmiaaaPaD
import Derived.Test.YtecfnimpakmiaaaCrF
import Derived.Test.YtecfnimpakmiaaaMky
namespace Go.Proofs.Ytecfnimpakmiaaa.Fx
open Go.ChangeShapes Go.WideShapes Go.ChangeAt Go.RowKit
set_option linter.unusedVariables false

theorem push_app (a b : ByteArray) (x : UInt8) : a ++ b.push x = (a ++ b).push x := by
  apply ByteArray.ext
  simp
theorem strB_app (f g : Nat → Nat) (n : Nat) : ∀ m, strB f n ++ strB g m = strB (joinB f g n) (n + m)
  | 0 => by
    have h : ∀ k, k ≤ n → strB (joinB f g n) k = strB f k := fun k => by
      induction k with
      | zero => intro _; rfl
      | succ k ih => intro hk; rw [strB_next, strB_next, ih (by omega), show joinB f g n k = f k by unfold joinB; rw [if_pos (by omega)]]
    rw [Nat.add_zero, h n (Nat.le_refl _)]
    show strB f n ++ ByteArray.empty = _
    simp
  | m + 1 => by
    rw [strB_next, push_app, strB_app f g n m, ← Nat.add_assoc, strB_next, show joinB f g n (n + m) = g m by unfold joinB; rw [if_neg (by omega), Nat.add_sub_cancel_left]]
theorem byte_one (x : Nat) (h : x < 256) : byteZ (x : Int) 0 = x := by
  unfold byteZ
  rw [Int.pow_zero, Int.ediv_one]; omega
theorem byte_more (x : Nat) (h : x < 256) : byteZ (256 + (x : Int)) 0 = x := by
  unfold byteZ
  rw [Int.pow_zero, Int.ediv_one]; omega
theorem and12 (x : Int) : bits .and .i64 x 4095 = x % 4096 := and_low x 12 (by omega)
def alOwn (Z N : Nat) (F : Nat → Nat) (i : Nat) (v : World) (g : Nat) (e : MY.Ex) : Prop := OB v Z e.v N F
theorem alOwn_lasts (Z N : Nat) (F : Nat → Nat) : MY.Lasts (alOwn Z N F) := fun i u v g e h hh k => OB.kept h k
def valOwn (i g : Nat) (e : MY.Ex) : Value := e.v
set_option maxRecDepth 100000 in
set_option maxHeartbeats 8000000 in
theorem pown_walk {na ca nb cb : Nat} {oa ob : Option Addr} {f g : Nat → Nat} {at_ : Int} {w : World} (hA : ByIn w oa na ca f) (hB : ByIn w ob nb cb g) :
    Calls Try.prog 5 #[.slice oa na ca, .slice ob nb cb, .int .i64 at_] w fun e w' => e = .returned (.bool true) ∧ Made w.heap.size w w' := by
  obtain ⟨hA, hf, hnc, hn⟩ := hA
  obtain ⟨hB, hg, hnc2, hn2⟩ := hB
  have HA := hid hA; have HF := hid hf
  have HB := hid hB; have HG := hid hg
  clear hA hf hnc hB hg hnc2
  go_enter Try.func5, Try.ntmps5
  go_wp2_with fail
  refine pfit_c.mono ?_
  rintro e w1 ⟨rfl, hM⟩
  have HM := hid hM
  have HA1 := hid (HA.out.kept hM)
  have HB1 := hid (HB.out.kept hM)
  clear hM HA HB
  by_cases hlen : na + nb > 300
  · go_wp2_with fail
    go_ret
    exact ⟨rfl, HM.out⟩
  obtain ⟨PG, ePG⟩ : ∃ PG, w1.heap.size = PG := ⟨_, rfl⟩
  have HPG := hid ePG
  have M2 : Hid (Made PG w1 (w1.alloc (.cells #[Value.slice none 0 0] 37))) := by rw [← ePG]; exact (Made.rfl_ _ _).cells (Nat.le_refl _) _ _
  have W2 : Hid (Wr (w1.alloc (.cells #[Value.slice none 0 0] 37)) PG 0 f) := by rw [← ePG]; exact Wr.new w1 f 37
  have HA2 : Hid (∀ u, Made PG w1 u → By u oa na f) := fun u k => HA1.out.kept (by rw [HPG.out]; exact k)
  have HB2 : Hid (∀ u, Made PG w1 u → By u ob nb g) := fun u k => HB1.out.kept (by rw [HPG.out]; exact k)
  clear HA1 HB1
  go_wp2_with fail
  go_loopg [23] na (fun g i wr => ∃ k : Nat, k + g = na ∧ i = .int .i64 (k : Nat) ∧ Hid (Wr wr PG k f) ∧ Hid (Made PG w1 wr))
  case atStart => exact ⟨0, by omega, by first | rfl | trivial, W2.out, M2.out⟩
  case round =>
    obtain ⟨k, hk, rfl, HW, HM2⟩ := hrel
    by_cases hlt : k < na
    · obtain ⟨b, off, rfl, hc⟩ := (HA2.out wr HM2.out) (by omega)
      have c0 := hc k hlt
      obtain ⟨x, ex⟩ : ∃ x, f k = x := ⟨_, rfl⟩
      have lx : x < 256 := by rw [← ex]; exact HF.out k
      rw [ex] at c0
      have EX := hid ex
      clear hc ex
      go_wp2_with fail
      refine (pnum_c (m := 1) (X := (x : Int)) HW.out (by omega) (by omega) (by omega) (by omega)).mono ?_
      rintro e w3 ⟨rfl, hW, hM⟩
      have HW3 := hid (hW.congr (g := f) fun i hi => by
        unfold joinB
        by_cases h : i < k
        · rw [if_pos h]
        · rw [if_neg h, show i - k = 0 by omega, show i = k by omega, byte_one x lx, EX.out])
      have HM3 := hid (HM2.out.then_ hM)
      clear hW hM
      go_wp2_with fail
      go_roundg (na - k - 1)
      case rel => exact ⟨k + 1, by omega, by go_num, HW3.out, HM3.out⟩
      case measure => omega
    · have e : k = na := by omega
      subst e
      go_wp2_with fail
      refine (pbytes_c HW.out (by omega)).mono ?_
      rintro e w3 ⟨os, cs, rfl, hcs, hO, hM⟩
      have hPr : PG ≤ wr.heap.size := Nat.le_of_lt HW.out.here
      have HM3 := hid (HM2.out.then_ (hM.low hPr))
      have q1 := conv_by (c := cs) hO.by_
      have q2 := conv_by (c := ca) (HA2.out w3 HM3.out)
      obtain ⟨X, eX⟩ : ∃ X, strB f k = X := ⟨_, rfl⟩
      rw [eX] at q1 q2
      have hXX : (X.toList != X.toList) = false := by simp
      have HO := hid hO
      have HMM := hid hM
      clear hO hM eX
      by_cases hk0 : k = 0
      · subst hk0
        have HW4 := hid (HW.out.kept HMM.out)
        have HM4 := hid HM3.out
        clear HM3 HO HMM
        go_wp2_with fail
        go_loopg [52] nb (fun g' i wx => ∃ m : Nat, m + g' = nb ∧ i = .int .i64 (m : Nat) ∧ Hid (Wr wx PG (0 + m) (joinB f g 0)) ∧ Hid (Made PG w1 wx))
        case atStart => exact ⟨0, by omega, by first | rfl | trivial, HW4.out.congr (g := joinB f g 0) (fun i hi => by unfold joinB; rw [if_pos (by omega)]), HM4.out⟩
        case round =>
          obtain ⟨m, hm, rfl, HW5, HM5⟩ := hrel
          by_cases hlt2 : m < nb
          · obtain ⟨b, off, rfl, hc⟩ := (HB2.out wr HM5.out) (by omega)
            have c5 := hc m hlt2
            obtain ⟨x5, ex⟩ : ∃ x, g m = x := ⟨_, rfl⟩
            have lx5 : x5 < 256 := by rw [← ex]; exact HG.out m
            rw [ex] at c5
            have EX := hid ex
            clear hc ex
            go_wp2_with fail
            refine (pnum_c (m := 1) (X := 256 + (x5 : Int)) HW5.out (by omega) (by omega) (by omega) (by omega)).mono ?_
            rintro e w6 ⟨rfl, hW, hM⟩
            have HW6 := hid (hW.congr (g := joinB f g 0) fun i hi => by
              unfold joinB
              by_cases h : i < 0 + m
              · rw [if_pos h]
              · rw [if_neg h, if_neg (by omega), show i - (0 + m) = 0 by omega, show i - 0 = m by omega, byte_more x5 lx5, EX.out])
            have HM6 := hid (HM5.out.then_ hM)
            clear hW hM
            go_wp2_with fail
            go_roundg (nb - m - 1)
            case rel => exact ⟨m + 1, by omega, by go_num, HW6.out, HM6.out⟩
            case measure => omega
          · have e : m = nb := by omega
            subst e
            have HA6 := hid (HA2.out wr HM5.out)
            have HB6 := hid (HB2.out wr HM5.out)
            obtain ⟨XA, eXA⟩ : ∃ X, strB f 0 = X := ⟨_, rfl⟩
            obtain ⟨XB, eXB⟩ : ∃ X, strB g m = X := ⟨_, rfl⟩
            obtain ⟨XJ, eXJ⟩ : ∃ X, strB (joinB f g 0) (0 + m) = X := ⟨_, rfl⟩
            have hadd : XA ++ XB = XJ := by rw [← eXA, ← eXB, ← eXJ]; exact strB_app f g 0 m
            have EXA := hid eXA; have EXB := hid eXB; have EXJ := hid eXJ
            obtain ⟨NN, eNN⟩ : ∃ N, 0 + m = N := ⟨_, rfl⟩
            have eNN2 : ((0 : Nat) : Int) + (m : Int) = (NN : Int) := by omega
            rw [eNN] at HW5 EXJ
            have lNN : NN ≤ 300 := by omega
            have hPr2 : PG ≤ wr.heap.size := Nat.le_of_lt HW5.out.here
            clear eXA eXB eXJ HA2 HB2 HW4 HM4 HW eNN
            go_upto_region 21 with fail
            have mkb : Hid (∀ (G' : Nat → Option (Nat × MY.Ex)) (u : World), MY.Cm wr (alOwn wr.heap.size NN (joinB f g 0)) G' u → Calls Try.prog 16 #[.pointer (some ⟨PG, 0, none⟩)] u fun e v => ∃ x, e = .returned x ∧ OB v wr.heap.size x NN (joinB f g 0) ∧ Made u.heap.size u v) := fun G' u hu => by
              refine (pbytes_c (HW5.out.kept hu.1) (by omega)).mono ?_
              rintro e v ⟨ao, c, rfl, _, h1, h2⟩
              exact ⟨_, rfl, h1.low hu.1.1.size, h2⟩
            refine MY.reg_mk (alOwn wr.heap.size NN (joinB f g 0)) 20 [2, 3, 4, 5, 6, 0, 1, 7, 8, 9, 10, 13, 14, 15, 16, 17, 11, 12, 18, 19] [1, 2, 3, 4, 5, 6, 7, 8, 9, 10, 12, 13, 14, 15, 16, 17, 18, 19] [0, 11] [] (fun i => if i = 1 then [0] else if i = 12 then [11] else []) (val := valOwn) (by kernel_rfl) (by kernel_rfl) (fun p hp => absurd hp (by simp)) ?_
            refine MY.can_class (rest := [0, 1, 7, 8, 9, 10, 13, 14, 15, 16, 17, 11, 12, 18, 19]) [2, 3, 4, 5, 6] [] 81 (alOwn_lasts _ _ _) (MY.any_class _) (by kernel_rfl) rfl (by kernel_rfl) (by kernel_rfl) ?_
            apply Exists.intro
            refine ⟨?r1z, ?r2z⟩
            case r1z =>
              intro Ty hTT fw hf _
              have hq3 : ∀ x, (convert 22 9 (.slice oa 0 ca)).run Try.prog (fw x) = .ok (.string XA) (fw x) := fun x => by
                rw [← EXA.out]
                exact conv_by (HA6.out.kept (hf.1 x))
              have hq5 : ∀ x, (convert 22 9 (.slice ob m cb)).run Try.prog (fw x) = .ok (.string XB) (fw x) := fun x => by
                rw [← EXB.out]
                exact conv_by (HB6.out.kept (hf.1 x))
              have hq6 : ¬ (9223372036854775807 < XA.size + XB.size) := by rw [← EXA.out, ← EXB.out, strB_size, strB_size]; omega
              change wpQuiet _ _ _ _ [_, _, _, _, _] _
              repeat (go_big_quiet_step (fail))
              exact wpQuiet_nil rfl
            refine MY.can_mk 0 61 _ rfl rfl rfl (by rfl) ?m2z fun q2 e2 => ?n2z
            case m2z =>
              intro G' u _ hu
              rw [show (execOp _ _).run Try.prog u = .ok (.enter 16 #[.pointer (some ⟨PG, 0, none⟩)]) u by kernel_rfl]
              show Calls _ _ _ _ _
              refine (mkb.out G' u hu).mono ?_
              rintro e v ⟨x, rfl, h1, h2⟩
              exact ⟨u.heap.size, ⟨v.heap.size, x⟩, rfl, hu.next (alOwn_lasts _ _ _) h2 (Nat.le_refl _) h2.1.size (Nat.le_refl _) h1⟩
            rw [show valOwn 0 q2 e2 = e2.v from rfl]
            simp only [Act.put, List.setIfInBounds_toArray, List.set_cons_succ, List.set_cons_zero]
            refine MY.can_one 1 62 _ (.string XJ) [0] (alOwn_lasts _ _ _) (by kernel_rfl) rfl rfl (of_decide_eq_true rfl) (by kernel_rfl) ?r3z ?r4z
            case r3z =>
              intro Ty hTT fw hf hmm
              try simp only [List.getElem_toArray, List.getElem_cons_succ, List.getElem_cons_zero]
              have hm2 := fun x => (hmm 0 (by simp) (q2, e2) (by unfold MY.upd; simp) x).2.2.2
              obtain ⟨x0⟩ := hTT
              have hx0 : OB (fw x0) wr.heap.size e2.v NN (joinB f g 0) := hm2 x0
              obtain ⟨ao5, c5, ev5, _⟩ := hx0.shape
              have hq5 : ∀ x, (convert 22 9 (.slice ao5 NN c5)).run Try.prog (fw x) = .ok (.string XJ) (fw x) := fun x => by
                have h : OB (fw x) wr.heap.size e2.v NN (joinB f g 0) := hm2 x
                rw [ev5] at h
                rw [← EXJ.out]
                exact conv_by h.by_
              rw [ev5]
              clear hmm hm2 hx0
              repeat (go_big_quiet_step (rfl))
              exact wpQuiet_nil rfl
            simp only [Act.put, List.setIfInBounds_toArray, List.set_cons_succ, List.set_cons_zero]
            refine MY.can_class (rest := [11, 12, 18, 19]) [7, 8, 9, 10, 13, 14, 15, 16, 17] [] 81 (alOwn_lasts _ _ _) (MY.any_class _) (by kernel_rfl) rfl (by kernel_rfl) (by kernel_rfl) ?_
            apply Exists.intro
            refine ⟨?r5z, ?r6z⟩
            case r5z =>
              intro Ty hTT fw hf _
              have hjj : (XJ.toList == XJ.toList) = true := by simp
              have H1 := hid (fun t => hf.same (x := t) (pvnone_c (pb := PG)))
              have H2 := hid (fun t => hf.same (x := t) (pfnone_c (pb := PG)))
              change wpQuiet _ _ _ _ [_, _, _, _, _, _, _, _, _] _
              repeat (go_big_quiet_step ((first
                | (go_at_call 17; with_reducible exact H1.out _)
                | (go_at_call 18; with_reducible exact H2.out _)
                | rfl)))
              exact wpQuiet_nil rfl
            refine MY.can_mk 11 72 _ rfl rfl rfl (by rfl) ?m7z fun q7 e7 => ?n7z
            case m7z =>
              intro G' u _ hu
              rw [show (execOp _ _).run Try.prog u = .ok (.enter 16 #[.pointer (some ⟨PG, 0, none⟩)]) u by kernel_rfl]
              show Calls _ _ _ _ _
              refine (mkb.out G' u hu).mono ?_
              rintro e v ⟨x, rfl, h1, h2⟩
              exact ⟨u.heap.size, ⟨v.heap.size, x⟩, rfl, hu.next (alOwn_lasts _ _ _) h2 (Nat.le_refl _) h2.1.size (Nat.le_refl _) h1⟩
            rw [show valOwn 11 q7 e7 = e7.v from rfl]
            simp only [Act.put, List.setIfInBounds_toArray, List.set_cons_succ, List.set_cons_zero]
            refine MY.can_one 12 73 _ (.int .i64 (NN : Nat)) [11] (alOwn_lasts _ _ _) (by kernel_rfl) rfl rfl (of_decide_eq_true rfl) (by kernel_rfl) ?r8z ?r9z
            case r8z =>
              intro Ty hTT fw hf hmm
              try simp only [List.getElem_toArray, List.getElem_cons_succ, List.getElem_cons_zero]
              have hm2 := fun x => (hmm 11 (by simp) (q7, e7) (by unfold MY.upd; simp) x).2.2.2
              obtain ⟨x0⟩ := hTT
              have hx0 : OB (fw x0) wr.heap.size e7.v NN (joinB f g 0) := hm2 x0
              obtain ⟨ao5, c5, ev5, _⟩ := hx0.shape
              rw [ev5]
              clear hmm hm2 hx0
              repeat (go_big_quiet_step (rfl))
              exact wpQuiet_nil rfl
            simp only [Act.put, List.setIfInBounds_toArray, List.set_cons_succ, List.set_cons_zero]
            refine MY.can_class (rest := []) [18, 19] [] 81 (alOwn_lasts _ _ _) (MY.any_class _) (by kernel_rfl) rfl (by kernel_rfl) (by kernel_rfl) ?_
            apply Exists.intro
            refine ⟨?r10z, ?r11z⟩
            case r10z =>
              intro Ty hTT fw hf _
              have hee : ((NN : Int) == (NN : Int)) = true := by simp
              have hz2 : ((NN : Int) == (m : Int)) = true := by rw [beq_iff_eq]; omega
              change wpQuiet _ _ _ _ [_, _] _
              repeat (go_big_quiet_step (rfl))
              exact wpQuiet_nil rfl
            intro w9 hu
            have HM9 := hid (HM5.out.then_ (hu.1.low hPr2))
            clear hu mkb
            simp only [List.drop_succ_cons, List.drop_zero]
            go_wp2_with fail
            refine NoPanic.normal ?_
            go_wp2_with fail
            go_ret
            exact ⟨rfl, HM.out.then_ (HM9.out.low (by have := HM.out.1.size; omega))⟩
      · have eA := and12 at_
        obtain ⟨A, eA2⟩ : ∃ A : Nat, at_ % 4096 = (A : Int) := ⟨(at_ % 4096).toNat, by omega⟩
        rw [eA2] at eA
        obtain ⟨j, ej⟩ : ∃ j, A % k = j := ⟨_, rfl⟩
        have lj : j < k := by rw [← ej]; exact Nat.mod_lt _ (by omega)
        have ej2 : (A : Int) % (k : Int) = (j : Int) := by rw [← ej]; omega
        have ej3 : (A : Int).tmod (k : Int) = (j : Int) := by rw [Int.tmod_eq_emod_of_nonneg (by omega)]; exact ej2
        have hkn : (k : Int) ≠ 0 := by omega
        have hk1 : decide (0 < k) = true := decide_eq_true (by omega)
        obtain ⟨gs, off, rfl, hc⟩ := HO.out.by_ (by omega)
        obtain ⟨_, _, e0, _, _, h3⟩ := HO.out.shape
        cases e0
        obtain ⟨_, e1, hgs, hgs2, hfz⟩ := h3 (by omega)
        cases e1
        have c0 := hc j lj
        rw [Nat.zero_add] at c0
        obtain ⟨x, ex⟩ : ∃ x, f j = x := ⟨_, rfl⟩
        have lx : x < 256 := by rw [← ex]; exact HF.out j
        rw [ex] at c0
        have z0 := hfz j
        obtain ⟨y, ey⟩ : ∃ y, (x + 1) % 256 = y := ⟨_, rfl⟩
        have ey2 : ((x : Int) + 1) % 256 = (y : Int) := by omega
        have hMp : Made wr.heap.size wr (w3.setCell ⟨gs, j, none⟩ (.int .u8 (y : Nat))) := HMM.out.put (p := ⟨gs, j, none⟩) hgs _
        have HW4 := hid (HW.out.kept hMp)
        have HM4 := hid (HM2.out.then_ (hMp.low hPr))
        clear hc hfz ex ey eA2 ej HM3 HO HMM hMp h3 hgs hgs2
        go_wp2_with fail
        try simp only [ey2]
        go_loopg [52] nb (fun g' i wx => ∃ m : Nat, m + g' = nb ∧ i = .int .i64 (m : Nat) ∧ Hid (Wr wx PG (k + m) (joinB f g k)) ∧ Hid (Made PG w1 wx))
        case atStart => exact ⟨0, by omega, by first | rfl | trivial, HW4.out.congr (g := joinB f g k) (fun i hi => by unfold joinB; rw [if_pos (by omega)]), HM4.out⟩
        case round =>
          obtain ⟨m, hm, rfl, HW5, HM5⟩ := hrel
          by_cases hlt2 : m < nb
          · obtain ⟨b, off, rfl, hc⟩ := (HB2.out wr HM5.out) (by omega)
            have c5 := hc m hlt2
            obtain ⟨x5, ex⟩ : ∃ x, g m = x := ⟨_, rfl⟩
            have lx5 : x5 < 256 := by rw [← ex]; exact HG.out m
            rw [ex] at c5
            have EX := hid ex
            clear hc ex
            go_wp2_with fail
            refine (pnum_c (m := 1) (X := 256 + (x5 : Int)) HW5.out (by omega) (by omega) (by omega) (by omega)).mono ?_
            rintro e w6 ⟨rfl, hW, hM⟩
            have HW6 := hid (hW.congr (g := joinB f g k) fun i hi => by
              unfold joinB
              by_cases h : i < k + m
              · rw [if_pos h]
              · rw [if_neg h, if_neg (by omega), show i - (k + m) = 0 by omega, show i - k = m by omega, byte_more x5 lx5, EX.out])
            have HM6 := hid (HM5.out.then_ hM)
            clear hW hM
            go_wp2_with fail
            go_roundg (nb - m - 1)
            case rel => exact ⟨m + 1, by omega, by go_num, HW6.out, HM6.out⟩
            case measure => omega
          · have e : m = nb := by omega
            subst e
            have HA6 := hid (HA2.out wr HM5.out)
            have HB6 := hid (HB2.out wr HM5.out)
            obtain ⟨XA, eXA⟩ : ∃ X, strB f k = X := ⟨_, rfl⟩
            obtain ⟨XB, eXB⟩ : ∃ X, strB g m = X := ⟨_, rfl⟩
            obtain ⟨XJ, eXJ⟩ : ∃ X, strB (joinB f g k) (k + m) = X := ⟨_, rfl⟩
            have hadd : XA ++ XB = XJ := by rw [← eXA, ← eXB, ← eXJ]; exact strB_app f g k m
            have EXA := hid eXA; have EXB := hid eXB; have EXJ := hid eXJ
            obtain ⟨NN, eNN⟩ : ∃ N, k + m = N := ⟨_, rfl⟩
            have eNN2 : ((k : Nat) : Int) + (m : Int) = (NN : Int) := by omega
            rw [eNN] at HW5 EXJ
            have lNN : NN ≤ 300 := by omega
            have hPr2 : PG ≤ wr.heap.size := Nat.le_of_lt HW5.out.here
            clear eXA eXB eXJ HA2 HB2 HW4 HM4 HW eNN
            go_upto_region 21 with fail
            have mkb : Hid (∀ (G' : Nat → Option (Nat × MY.Ex)) (u : World), MY.Cm wr (alOwn wr.heap.size NN (joinB f g k)) G' u → Calls Try.prog 16 #[.pointer (some ⟨PG, 0, none⟩)] u fun e v => ∃ x, e = .returned x ∧ OB v wr.heap.size x NN (joinB f g k) ∧ Made u.heap.size u v) := fun G' u hu => by
              refine (pbytes_c (HW5.out.kept hu.1) (by omega)).mono ?_
              rintro e v ⟨ao, c, rfl, _, h1, h2⟩
              exact ⟨_, rfl, h1.low hu.1.1.size, h2⟩
            refine MY.reg_mk (alOwn wr.heap.size NN (joinB f g k)) 20 [2, 3, 4, 5, 6, 0, 1, 7, 8, 9, 10, 13, 14, 15, 16, 17, 11, 12, 18, 19] [1, 2, 3, 4, 5, 6, 7, 8, 9, 10, 12, 13, 14, 15, 16, 17, 18, 19] [0, 11] [] (fun i => if i = 1 then [0] else if i = 12 then [11] else []) (val := valOwn) (by kernel_rfl) (by kernel_rfl) (fun p hp => absurd hp (by simp)) ?_
            refine MY.can_class (rest := [0, 1, 7, 8, 9, 10, 13, 14, 15, 16, 17, 11, 12, 18, 19]) [2, 3, 4, 5, 6] [] 81 (alOwn_lasts _ _ _) (MY.any_class _) (by kernel_rfl) rfl (by kernel_rfl) (by kernel_rfl) ?_
            apply Exists.intro
            refine ⟨?r1n, ?r2n⟩
            case r1n =>
              intro Ty hTT fw hf _
              have hq3 : ∀ x, (convert 22 9 (.slice oa k ca)).run Try.prog (fw x) = .ok (.string XA) (fw x) := fun x => by
                rw [← EXA.out]
                exact conv_by (HA6.out.kept (hf.1 x))
              have hq5 : ∀ x, (convert 22 9 (.slice ob m cb)).run Try.prog (fw x) = .ok (.string XB) (fw x) := fun x => by
                rw [← EXB.out]
                exact conv_by (HB6.out.kept (hf.1 x))
              have hq6 : ¬ (9223372036854775807 < XA.size + XB.size) := by rw [← EXA.out, ← EXB.out, strB_size, strB_size]; omega
              change wpQuiet _ _ _ _ [_, _, _, _, _] _
              repeat (go_big_quiet_step (fail))
              exact wpQuiet_nil rfl
            refine MY.can_mk 0 61 _ rfl rfl rfl (by rfl) ?m2n fun q2 e2 => ?n2n
            case m2n =>
              intro G' u _ hu
              rw [show (execOp _ _).run Try.prog u = .ok (.enter 16 #[.pointer (some ⟨PG, 0, none⟩)]) u by kernel_rfl]
              show Calls _ _ _ _ _
              refine (mkb.out G' u hu).mono ?_
              rintro e v ⟨x, rfl, h1, h2⟩
              exact ⟨u.heap.size, ⟨v.heap.size, x⟩, rfl, hu.next (alOwn_lasts _ _ _) h2 (Nat.le_refl _) h2.1.size (Nat.le_refl _) h1⟩
            rw [show valOwn 0 q2 e2 = e2.v from rfl]
            simp only [Act.put, List.setIfInBounds_toArray, List.set_cons_succ, List.set_cons_zero]
            refine MY.can_one 1 62 _ (.string XJ) [0] (alOwn_lasts _ _ _) (by kernel_rfl) rfl rfl (of_decide_eq_true rfl) (by kernel_rfl) ?r3n ?r4n
            case r3n =>
              intro Ty hTT fw hf hmm
              try simp only [List.getElem_toArray, List.getElem_cons_succ, List.getElem_cons_zero]
              have hm2 := fun x => (hmm 0 (by simp) (q2, e2) (by unfold MY.upd; simp) x).2.2.2
              obtain ⟨x0⟩ := hTT
              have hx0 : OB (fw x0) wr.heap.size e2.v NN (joinB f g k) := hm2 x0
              obtain ⟨ao5, c5, ev5, _⟩ := hx0.shape
              have hq5 : ∀ x, (convert 22 9 (.slice ao5 NN c5)).run Try.prog (fw x) = .ok (.string XJ) (fw x) := fun x => by
                have h : OB (fw x) wr.heap.size e2.v NN (joinB f g k) := hm2 x
                rw [ev5] at h
                rw [← EXJ.out]
                exact conv_by h.by_
              rw [ev5]
              clear hmm hm2 hx0
              repeat (go_big_quiet_step (rfl))
              exact wpQuiet_nil rfl
            simp only [Act.put, List.setIfInBounds_toArray, List.set_cons_succ, List.set_cons_zero]
            refine MY.can_class (rest := [11, 12, 18, 19]) [7, 8, 9, 10, 13, 14, 15, 16, 17] [] 81 (alOwn_lasts _ _ _) (MY.any_class _) (by kernel_rfl) rfl (by kernel_rfl) (by kernel_rfl) ?_
            apply Exists.intro
            refine ⟨?r5n, ?r6n⟩
            case r5n =>
              intro Ty hTT fw hf _
              have hjj : (XJ.toList == XJ.toList) = true := by simp
              have H1 := hid (fun t => hf.same (x := t) (pvnone_c (pb := PG)))
              have H2 := hid (fun t => hf.same (x := t) (pfnone_c (pb := PG)))
              change wpQuiet _ _ _ _ [_, _, _, _, _, _, _, _, _] _
              repeat (go_big_quiet_step ((first
                | (go_at_call 17; with_reducible exact H1.out _)
                | (go_at_call 18; with_reducible exact H2.out _)
                | rfl)))
              exact wpQuiet_nil rfl
            refine MY.can_mk 11 72 _ rfl rfl rfl (by rfl) ?m7n fun q7 e7 => ?n7n
            case m7n =>
              intro G' u _ hu
              rw [show (execOp _ _).run Try.prog u = .ok (.enter 16 #[.pointer (some ⟨PG, 0, none⟩)]) u by kernel_rfl]
              show Calls _ _ _ _ _
              refine (mkb.out G' u hu).mono ?_
              rintro e v ⟨x, rfl, h1, h2⟩
              exact ⟨u.heap.size, ⟨v.heap.size, x⟩, rfl, hu.next (alOwn_lasts _ _ _) h2 (Nat.le_refl _) h2.1.size (Nat.le_refl _) h1⟩
            rw [show valOwn 11 q7 e7 = e7.v from rfl]
            simp only [Act.put, List.setIfInBounds_toArray, List.set_cons_succ, List.set_cons_zero]
            refine MY.can_one 12 73 _ (.int .i64 (NN : Nat)) [11] (alOwn_lasts _ _ _) (by kernel_rfl) rfl rfl (of_decide_eq_true rfl) (by kernel_rfl) ?r8n ?r9n
            case r8n =>
              intro Ty hTT fw hf hmm
              try simp only [List.getElem_toArray, List.getElem_cons_succ, List.getElem_cons_zero]
              have hm2 := fun x => (hmm 11 (by simp) (q7, e7) (by unfold MY.upd; simp) x).2.2.2
              obtain ⟨x0⟩ := hTT
              have hx0 : OB (fw x0) wr.heap.size e7.v NN (joinB f g k) := hm2 x0
              obtain ⟨ao5, c5, ev5, _⟩ := hx0.shape
              rw [ev5]
              clear hmm hm2 hx0
              repeat (go_big_quiet_step (rfl))
              exact wpQuiet_nil rfl
            simp only [Act.put, List.setIfInBounds_toArray, List.set_cons_succ, List.set_cons_zero]
            refine MY.can_class (rest := []) [18, 19] [] 81 (alOwn_lasts _ _ _) (MY.any_class _) (by kernel_rfl) rfl (by kernel_rfl) (by kernel_rfl) ?_
            apply Exists.intro
            refine ⟨?r10n, ?r11n⟩
            case r10n =>
              intro Ty hTT fw hf _
              have hee : ((NN : Int) == (NN : Int)) = true := by simp
              change wpQuiet _ _ _ _ [_, _] _
              repeat (go_big_quiet_step (rfl))
              exact wpQuiet_nil rfl
            intro w9 hu
            have HM9 := hid (HM5.out.then_ (hu.1.low hPr2))
            clear hu mkb
            simp only [List.drop_succ_cons, List.drop_zero]
            go_wp2_with fail
            refine NoPanic.normal ?_
            go_wp2_with fail
            go_ret
            exact ⟨rfl, HM.out.then_ (HM9.out.low (by have := HM.out.1.size; omega))⟩
end Go.Proofs.Ytecfnimpakmiaaa.Fx
