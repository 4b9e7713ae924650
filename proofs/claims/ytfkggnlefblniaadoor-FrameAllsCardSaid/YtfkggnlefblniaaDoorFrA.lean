/- Layer 16: slices.Grow and slices.Concat of two rows of bytes; frame.Bytes. -/
import Derived.Test.YtfkggnlefblniaaDoorFrP
namespace Go.Proofs.YtfkggnlefblniaaDoor.Fx
open Go.ChangeShapes Go.WideShapes Go.ChangeAt Go.RowKit
set_option linter.unusedVariables false

theorem made_drew {B : Nat} {a w : World} (h : Made B a w) : Made B a w.drew := h.then_ ⟨⟨rfl, rfl, rfl, Nat.le_refl _, fun _ _ => rfl⟩, fun p => World.frozen?_drew ..⟩
set_option maxRecDepth 100000 in
set_option maxHeartbeats 4000000 in
theorem grow_c {m : Nat} {w : World} (h0 : 0 < m) (hm : m ≤ 549755813888) (f : Nat → Nat) :
    Calls Tryd.prog 28 #[.slice none 0 0, .int .i64 (m : Nat)] w fun e w' => ∃ v, e = .returned v ∧ OB w' w.heap.size v 0 f ∧ Made w.heap.size w w' := by
  obtain ⟨i, hi, hz0, hz1, hz2⟩ := info_parts info8
  have hr := Lib.run_append_nil_zeros (P := Tryd.prog) w 22 3 22 5 i (.int .u8 0) .i64 .i64 Tryd.underlying22 Tryd.underlying3 hi hz0 m h0 (by rw [hz1]; omega) (by omega) (by rw [hz2]; omega)
  obtain ⟨C, eC⟩ : ∃ C, grownCap w m 0 5 = C := ⟨_, rfl⟩
  have hge := grownCap_ge w m 0 5
  have hcm : grownCap w m 0 5 ≤ maxLen := grownCap_le_maxLen w m 0 5 (by unfold maxLen; omega)
  rw [eC] at hr hge hcm
  obtain ⟨W, eW⟩ : ∃ W, w.drew.alloc (.cells (Builtin.zeroCells (Value.int .u8 0).cells m ++ Builtin.zeroCells (Value.int .u8 0).cells (C - m)) 5) = W := ⟨_, rfl⟩
  have hO : OB W w.heap.size (.slice (some ⟨w.heap.size, 0, none⟩) 0 C) 0 f := by
    rw [← eW]
    refine ⟨by rw [bl_len, Nat.mul_one], .inr ⟨w.heap.size, C, _, rfl, Nat.le_refl _, heap_alloc_new w.drew _, by omega, hcm, ?_, by simp [bl]⟩⟩
    simp only [Array.size_append, size_zeroCells]
    show m * 1 + (C - m) * 1 = C * 1
    omega
  have hM : Made w.heap.size w W := by
    rw [← eW]
    exact (made_drew (Made.rfl_ _ _)).cells (Nat.le_refl _) _ _
  rw [eW] at hr
  obtain ⟨g, eg⟩ : ∃ g, w.heap.size = g := ⟨_, rfl⟩
  rw [eg] at hr hO hM
  have HR := hid hr; have HO := hid hO; have HM := hid hM; have HE := hid eg
  clear hr hO hM eC eW eg hi hz0 hz1 hz2
  go_enter Tryd.func28, Tryd.ntmps28
  go_wp2_with (at_builtin; refine Lib.wpList_append_run _ rfl _ _ _ _ rfl _ _ rfl rfl _ _ HR.out ?_)
  go_ret
  rw [HE.out]
  exact ⟨_, rfl, HO.out, HM.out⟩
def sumL (n1 n2 k : Nat) : Nat := if k = 0 then 0 else if k = 1 then n1 else n1 + n2
def catF (f1 f2 : Nat → Nat) (n1 k : Nat) : Nat → Nat := if k = 0 then f1 else if k = 1 then f1 else joinB f1 f2 n1
set_option maxRecDepth 100000 in
set_option maxHeartbeats 4000000 in
theorem concat_c {g n1 n2 c1 c2 : Nat} {o1 o2 : Option Addr} {f1 f2 : Nat → Nat} {w : World} (hG : Has w g 22 #[.slice o1 n1 c1, .slice o2 n2 c2]) (h1 : By w o1 n1 f1) (h2 : By w o2 n2 f2) (h0 : 0 < n1) (hm : n1 + n2 ≤ 549755813888) :
    Calls Tryd.prog 18 #[.slice (some ⟨g, 0, none⟩) 2 2] w fun e w' => ∃ ao' c', e = .returned (.slice ao' (n1 + n2) c') ∧ n1 + n2 ≤ c' ∧ OB w' w.heap.size (.slice ao' (n1 + n2) c') (n1 + n2) (joinB f1 f2 n1) ∧ Made w.heap.size w w' := by
  have HG := hid hG; have H1 := hid h1; have H2 := hid h2
  have z0 := hG.at_ 0
  have z1 := hG.at_ 1
  simp at z0 z1
  clear hG h1 h2
  go_enter Tryd.func18, Tryd.ntmps18
  go_wp2_with fail
  go_loopg [3, 11] 2 (fun gg s i wx => ∃ k : Nat, k + gg = 2 ∧ i = .int .i64 (k : Nat) ∧ s = .int .i64 (sumL n1 n2 k : Nat) ∧ Hid (w = wx))
  case atStart => exact ⟨0, by omega, by first | rfl | trivial, rfl, rfl⟩
  case round =>
    obtain ⟨k, hk, rfl, rfl, HW⟩ := hrel
    have hW := HW.out
    subst hW
    have hk3 : k = 0 ∨ k = 1 ∨ k = 2 := by omega
    rcases hk3 with rfl | rfl | rfl
    · have e0 : sumL n1 n2 0 = 0 := rfl
      rw [e0]
      go_wp2_with fail
      go_roundg 1
      case rel => exact ⟨1, by omega, by go_num, by go_num, rfl⟩
      case measure => omega
    · have e0 : sumL n1 n2 1 = n1 := rfl
      rw [e0]
      go_wp2_with fail
      go_roundg 0
      case rel => exact ⟨2, by omega, by go_num, by go_num, rfl⟩
      case measure => omega
    · have e0 : sumL n1 n2 2 = n1 + n2 := rfl
      rw [e0]
      go_wp2_with fail
      refine (grow_c (m := n1 + n2) (by omega) (by omega) f1).mono ?_
      rintro e w1 ⟨v, rfl, hO, hM⟩
      have HO := hid hO; have HM := hid hM
      have z0 := hM.reads z0
      have z1 := hM.reads z1
      clear hO hM
      go_wp2_with fail
      go_loopg [6, 27] 2 (fun gg v i wx => ∃ k : Nat, k + gg = 2 ∧ i = .int .i64 (k : Nat) ∧ Hid (OB wx w.heap.size v (sumL n1 n2 k) (catF f1 f2 n1 k)) ∧ Hid (Made w.heap.size w wx))
      case atStart => exact ⟨0, by omega, by first | rfl | trivial, HO.out, HM.out⟩
      case round =>
        obtain ⟨k, hk, rfl, HO, HM⟩ := hrel
        have hk3 : k = 0 ∨ k = 1 ∨ k = 2 := by omega
        have z0 := HM.out.at_ HG.out.here (HG.out.at_ 0)
        have z1 := HM.out.at_ HG.out.here (HG.out.at_ 1)
        simp at z0 z1
        rcases hk3 with rfl | rfl | rfl
        · obtain ⟨v', w', hr, hO, hg, hz⟩ := append_by (c := c1) 22 HO.out (H1.out.kept HM.out) (by show 0 + n1 ≤ _; omega) HM.out.1.size
          have HR := hid hr
          have HN : Hid (OB w' w.heap.size v' (sumL n1 n2 1) (catF f1 f2 n1 1)) := by
            have h : OB w' w.heap.size v' (0 + n1) _ := hO
            rw [Nat.zero_add] at h
            exact h.congr fun i hi => by show joinB (catF f1 f2 n1 0) f1 0 i = f1 i; unfold joinB; rw [if_neg (by omega), Nat.sub_zero]
          have HM2 := hid (HM.out.app hg hz HM.out.1.size (fun b hb => (HO.out.lt b hb).1))
          clear hr hO hg hz HO HM
          go_wp2_with (at_builtin; refine Lib.wpList_append_run _ rfl _ _ _ _ rfl _ _ rfl rfl _ _ HR.out ?_)
          go_roundg 1
          case rel => exact ⟨1, by omega, by go_num, HN.out, HM2.out⟩
          case measure => omega
        · obtain ⟨v', w', hr, hO, hg, hz⟩ := append_by (c := c2) 22 HO.out (H2.out.kept HM.out) (by show n1 + n2 ≤ _; omega) HM.out.1.size
          have HR := hid hr
          have HN : Hid (OB w' w.heap.size v' (sumL n1 n2 2) (catF f1 f2 n1 2)) := hO
          have HM2 := hid (HM.out.app hg hz HM.out.1.size (fun b hb => (HO.out.lt b hb).1))
          clear hr hO hg hz HO HM
          go_wp2_with (at_builtin; refine Lib.wpList_append_run _ rfl _ _ _ _ rfl _ _ rfl rfl _ _ HR.out ?_)
          go_roundg 0
          case rel => exact ⟨2, by omega, by go_num, HN.out, HM2.out⟩
          case measure => omega
        · obtain ⟨ao, c, rfl, hc, _, _⟩ := HO.out.shape
          have hc : n1 + n2 ≤ c := hc
          have HC := hid hc
          clear hc
          go_wp2_with fail
          go_ret
          exact ⟨_, _, rfl, HC.out, HO.out, HM.out⟩
set_option maxRecDepth 100000 in
set_option maxHeartbeats 4000000 in
theorem fbytes_c {m c : Nat} {ao : Option Addr} {p : Nat → Nat} {n : Int} {w : World} (hp : ∀ i, p i < 256) (hT : Tab w) (hB : By w ao m p) (hm : m ≤ 4294967295) (hn1 : -9223372036854775808 ≤ n) (hn2 : n ≤ 9223372036854775807) :
    Calls Tryd.prog 10 #[.int .i64 n, .slice ao m c] w fun e w' => ∃ ao' c', e = .returned (.slice ao' (m + 20) c') ∧ m + 20 ≤ c' ∧ OB w' w.heap.size (.slice ao' (m + 20) c') (m + 20) (recF p m n) ∧ Made w.heap.size w w' := by
  have HP := hid hp; have HT := hid hT; have HB := hid hB
  have M1 : Hid (Made w.heap.size w (w.alloc (.cells #[Value.slice none 0 0] 48))) := (Made.rfl_ _ _).cells (Nat.le_refl _) _ _
  have W1 := hid (Wr.new w (fun _ => 0) 48)
  clear hp hT hB
  go_enter Tryd.func10, Tryd.ntmps10
  go_wp2_with fail
  refine (pnum_c (m := 4) (X := (m : Nat)) W1.out (by omega) (by omega) (by omega) (by omega)).mono ?_
  rintro e w1 ⟨rfl, hW, hM⟩
  have HW := hid hW
  have HM := hid (M1.out.then_ hM)
  clear hW hM W1 M1
  go_wp2_with fail
  refine (pnum_c (m := 8) (X := n) HW.out (by omega) (by omega) hn1 hn2).mono ?_
  rintro e w2 ⟨rfl, hW, hM⟩
  have HW2 : Hid (Wr w2 w.heap.size 12 (headF (m : Nat) n)) := hW
  have HM2 := hid (HM.out.then_ hM)
  clear hW hM HW HM
  go_wp2_with fail
  refine (pbytes_c HW2.out (by omega)).mono ?_
  rintro e w3 ⟨ao3, c3, rfl, hc, hO, hM⟩
  have B3 := hid hO.by_
  have M3 := hid (HM2.out.then_ (hM.low HM2.out.1.size))
  have T3 := hid (HT.out.kept M3.out)
  clear hO hM hc HM2 HW2
  go_wp2_with fail
  refine (cseal_c (f := headF (m : Nat) n) (headF_lt _ _) T3.out B3.out (by omega)).mono ?_
  rintro e w4 ⟨v4, rfl, hO, hM⟩
  obtain ⟨ao4, c4, rfl, hc, _, _⟩ := hO.shape
  have O4 := hid hO
  have M4 := hid (M3.out.then_ (hM.low M3.out.1.size))
  have T4 := hid (HT.out.kept M4.out)
  have B4 := hid (HB.out.kept M4.out)
  clear hO hM hc M3 T3 B3
  go_wp2_with fail
  refine (cseal_c (c := c) HP.out T4.out B4.out (by omega)).mono ?_
  rintro e w5 ⟨v5, rfl, hO, hM⟩
  obtain ⟨ao5, c5, rfl, hc, _, _⟩ := hO.shape
  obtain ⟨W, eW⟩ : ∃ W, W = w5.alloc (.cells #[Value.slice ao4 (12 + 4) c4, Value.slice ao5 (m + 4) c5] 22) := ⟨_, rfl⟩
  have KW : Made w5.heap.size w5 W := by rw [eW]; exact (Made.rfl_ _ _).cells (Nat.le_refl _) _ _
  have HG : Hid (Has W w5.heap.size 22 #[.slice ao4 16 c4, .slice ao5 (m + 4) c5]) := by unfold Hid; rw [eW]; exact has_new _ _ _
  have O5 := hid ((O4.out.by_.kept hM).kept KW)
  have O6 := hid (hO.by_.kept KW)
  have M5 := hid ((M4.out.then_ (hM.low M4.out.1.size)))
  have M6 := hid (M5.out.then_ (KW.low M5.out.1.size))
  have HC := hid (concat_c HG.out O5.out O6.out (by omega) (by omega))
  rw [eW] at HC
  have EW := hid eW
  clear hO hM hc M4 T4 B4 O4 KW eW
  go_wp2_with fail
  refine HC.out.mono ?_
  rintro e w6 ⟨ao6, c6, rfl, hc, hO, hM⟩
  rw [← EW.out] at hM hO
  have HO : Hid (OB w6 w.heap.size (.slice ao6 (m + 20) c6) (m + 20) (recF p m n)) := by
    have h := hO.low M6.out.1.size
    rw [show 16 + (m + 4) = m + 20 by omega] at h
    exact h
  have HM6 := hid (M6.out.then_ (hM.low M6.out.1.size))
  have e6 : 16 + (m + 4) = m + 20 := by omega
  have e7 : 12 + 4 + (m + 4) = m + 20 := by omega
  have hc6 : Hid (m + 20 ≤ c6) := by unfold Hid; omega
  try rw [e6]
  try rw [e7]
  clear hO hM hc e6 e7
  go_wp2_with fail
  go_ret
  exact ⟨_, _, rfl, hc6.out, HO.out, HM6.out⟩
end Go.Proofs.YtfkggnlefblniaaDoor.Fx
