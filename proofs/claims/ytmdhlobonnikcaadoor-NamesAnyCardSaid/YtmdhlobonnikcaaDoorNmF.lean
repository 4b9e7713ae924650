/- The walk of NamesAny. -/
import Derived.Test.YtmdhlobonnikcaaDoorNmE
import Derived.Laws.Cover1
namespace Go.Proofs.YtmdhlobonnikcaaDoor.Fx
open Go.ChangeShapes Go.WideShapes Go.ChangeAt Go.RowKit
set_option linter.unusedVariables false

/-- the first k signs are as a name's -/
def RgN (f : Nat → Nat) (k : Nat) : Prop := (f 0 = 99 ∨ f 0 = 106) ∧ ∀ j, 1 ≤ j → j < k → hexv (f j) < 16
/-- .. or not -/
def RgQ (q : Bool) (f : Nat → Nat) (k : Nat) : Prop := q = true ↔ RgN f k
theorem hexv_iff (c : Nat) : hexv c < 16 ↔ (48 ≤ c ∧ c ≤ 57) ∨ (97 ≤ c ∧ c ≤ 102) := by
  unfold hexv
  by_cases h1 : 48 ≤ c ∧ c ≤ 57
  · rw [if_pos h1]; omega
  · rw [if_neg h1]
    by_cases h2 : 97 ≤ c ∧ c ≤ 102
    · rw [if_pos h2]; omega
    · rw [if_neg h2]; omega
def topS : ByteArray := ⟨#[52, 48, 48, 48, 48, 48, 48, 48, 48, 48, 48, 48, 48, 48, 48, 48]⟩
theorem topS_is : topS = strB (dg 16 4611686018427387904) 16 := by decide +kernel
/-- a text of 17 signs, of which all are as a name's, but which is none, lies behind the last one -/
theorem rg_more {s : ByteArray} (hs : s.size = 17) (h : RgN (byT s) 17) (hn : ∀ d m, NmOk d m → s ≠ nmB d m) : Op.bytesLess (s.extract 1 17).toList topS.toList = false ∧ ((s.extract 1 17).toList == topS.toList) = false := by
  have hx : ∀ i, i < 16 → hexv (byT s (1 + i)) < 16 := fun i hi => h.2 (1 + i) (by omega) (by omega)
  have e := nm_is hs hx
  obtain ⟨N, eN⟩ : ∃ N, numF (fun i => byT s (1 + i)) 16 = N := ⟨_, rfl⟩
  rw [eN] at e
  have lN : N < 16 ^ 16 := by rw [← eN]; exact numF_lt 16 hx
  have hm : ¬ N ≤ 4611686018427387904 := fun h2 => hn _ _ ⟨h.1, h2⟩ e
  have eT : s.extract 1 17 = strB (dg 16 N) 16 := by
    have h1 := strB_byT (s.extract 1 17)
    rw [ByteArray.size_extract, hs] at h1
    rw [← h1]
    show strB (byT (s.extract 1 17)) 16 = _
    rw [strB_ext (fun i => byT_lt _ _) (fun i => dg_lt _ _ _)]
    intro i hi
    have h2 := tail_at s i (by omega)
    rw [hs] at h2
    rw [h2, ← eN]
    exact (dg_numF (f := fun i => byT s (1 + i)) (m := 16) hx i hi).symm
  rw [eT, topS_is]
  refine ⟨?_, str_no fun h2 => ?_⟩
  · rw [ByteArray.toList_eq, ByteArray.toList_eq, dg_list, dg_list, dl_less lN (by decide)]
    exact decide_eq_false (by omega)
  · have h3 : hexl (dl 16 N) = hexl (dl 16 4611686018427387904) := by rw [← dg_list, ← dg_list, h2]
    have h4 := dl_less lN (show 4611686018427387904 < 16 ^ 16 by decide)
    have h5 := dl_less (show 4611686018427387904 < 16 ^ 16 by decide) lN
    rw [h3, dl_less (by decide) (by decide)] at h5
    have : (4611686018427387904 : Nat) < N := by omega
    rw [decide_eq_true this] at h5
    simp at h5
set_option maxRecDepth 100000 in
set_option maxHeartbeats 8000000 in
theorem namesany_walk {s : ByteArray} {w : World} (hT : TabN w) (hz : s.size ≤ maxLen) :
    Calls Tryd.prog 4 #[.string s] w fun e w' => e = .returned (.bool true) ∧ Made w.heap.size w w' := by
  have HT := hid hT
  have HZ := hid hz
  unfold maxLen at hz
  clear hT
  go_enter Tryd.func4, Tryd.ntmps4
  go_wp2_with fail
  refine (fit_c HT.out).mono ?_
  rintro e w1 ⟨rfl, hM⟩
  have HM := hid hM
  have HT1 := hid (HT.out.bel hM.1)
  clear hM HT
  go_wp2_with fail
  refine (parse_c HZ.out HT1.out).mono ?_
  rintro e w2 ⟨⟨c, n, q, rfl, h1, h2⟩, rfl⟩
  cases q with
  | true =>
    obtain ⟨hk, hs⟩ := h1 rfl
    have hn := hk.2
    have HK := hid hk
    have hkc := hk.1
    clear h1 h2 hk hz HZ
    subst hs
    rcases hkc with rfl | rfl
    · go_wp2_with fail
      refine (check_c (N := n) (by omega) HT1.out).mono ?_
      rintro e w3 ⟨rfl, hM⟩
      have HM2 := hid (HM.out.then_ (hM.low HM.out.1.size))
      clear hM
      have q1 : ((nmB 99 n).toList == (nmB 99 n).toList) = true := str_yes rfl
      go_wp2_with fail
      go_ret
      exact ⟨rfl, HM2.out⟩
    · go_wp2_with fail
      refine (segment_c (N := n) (by omega) HT1.out).mono ?_
      rintro e w3 ⟨rfl, hM⟩
      have HM2 := hid (HM.out.then_ (hM.low HM.out.1.size))
      clear hM
      have q1 : ((nmB 106 n).toList == (nmB 106 n).toList) = true := str_yes rfl
      go_wp2_with fail
      go_ret
      exact ⟨rfl, HM2.out⟩
  | false =>
    obtain ⟨rfl, rfl, hno⟩ := h2 rfl
    have HNo := hid hno
    clear h1 h2 hno
    obtain ⟨n, en⟩ : ∃ n, s.size = n := ⟨_, rfl⟩
    rw [en] at hz
    by_cases h17 : n = 17
    · subst h17
      have EN := hid en
      have hlt := byT_lt s
      have hx0 : ∀ w : World, (Instr.index 9 (.string s) (.int .i64 0)).run Tryd.prog w = .ok (.int .u8 (byT s 0 : Nat)) w := fun w => str_at s 0 w (by omega)
      have HX : Hid (∀ (i : Nat) (w : World), i < 17 → (Instr.index 9 (.string s) (.int .i64 (i : Nat))).run Tryd.prog w = .ok (.int .u8 (byT s i : Nat)) w) := fun i w hi => str_at s i w (by omega)
      have HG : Hid (RgN (byT s) 17 → Op.bytesLess (s.extract 1 17).toList topS.toList = false ∧ ((s.extract 1 17).toList == topS.toList) = false) := fun h => rg_more en h HNo.out
      obtain ⟨T, eT⟩ : ∃ T, s.extract 1 17 = T := ⟨_, rfl⟩
      rw [eT] at HG
      obtain ⟨f, ef⟩ : ∃ f, byT s = f := ⟨_, rfl⟩
      rw [ef] at hx0 hlt HX HG
      have HL := hid hlt
      obtain ⟨c0, ec0⟩ : ∃ c0, f 0 = c0 := ⟨_, rfl⟩
      rw [ec0] at hx0
      have lc0 : c0 < 256 := by rw [← ec0]; exact hlt 0
      have EC := hid ec0
      clear ef hlt ec0
      obtain ⟨r0, er0⟩ : ∃ r0, decide (c0 = 99 ∨ c0 = 106) = r0 := ⟨_, rfl⟩
      go_upto_region 7 with fail
      go_cut [6] (fun r wx => r = .bool r0 ∧ Hid (w1 = wx))
      case first =>
        by_cases h99 : c0 = 99
        · subst h99
          go_wp2_with fail
          go_meet
          exact ⟨by rw [← er0]; rfl, rfl⟩
        · have e0 : ((c0 : Int) == 99) = false := by simp; omega
          by_cases h106 : c0 = 106
          · subst h106
            go_wp2_with fail
            go_meet
            exact ⟨by rw [← er0]; rfl, rfl⟩
          · have e1 : ((c0 : Int) == 106) = false := by simp; omega
            go_wp2_with fail
            go_meet
            exact ⟨by rw [← er0, decide_eq_false (by omega)], rfl⟩
      case rest =>
        obtain ⟨rfl, HW⟩ := hcut
        have hW := HW.out
        subst hW
        go_wp2_with fail
        go_loopg [6, 7] 16 (fun g r i wx => ∃ (k : Nat) (q : Bool), 1 ≤ k ∧ k + g = 17 ∧ r = .bool q ∧ i = .int .i64 (k : Nat) ∧ Hid (RgQ q f k) ∧ Hid (w1 = wx))
        case atStart => exact ⟨1, r0, by omega, by omega, rfl, rfl, ⟨fun h => ⟨by rw [EC.out]; exact of_decide_eq_true (er0.trans h), fun j h1 h2 => absurd h2 (by omega)⟩, fun h => by rw [← er0]; exact decide_eq_true (by rw [← EC.out]; exact h.1)⟩, rfl⟩
        case round =>
          obtain ⟨k, q, hk1, hk, rfl, rfl, HQ, HW⟩ := hrel
          have hW := HW.out
          subst hW
          by_cases hlt : k < 17
          · cases q with
            | false =>
              have HK2 : Hid (RgQ false f (k + 1)) := ⟨(fun h => by cases h), fun h => HQ.out.2 ⟨h.1, fun j h1 h2 => h.2 j h1 (by omega)⟩⟩
              go_wp2_with fail
              go_roundg (17 - k - 1)
              case rel => exact ⟨k + 1, false, by omega, by omega, rfl, by go_num, HK2, rfl⟩
              case measure => omega
            | true =>
              have hi := HX.out k w1 hlt
              have lc := HL.out k
              obtain ⟨c, ec⟩ : ∃ c, f k = c := ⟨_, rfl⟩
              rw [ec] at hi lc
              have HK := hid (fun (h : hexv c < 16) => (⟨(HQ.out.1 rfl).1, fun j h1 h2 => by
                by_cases e : j = k
                · rw [e, ec]; exact h
                · exact (HQ.out.1 rfl).2 j h1 (by omega)⟩ : RgN f (k + 1)))
              have HN := hid (fun (h : ¬ hexv c < 16) (h2 : RgN f (k + 1)) => h (by rw [← ec]; exact h2.2 k hk1 (by omega)))
              clear ec
              have hall : (48 ≤ c ∧ c ≤ 57) ∨ (48 ≤ c ∧ ¬ c ≤ 57 ∧ 97 ≤ c ∧ c ≤ 102) ∨ (48 ≤ c ∧ ¬ c ≤ 57 ∧ 97 ≤ c ∧ ¬ c ≤ 102) ∨ (48 ≤ c ∧ ¬ c ≤ 57 ∧ ¬ 97 ≤ c) ∨ (¬ 48 ≤ c ∧ ¬ 97 ≤ c) := by omega
              rcases hall with hh | hh | hh | hh | hh
              · have HH := hid hh
                have f0 : decide (48 ≤ (c : Int)) = true := decide_eq_true (by omega)
                have f1 : decide ((c : Int) ≤ 57) = true := decide_eq_true (by omega)
                clear hh
                have HK2 : Hid (RgQ true f (k + 1)) := ⟨fun _ => HK.out ((hexv_iff c).2 (by have := HH.out; omega)), fun _ => rfl⟩
                go_wp2_with fail
                go_roundg (17 - k - 1)
                case rel => exact ⟨k + 1, true, by omega, by omega, rfl, by go_num, HK2, rfl⟩
                case measure => omega
              · have HH := hid hh
                have f0 : decide (48 ≤ (c : Int)) = true := decide_eq_true (by omega)
                have f1 : decide ((c : Int) ≤ 57) = false := decide_eq_false (by omega)
                have f2 : decide (97 ≤ (c : Int)) = true := decide_eq_true (by omega)
                have f3 : decide ((c : Int) ≤ 102) = true := decide_eq_true (by omega)
                clear hh
                have HK2 : Hid (RgQ true f (k + 1)) := ⟨fun _ => HK.out ((hexv_iff c).2 (by have := HH.out; omega)), fun _ => rfl⟩
                go_wp2_with fail
                go_roundg (17 - k - 1)
                case rel => exact ⟨k + 1, true, by omega, by omega, rfl, by go_num, HK2, rfl⟩
                case measure => omega
              · have HH := hid hh
                have f0 : decide (48 ≤ (c : Int)) = true := decide_eq_true (by omega)
                have f1 : decide ((c : Int) ≤ 57) = false := decide_eq_false (by omega)
                have f2 : decide (97 ≤ (c : Int)) = true := decide_eq_true (by omega)
                have f3 : decide ((c : Int) ≤ 102) = false := decide_eq_false (by omega)
                clear hh
                have HK2 : Hid (RgQ false f (k + 1)) := ⟨(fun h => by cases h), fun h => absurd h (HN.out (fun h => by have := (hexv_iff c).1 h; have := HH.out; omega))⟩
                go_wp2_with fail
                go_roundg (17 - k - 1)
                case rel => exact ⟨k + 1, false, by omega, by omega, rfl, by go_num, HK2, rfl⟩
                case measure => omega
              · have HH := hid hh
                have f0 : decide (48 ≤ (c : Int)) = true := decide_eq_true (by omega)
                have f1 : decide ((c : Int) ≤ 57) = false := decide_eq_false (by omega)
                have f2 : decide (97 ≤ (c : Int)) = false := decide_eq_false (by omega)
                clear hh
                have HK2 : Hid (RgQ false f (k + 1)) := ⟨(fun h => by cases h), fun h => absurd h (HN.out (fun h => by have := (hexv_iff c).1 h; have := HH.out; omega))⟩
                go_wp2_with fail
                go_roundg (17 - k - 1)
                case rel => exact ⟨k + 1, false, by omega, by omega, rfl, by go_num, HK2, rfl⟩
                case measure => omega
              · have HH := hid hh
                have f0 : decide (48 ≤ (c : Int)) = false := decide_eq_false (by omega)
                have f1 : decide (97 ≤ (c : Int)) = false := decide_eq_false (by omega)
                clear hh
                have HK2 : Hid (RgQ false f (k + 1)) := ⟨(fun h => by cases h), fun h => absurd h (HN.out (fun h => by have := (hexv_iff c).1 h; have := HH.out; omega))⟩
                go_wp2_with fail
                go_roundg (17 - k - 1)
                case rel => exact ⟨k + 1, false, by omega, by omega, rfl, by go_num, HK2, rfl⟩
                case measure => omega
          · have e : k = 17 := by omega
            subst e
            cases q with
            | false =>
              go_wp2_with fail
              go_ret
              exact ⟨rfl, HM.out⟩
            | true =>
              have HG2 := HG.out (HQ.out.1 rfl)
              have g1 := HG2.1; have g2 := HG2.2
              have t1 : topS.toList = [52, 48, 48, 48, 48, 48, 48, 48, 48, 48, 48, 48, 48, 48, 48, 48] := by rw [ByteArray.toList_eq]; rfl
              rw [t1] at g1 g2
              clear t1 HG2
              go_wp2_with fail
              go_ret
              exact ⟨rfl, HM.out⟩
    · have e0 : ((n : Int) != 17) = true := by simp; omega
      clear h17
      go_wp2_with fail
      go_ret
      exact ⟨rfl, HM.out⟩
end Go.Proofs.YtmdhlobonnikcaaDoor.Fx
