/- Layer 17: DiskNames, its walk. -/
import Derived.Test.YtdaelblapgcljaaDlF
import Derived.Deep.DeepCutAuto
import Derived.Deep.QuietTactic
import Derived.BigQuiet
import Derived.Laws.Cover1
namespace Go.Proofs.Ytdaelblapgcljaa.Fx
open Go.ChangeShapes Go.WideShapes Go.ChangeAt Go.RowKit Go.Maps Go.Sort
set_option linter.unusedVariables false

theorem bel_drewN (w : World) (n : Nat) : Below w.heap.size w (w.drewN n) := ⟨rfl, rfl, rfl, Nat.le_refl _, fun _ _ => rfl⟩
/-- so far it is a name -/
def rightB (s : ByteArray) (k : Nat) : Bool := decide (1 ≤ s.size ∧ s.size ≤ 24) && (List.range k).all fun j => decide (signD (byS s j))
theorem rightB_next (s : ByteArray) (k : Nat) : rightB s (k + 1) = (rightB s k && decide (signD (byS s k))) := by
  unfold rightB
  rw [List.range_succ, List.all_append, ← Bool.and_assoc]
  simp
theorem rightB_all (s : ByteArray) : rightB s s.size = decide (nameD s) := by
  unfold rightB
  rw [← Bool.decide_coe ((List.range s.size).all _), ← Bool.decide_and]
  congr 1
  rw [eq_iff_iff, nameD_iff]
  simp
  constructor
  · rintro ⟨⟨h1, h2⟩, h3⟩; exact ⟨by omega, h2, h3⟩
  · rintro ⟨h1, h2, h3⟩; exact ⟨⟨by omega, h2⟩, h3⟩
theorem new_ns : NS (newD 10) 0 := ⟨rfl, rfl, rfl, rfl⟩
theorem create_new (s : ByteArray) : (createD (newD 10) s).2 = if nameD s then 0 else 2 := by
  unfold createD
  simp only [show (opD (newD 10)).2 = 0 from rfl, ne_eq, not_true_eq_false, if_false]
  by_cases h : nameD s
  · rw [if_neg (by simpa using h), if_pos h]; rfl
  · rw [if_pos h, if_neg h]
set_option maxRecDepth 100000 in
set_option maxHeartbeats 8000000 in
theorem dnames_walk {s : ByteArray} {y : Nat} {w : World} (hy : y < 256) (hz : s.size ≤ maxLen) : Calls Try.prog 6 #[.string s, .int .u8 (y : Nat)] w fun e w' => e = .returned (.bool true) ∧ Below w.heap.size w w' := by
  have HY := hid hy
  clear hy
  obtain ⟨n, en⟩ : ∃ n, s.size = n := ⟨_, rfl⟩
  have hix : ∀ (i : Nat) (w : World), i < n → (Instr.index 9 (.string s) (.int .i64 (i : Nat))).run Try.prog w = .ok (.int .u8 (byS s i : Nat)) w := by
    intro i w hi
    have hi' : i < s.size := by omega
    have e : s[i] = s.data.toList.getD i 0 := by
      rw [List.getD_eq_getElem?_getD, Array.getElem?_toList, Array.getElem?_eq_getElem (show i < s.data.size from hi'), Option.getD_some]
      rfl
    rw [run_index_string w 9 s .i64 (i : Nat) Try.underlying9]
    rw [dif_pos (⟨by omega, by omega⟩ : 0 ≤ ((i : Nat) : Int) ∧ ((i : Nat) : Int) < s.size)]
    unfold byS
    rw [← e]
    rfl
  have hlt : ∀ i, byS s i < 256 := fun i => by unfold byS; exact (s.data.toList.getD i 0).toNat_lt
  have HI := hid (rightB_all s)
  have HN := hid (fun k => rightB_next s k)
  have H0 : Hid (rightB s 0 = decide (1 ≤ n ∧ n ≤ 24)) := by unfold Hid rightB; rw [en]; simp
  have HC := hid (create_new s)
  have HZ := hid hz
  have EN := hid en
  rw [en] at HI
  clear hz
  go_enter Try.func6, Try.ntmps6
  go_wp2_with fail
  refine dfit_c.mono ?_
  rintro e w1 ⟨rfl, hb1⟩
  have HB1 := hid hb1
  clear hb1
  by_cases hl : 200 < n
  · have q1 : decide ((200 : Int) < (n : Int)) = true := decide_eq_true (by omega)
    go_wp2_with fail
    go_ret
    exact ⟨rfl, HB1.out⟩
  have q1 : decide ((200 : Int) < (n : Int)) = false := decide_eq_false (by omega)
  go_upto_region 5 with fail
  go_cut [5] (fun r wx => r = .bool (rightB s 0) ∧ Hid (w1 = wx))
  case first =>
    by_cases ha : 1 ≤ n
    · have q2 : decide ((1 : Int) ≤ (n : Int)) = true := decide_eq_true (by omega)
      by_cases hb : n ≤ 24
      · have q3 : decide ((n : Int) ≤ 24) = true := decide_eq_true (by omega)
        go_wp2_with fail
        go_meet
        exact ⟨by rw [H0.out, decide_eq_true (show 1 ≤ n ∧ n ≤ 24 from ⟨ha, hb⟩)], rfl⟩
      · have q3 : decide ((n : Int) ≤ 24) = false := decide_eq_false (by omega)
        go_wp2_with fail
        go_meet
        exact ⟨by rw [H0.out, decide_eq_false (show ¬ (1 ≤ n ∧ n ≤ 24) from fun h => hb h.2)], rfl⟩
    · have q2 : decide ((1 : Int) ≤ (n : Int)) = false := decide_eq_false (by omega)
      go_wp2_with fail
      go_meet
      exact ⟨by rw [H0.out, decide_eq_false (show ¬ (1 ≤ n ∧ n ≤ 24) from fun h => ha h.1)], rfl⟩
  obtain ⟨rfl, hw⟩ := hcut
  have hw := hw.out
  subst hw
  clear H0
  go_wp2_with fail
  go_loopg [5, 32] n (fun g r i wx => ∃ k : Nat, k + g = n ∧ i = .int .i64 (k : Nat) ∧ r = .bool (rightB s k) ∧ Hid (w1 = wx))
  case atStart => exact ⟨0, by omega, by first | rfl | trivial, rfl, rfl⟩
  case round =>
    obtain ⟨k, hk, rfl, rfl, HW⟩ := hrel
    have hW := HW.out
    subst hW
    by_cases hkn : k < n
    · have hx := hix k w1 hkn
      have hc := hlt k
      have HNk := hid (HN.out k)
      clear hix hlt HN HI HC
      obtain ⟨c, ec⟩ : ∃ c, byS s k = c := ⟨_, rfl⟩
      rw [ec] at hx hc HNk
      clear ec
      cases hr : rightB s k with
      | false =>
        rw [hr] at HNk
        go_wp2_with fail
        go_roundg (n - k - 1)
        case rel => exact ⟨k + 1, by omega, by go_num, by rw [HNk.out]; rfl, rfl⟩
        case measure => omega
      | true =>
        rw [hr] at HNk
        have hall : (97 ≤ c ∧ c ≤ 122) ∨ (97 ≤ c ∧ ¬ c ≤ 122) ∨ (¬ 97 ≤ c ∧ 48 ≤ c ∧ c ≤ 57) ∨ (¬ 97 ≤ c ∧ 48 ≤ c ∧ ¬ c ≤ 57) ∨ (¬ 48 ≤ c ∧ c = 45) ∨ (¬ 48 ≤ c ∧ ¬ c = 45) := by omega
        rcases hall with hh | hh | hh | hh | hh | hh
        · have HH := hid hh
          have f0 : decide (97 ≤ (c : Int)) = true := decide_eq_true (by omega)
          have f1 : decide ((c : Int) ≤ 122) = true := decide_eq_true (by omega)
          clear hh
          go_wp2_with fail
          go_roundg (n - k - 1)
          case rel => exact ⟨k + 1, by omega, by go_num, by rw [HNk.out, decide_eq_true (by have := HH.out; unfold signD; omega)]; rfl, rfl⟩
          case measure => omega
        · have HH := hid hh
          have f0 : decide (97 ≤ (c : Int)) = true := decide_eq_true (by omega)
          have f1 : decide ((c : Int) ≤ 122) = false := decide_eq_false (by omega)
          have f2 : decide (48 ≤ (c : Int)) = true := decide_eq_true (by omega)
          have f3 : decide ((c : Int) ≤ 57) = false := decide_eq_false (by omega)
          have f7 : ((c : Int) == 45) = false := by simp; omega
          clear hh
          go_wp2_with fail
          go_roundg (n - k - 1)
          case rel => exact ⟨k + 1, by omega, by go_num, by rw [HNk.out, decide_eq_false (by have := HH.out; unfold signD; omega)]; rfl, rfl⟩
          case measure => omega
        · have HH := hid hh
          have f0 : decide (97 ≤ (c : Int)) = false := decide_eq_false (by omega)
          have f1 : decide (48 ≤ (c : Int)) = true := decide_eq_true (by omega)
          have f2 : decide ((c : Int) ≤ 57) = true := decide_eq_true (by omega)
          clear hh
          go_wp2_with fail
          go_roundg (n - k - 1)
          case rel => exact ⟨k + 1, by omega, by go_num, by rw [HNk.out, decide_eq_true (by have := HH.out; unfold signD; omega)]; rfl, rfl⟩
          case measure => omega
        · have HH := hid hh
          have f0 : decide (97 ≤ (c : Int)) = false := decide_eq_false (by omega)
          have f1 : decide (48 ≤ (c : Int)) = true := decide_eq_true (by omega)
          have f2 : decide ((c : Int) ≤ 57) = false := decide_eq_false (by omega)
          have f7 : ((c : Int) == 45) = false := by simp; omega
          clear hh
          go_wp2_with fail
          go_roundg (n - k - 1)
          case rel => exact ⟨k + 1, by omega, by go_num, by rw [HNk.out, decide_eq_false (by have := HH.out; unfold signD; omega)]; rfl, rfl⟩
          case measure => omega
        · have HH := hid hh
          have f0 : decide (97 ≤ (c : Int)) = false := decide_eq_false (by omega)
          have f1 : decide (48 ≤ (c : Int)) = false := decide_eq_false (by omega)
          have f7 : ((c : Int) == 45) = true := by simp; omega
          clear hh
          go_wp2_with fail
          go_roundg (n - k - 1)
          case rel => exact ⟨k + 1, by omega, by go_num, by rw [HNk.out, decide_eq_true (by have := HH.out; unfold signD; omega)]; rfl, rfl⟩
          case measure => omega
        · have HH := hid hh
          have f0 : decide (97 ≤ (c : Int)) = false := decide_eq_false (by omega)
          have f1 : decide (48 ≤ (c : Int)) = false := decide_eq_false (by omega)
          have f7 : ((c : Int) == 45) = false := by simp; omega
          clear hh
          go_wp2_with fail
          go_roundg (n - k - 1)
          case rel => exact ⟨k + 1, by omega, by go_num, by rw [HNk.out, decide_eq_false (by have := HH.out; unfold signD; omega)]; rfl, rfl⟩
          case measure => omega
    · have e : k = n := by omega
      subst e
      obtain ⟨R, hR⟩ : ∃ R, rightB s k = R := ⟨_, rfl⟩
      rw [hR]
      have HR := hid (hR.symm.trans HI.out)
      clear hix hlt HN hR
      go_wp2_with fail
      refine (oNew (room := 10) (by omega) (by omega) HB1.out HB1.out.size).mono ?_
      rintro e w2 ⟨p, rfl, h2, _, _⟩
      have h2 := hid h2
      clear HB1
      go_wp2_with fail
      refine (oCreate h2.out (s := s) (by omega) HZ.out).mono ?_
      rintro e w3 ⟨rfl, h3, _⟩
      obtain ⟨E, hE⟩ : ∃ E, (createD (newD 10) s).2 = E := ⟨_, rfl⟩
      rw [hE]
      have HE := hid (hE.symm.trans HC.out)
      have h3 := hid h3
      clear h2 hE
      go_upto_region 14 with fail
      go_cut [5, 9, 75] (fun r e z wx => z = .bool false ∧ Hid (w3 = wx))
      case first =>
        by_cases hnm : nameD s
        · have t1 := HR.out.trans (decide_eq_true hnm)
          have t2 := HE.out.trans (if_pos hnm)
          subst t1
          subst t2
          clear HR HE hnm HC HI
          go_wp2_with fail
          go_meet
          exact ⟨rfl, rfl⟩
        · have t1 := HR.out.trans (decide_eq_false hnm)
          have t2 := HE.out.trans (if_neg hnm)
          subst t1
          subst t2
          clear HR HE hnm HC HI
          go_wp2_with fail
          go_meet
          exact ⟨rfl, rfl⟩
      obtain ⟨rfl, hw⟩ := hcut
      have hw := hw.out
      subst hw
      clear HC HI HR HE
      go_wp2_with fail
      refine (oNew (room := 10) (by omega) (by omega) h3.out.below (by have := h3.out.below.size; exact this)).mono ?_
      rintro e w4 ⟨p2, rfl, h4, _, _⟩
      have h4 := hid h4
      clear h3
      have hy := HY.out
      obtain ⟨q, eq⟩ : ∃ q, y % 10 = q := ⟨_, rfl⟩
      obtain ⟨K, eK⟩ : ∃ K, 60 + q = K := ⟨_, rfl⟩
      have r1 : (y : Int).tmod 10 = (q : Int) := by rw [Int.tmod_eq_emod_of_nonneg (by omega)]; omega
      have r2 : (y : Int) % 10 = (q : Int) := by omega
      have hq : q < 10 := by omega
      have r3 : 60 + (q : Int) = (K : Int) := by omega
      have hK : Hid (60 ≤ K ∧ K < 70) := by unfold Hid; omega
      clear eq
      go_wp2_with fail
      go_loopg [82] K (fun g i wx => ∃ j : Nat, j + g = K ∧ i = .int .i64 (j : Nat) ∧ Hid (∃ d, On w.heap.size w wx p2 d j [] ∧ NS d (min j 64)))
      case atStart => exact ⟨0, by omega, by first | rfl | trivial, _, h4.out, new_ns⟩
      case round =>
        obtain ⟨j, hj, rfl, HB⟩ := hrel
        clear h4 hy r1 r2 r3
        have HK := hK.out
        by_cases hjk : j < K
        · obtain ⟨a, ea⟩ : ∃ a, j / 10 = a := ⟨_, rfl⟩
          obtain ⟨c, ec⟩ : ∃ c, j % 10 = c := ⟨_, rfl⟩
          have s1 : (j : Int).tdiv 10 = (a : Int) := by rw [Int.tdiv_eq_ediv_of_nonneg (by omega)]; omega
          have s2 : (j : Int).tmod 10 = (c : Int) := by rw [Int.tmod_eq_emod_of_nonneg (by omega)]; omega
          have s3 : (j : Int) / 10 = (a : Int) := by omega
          have s4 : (j : Int) % 10 = (c : Int) := by omega
          have ha : a < 7 := by omega
          have hc : c < 10 := by omega
          have EA := hid ea
          have EC := hid ec
          clear ea ec
          have y5 : By (wr.alloc (.cells #[.int .u8 (97 + (a : Int)), .int .u8 (48 + (c : Int))] 5)) (some ⟨wr.heap.size, 0, none⟩) 2 (gb [97 + a, 48 + c]) := by_const (l := [97 + a, 48 + c]) (fun i hi => by
            match i, hi with
            | 0, _ => show some (Value.int .u8 (97 + (a : Int))) = some (.int .u8 ((97 + a : Nat) : Int)); congr 2
            | 1, _ => show some (Value.int .u8 (48 + (c : Int))) = some (.int .u8 ((48 + c : Nat) : Int)); congr 2) _
          have q5 := conv_by (c := 2) y5
          clear y5
          go_wp2_with fail
          rw [show ({ data := #[102] } : ByteArray) ++ strB (gb [97 + a, 48 + c]) 2 = nm j by unfold nm; rw [EA.out, EC.out]; rfl]
          obtain ⟨d, hd, hn⟩ := HB.out
          refine (oCreate (hd.grow (below_new wr _)).1 (s := nm j) (by omega) (by have := nm_size j (by omega); unfold maxLen; omega)).mono ?_
          rintro e w6 ⟨rfl, h6, _⟩
          clear q5 EA EC s1 s2 s3 s4 ha hc
          by_cases hj6 : j < 64
          · have hm : min j 64 = j := by omega
            rw [hm] at hn
            have hcr := (hn.create (Nat.le_refl _) (by omega)).1 hj6
            rw [hcr.1]
            have HR := hid (And.intro h6 (hcr.2 rfl))
            have t1 : decide ((j : Int) < 64) = true := decide_eq_true (by omega)
            clear hn hd h6 hcr hm
            go_wp2_with fail
            go_roundg (K - j - 1)
            case rel => exact ⟨j + 1, by omega, by go_num, _, HR.out.1, by rw [show min (j + 1) 64 = j + 1 by omega]; exact HR.out.2⟩
            case measure => omega
          · have hm : min j 64 = 64 := by omega
            rw [hm] at hn
            have hcr := (hn.create (by omega : 64 ≤ j) (by omega)).2 (Nat.le_refl _)
            rw [hcr.1]
            have HR := hid (And.intro h6 hcr.2)
            have t1 : decide ((j : Int) < 64) = false := decide_eq_false (by omega)
            have t2 : decide ((64 : Int) ≤ (j : Int)) = true := decide_eq_true (by omega)
            clear hn hd h6 hcr hm
            go_wp2_with fail
            go_roundg (K - j - 1)
            case rel => exact ⟨j + 1, by omega, by go_num, _, HR.out.1, by rw [show min (j + 1) 64 = 64 by omega]; exact HR.out.2⟩
            case measure => omega
        · have e : j = K := by omega
          subst e
          obtain ⟨d, hd, hn⟩ := HB.out
          have HD := hid hd
          have HN := hid hn
          clear hd hn HB
          go_wp2_with fail
          refine (oList HD.out (by omega)).mono ?_
          rintro e w6 ⟨v, rfl, h6, _, _, hl, _⟩
          rw [HN.out.op.1]
          have hl := hl HN.out.op.1
          rw [HN.out.len] at hl
          obtain ⟨m, em⟩ : ∃ m, min j 64 = m := ⟨_, rfl⟩
          rw [em] at hl HN
          have hm : 60 ≤ m ∧ m ≤ 64 := by omega
          have q6 : min (j : Int) 64 = (m : Int) := by omega
          obtain ⟨g, cap, cur, rfl, hh, h0, ht⟩ : ∃ g cap cur, v = .slice (some ⟨g, 0, none⟩) m cap ∧ w6.heap[g]? = some (.cells cur 9 (0, 0)) ∧ m ≤ cap ∧ cur.toList.take m = (listD d).map encStr := by
            rcases hl.2 with ⟨_, h0⟩ | ⟨g, cap, cur, e, _, hh, h0, _, _, ht⟩
            · omega
            · exact ⟨g, cap, cur, e, hh, h0, by rw [← ht, Nat.mul_one]⟩
          have hcl : ∀ i, i < m → w6.cell? ⟨g, i, none⟩ = some (.string ⟨((listD d).getD i []).toArray⟩) := fun i hi => by
            rw [Has.at_ (show Has w6 g 9 cur from hh) i, ← Array.getElem?_toList]
            have h1 := congrArg (fun l => l[i]?) ht
            simp only [List.getElem?_take, if_pos hi, List.getElem?_map] at h1
            rw [h1, List.getD_eq_getElem?_getD, List.getElem?_eq_getElem (by rw [listD_len, HN.out.len]; exact hi)]
            rfl
          have HH := hid (And.intro h6 hcl)
          clear hl hcl ht hh h6
          go_wp2_with fail
          go_loopg [119] m (fun g' i wx => ∃ z : Nat, z + g' = m ∧ i = .int .i64 (z : Nat) ∧ Hid (On w.heap.size w wx p2 (opD d).1 (j + 1) [] ∧ ∀ i, i < m → wx.cell? ⟨g, i, none⟩ = some (.string ⟨((listD d).getD i []).toArray⟩)))
          case atStart => exact ⟨0, by omega, by first | rfl | trivial, HH.out⟩
          case round =>
            obtain ⟨z, hz, rfl, HW⟩ := hrel
            clear HH
            by_cases hzm : z < m
            · by_cases hz0 : 0 < z
              · have t1 : decide ((0 : Int) < (z : Int)) = true := decide_eq_true (by omega)
                have c1 := HW.out.2 z hzm
                have c2 := HW.out.2 (z - 1) (by omega)
                have t3 : (z : Int) - 1 = ((z - 1 : Nat) : Int) := by omega
                obtain ⟨x, ex⟩ : ∃ x, z - 1 = x := ⟨_, rfl⟩
                rw [ex] at c2 t3
                have hx : x < m := by omega
                have t4 : IntKind.i64.wrap (x : Int) = (x : Int) := wrap64_of (by omega) (by omega)
                have NR := HN.out.rise (by omega) z hz0 hzm
                rw [ex] at NR
                obtain ⟨X, eX⟩ : ∃ X, (listD d).getD x [] = X := ⟨_, rfl⟩
                obtain ⟨Z, eZ⟩ : ∃ Z, (listD d).getD z [] = Z := ⟨_, rfl⟩
                rw [eX] at c2 NR
                rw [eZ] at c1 NR
                have i1 : (0 : Int) ≤ (z : Int) := by omega
                have i2 : (z : Int) < (m : Int) := by omega
                have i3 : (0 : Int) ≤ (x : Int) := by omega
                have i4 : (x : Int) < (m : Int) := by omega
                have t6 : Op.bytesLess X Z = true := by rw [bytesLess_eq]; exact decide_eq_true (List.not_le.1 NR)
                have t5 : Op.bytesLess (ByteArray.toList ⟨X.toArray⟩) (ByteArray.toList ⟨Z.toArray⟩) = true := by rw [ByteArray.toList_eq, ByteArray.toList_eq]; exact t6
                have NR := hid NR
                clear ex eX eZ
                go_wp2_with fail
                go_quiet (fail)
                go_wp2_with fail
                go_roundg (m - z - 1)
                case rel => exact ⟨z + 1, by omega, by go_num, (HW.out.1.grow (bel_drewN wr _)).1, HW.out.2⟩
                case measure => omega
              · have t1 : decide ((0 : Int) < (z : Int)) = false := decide_eq_false (by omega)
                go_wp2_with fail
                go_quiet (fail)
                go_wp2_with fail
                go_roundg (m - z - 1)
                case rel => exact ⟨z + 1, by omega, by go_num, (HW.out.1.grow (bel_drewN wr _)).1, HW.out.2⟩
                case measure => omega
            · have e : z = m := by omega
              subst e
              have hls := hid (NS.last (d := (opD d).1) (by
                by_cases h : z = 64
                · subst h; exact .inl HN.out.op.2
                · exact .inr ⟨z, by omega, by omega, HN.out.op.2⟩))
              go_wp2_with fail
              refine (oRemove HW.out.1 (s := sFa0) (by omega) (by decide)).mono ?_
              rintro e w7 ⟨rfl, h7, _⟩
              rw [hls.out.1]
              have h7 := hid h7
              clear HW
              go_wp2_with fail
              refine (oCreate h7.out (s := sZ) (by omega) (by decide)).mono ?_
              rintro e w8 ⟨rfl, h8, _⟩
              rw [hls.out.2]
              have h8 := hid h8
              clear h7
              go_wp2_with fail
              go_ret
              exact ⟨rfl, h8.out.below⟩
/-- as the seat asks it -/
theorem dnames_i {s : ByteArray} {b : Int} {w : World} (hz : s.size ≤ maxLen) (h1 : (Lit.int .u8 b).wf = true) : Calls Try.prog 6 #[.string s, .int .u8 b] w fun e w' => e = .returned (.bool true) ∧ Below w.heap.size w w' := by
  have b1 := bounds_u8 h1
  obtain ⟨y, rfl⟩ : ∃ y : Nat, b = (y : Int) := ⟨b.toNat, by omega⟩
  exact dnames_walk (by omega) hz
end Go.Proofs.Ytdaelblapgcljaa.Fx
