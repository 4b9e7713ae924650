/- MassTurned: the walk. -/
import Derived.Test.YtahbnbaldoblaaaMassS
import Derived.Test.YtahbnbaldoblaaaMassN
import Derived.LoopTactic
namespace Go.Proofs.Ytahbnbaldoblaaa.Fx
open Go.ChangeShapes Go.WideShapes Go.ChangeAt Go.RowKit
set_option linter.unusedVariables false

theorem less_no {a : Int} (h : 0 ≤ a) : decide (a < 0) = false := by simp; omega
set_option maxRecDepth 100000 in
set_option maxHeartbeats 8000000 in
theorem mturned_walk (a b c d N : Int) (w : World) :
    Calls Try.prog 4 #[seedV a b c d, .int .i64 N] w fun e w' => e = .returned (.bool true) ∧ Below w.heap.size w w' := by
  have MS := hid mass_says
  obtain ⟨t, et⟩ : ∃ t : Nat, N % 256 = (t : Int) := ⟨(N % 256).toNat, by omega⟩
  have t1 : t ≤ 255 := by omega
  have aN := and8 N
  rw [et] at aN
  clear et
  go_enter Try.func4, Try.ntmps4
  go_wp2_with fail
  refine (fit_is MS.out _).mono ?_
  rintro e w1 ⟨rfl, k1⟩
  have r0 := Below.reads k1 (p := ⟨w.heap.size, 0, none⟩) (x := .int .i64 a) (by go_simp)
  have r1 := Below.reads k1 (p := ⟨w.heap.size, 1, none⟩) (x := .int .i64 b) (by go_simp)
  have r2 := Below.reads k1 (p := ⟨w.heap.size, 2, none⟩) (x := .int .i64 c) (by go_simp)
  have r3 := Below.reads k1 (p := ⟨w.heap.size, 3, none⟩) (x := .int .i64 d) (by go_simp)
  have K1 : Hid (Below w.heap.size w w1) := ((Below.refl _ w).alloc (Nat.le_refl _) _).trans (k1.mono (by simp))
  clear k1
  go_wp2_with fail
  refine (seed_full a b c d _).mono ?_
  rintro e w2 ⟨h, hm⟩
  have K2 : Hid (Below w.heap.size w w2) := K1.out.trans (hm.1.mono K1.out.size)
  have HW := hid hm.1.size
  clear hm r0 r1 r2 r3
  rcases h with ⟨R, R0, R1, rfl⟩ | ⟨g, cap, n, gx, gy, gk, gr, rd, rfl, hg, hrow⟩
  · have iR : I64 R := by unfold I64; omega
    have i2R : I64 (2 * R) := by unfold I64; omega
    have nn := circle_nn (R := R) (by unfold Rg; omega)
    have mo := circle_mono (R := R) (S := 2 * R) (by omega) (by omega) (by unfold Rg; omega)
    obtain ⟨A, eA⟩ : ∃ A, areaC R = A := ⟨_, rfl⟩
    obtain ⟨B, eB⟩ : ∃ B, roundC R = B := ⟨_, rfl⟩
    obtain ⟨A2, eA2⟩ : ∃ A, areaC (2 * R) = A := ⟨_, rfl⟩
    obtain ⟨B2, eB2⟩ : ∃ B, roundC (2 * R) = B := ⟨_, rfl⟩
    rw [eA, eB] at nn mo
    rw [eA2, eB2] at mo
    have iA : I64 A := by rw [← eA]; exact i64_mul _ _
    have iB : I64 B := by rw [← eB]; exact i64_div _ _
    obtain ⟨A0, B0⟩ := nn
    have dA := less_no A0
    have dB := less_no B0
    have d3 : decide (A ≤ A2) = true := by simpa using mo.1
    have d4 : decide (B ≤ B2) = true := by simpa using mo.2
    have hR : Hid (RightP 1 (2 * R) 0 (fun _ => (0, 0))) := .inl ⟨rfl, rfl, by omega, by omega⟩
    have i0 : I64 0 := by unfold I64; omega
    have sA : A - A = 0 := by omega
    have sB : B - B = 0 := by omega
    have E0 := hid (show absF 0 = 0 by decide)
    have EA := hid eA
    have EB := hid eB
    have EA2 := hid eA2
    have EB2 := hid eB2
    clear eA eB eA2 eB2 mo
    go_wp2_with fail
    refine (copy_none 1 R _).mono ?_
    rintro e w3 ⟨rfl, k3⟩
    have s0 := Below.reads k3.1 (p := ⟨w2.heap.size, 0, none⟩) (x := .int .i64 1) (by go_simp)
    have s1 := Below.reads k3.1 (p := ⟨w2.heap.size, 1, none⟩) (x := .int .i64 R) (by go_simp)
    have s2 := Below.reads k3.1 (p := ⟨w2.heap.size, 2, none⟩) (x := .slice none 0 0) (by go_simp)
    have K3 : Hid (Below w.heap.size w w3) := (K2.out.alloc K2.out.size _).trans (k3.1.mono (by have := K2.out.size; simp; omega))
    clear k3
    have b2 : w2.heap.size < w3.heap.size := World.block_lt_of_cell? _ _ s0
    go_wp2_with fail
    go_loop [18] (fun i => i = .int .i64 0) (fun _ => 0)
    case atStart => rfl
    case round =>
      subst hrel
      go_wp2_with fail
      obtain ⟨W, eW⟩ : ∃ W, W = w3.alloc (.cells #[.int .i64 1, .int .i64 R, .slice none 0 0] 28) := ⟨_, rfl⟩
      have HT : Hid (Has W w3.heap.size 28 #[.int .i64 1, .int .i64 R, .slice none 0 0]) := by unfold Hid; rw [eW]; exact has_new _ _ _
      have kW : Below w3.heap.size w3 W := by rw [eW]; exact (Below.refl _ _).alloc (Nat.le_refl _) _
      have KW : Hid (Below w.heap.size w W) := K3.out.trans (kW.mono K3.out.size)
      rw [← eW]
      have s0 := Below.reads kW s0
      have s1 := Below.reads kW s1
      have s2 := Below.reads kW s2
      have o0 := HT.out.at_ 0
      have o1 := HT.out.at_ 1
      have o2 := HT.out.at_ 2
      simp at o0 o1 o2
      clear eW kW
      refine reg_below (by kernel_rfl) (by kernel_rfl) ?_
      intro T hT fw hf
      have x0 := hf.reads s0
      have x1 := hf.reads s1
      have x2 := hf.reads s2
      have y0 := hf.reads o0
      have y1 := hf.reads o1
      have y2 := hf.reads o2
      have HA := hid (fun t => hf.below (x := t) (MS.out.disc R (fw t) iR))
      have HB := hid (fun t => hf.below (x := t) (MS.out.discRound R (fw t) iR))
      rw [EA.out] at HA
      rw [EB.out] at HB
      repeat (go_big_quiet_step ((first | (go_at_call 16; with_reducible exact HA.out _) | (go_at_call 17; with_reducible exact HB.out _) | (go_at_call 15; with_reducible exact hf.same (abs_is _ _ _ i0 E0.out)))))
      refine wpQuiet_nil ?_
      intro w4 h4
      have k4 := hf.here h4
      have s0 := Below.reads k4 s0
      have s1 := Below.reads k4 s1
      have s2 := Below.reads k4 s2
      have HT4 : Hid (Has w4 w3.heap.size 28 #[.int .i64 1, .int .i64 R, .slice none 0 0]) := HT.out.below k4 HT.out.here
      have o0 := Below.reads k4 o0
      have o1 := Below.reads k4 o1
      have o2 := Below.reads k4 o2
      have K4 : Hid (Below w.heap.size w w4) := KW.out.trans (k4.mono KW.out.size)
      have fz : ∀ i, w4.frozen? ⟨w3.heap.size, i, none⟩ = false := fun i => HT4.out.free i
      clear x0 x1 x2 y0 y1 y2 HA HB hf h4 k4
      have HW3 := hid (show w.heap.size ≤ w3.heap.size from K3.out.size)
      go_wp2_with fail
      go_loop [67] (fun i => i = .int .i64 0) (fun _ => 0)
      case atStart => rfl
      case round =>
        subst hrel
        go_wp2_with fail
        obtain ⟨W5, eW⟩ : ∃ W, W = w4.setCell ⟨w3.heap.size, 1, none⟩ (.int .i64 (2 * R)) := ⟨_, rfl⟩
        have HT5 : Hid (Has W5 w3.heap.size 28 #[.int .i64 1, .int .i64 (2 * R), .slice none 0 0]) := by unfold Hid; rw [eW]; exact HT4.out.put 1 _
        have s0 : W5.cell? ⟨w2.heap.size, 0, none⟩ = some (.int .i64 1) := by rw [eW]; exact cell_else (by simp; omega) s0
        have s1 : W5.cell? ⟨w2.heap.size, 1, none⟩ = some (.int .i64 R) := by rw [eW]; exact cell_else (by simp; omega) s1
        have s2 : W5.cell? ⟨w2.heap.size, 2, none⟩ = some (.slice none 0 0) := by rw [eW]; exact cell_else (by simp; omega) s2
        have K5 : Hid (Below w.heap.size w W5) := by unfold Hid; rw [eW]; exact K4.out.setCell (p := ⟨w3.heap.size, 1, none⟩) HW3.out _
        rw [← eW]
        have o0 := HT5.out.at_ 0
        have o1 := HT5.out.at_ 1
        have o2 := HT5.out.at_ 2
        simp at o0 o1 o2
        clear eW fz
        refine reg_below (by kernel_rfl) (by kernel_rfl) ?_
        intro T hT fw hf
        have x0 := hf.reads s0
        have x1 := hf.reads s1
        have x2 := hf.reads s2
        have y0 := hf.reads o0
        have y1 := hf.reads o1
        have y2 := hf.reads o2
        have HA := hid (fun t => hf.below (x := t) (MS.out.disc R (fw t) iR))
        have HB := hid (fun t => hf.below (x := t) (MS.out.discRound R (fw t) iR))
        have HA2 := hid (fun t => hf.below (x := t) (MS.out.disc (2 * R) (fw t) i2R))
        have HB2 := hid (fun t => hf.below (x := t) (MS.out.discRound (2 * R) (fw t) i2R))
        rw [EA.out] at HA
        rw [EB.out] at HB
        rw [EA2.out] at HA2
        rw [EB2.out] at HB2
        repeat (go_big_quiet_step ((first | (go_at_call 19; with_reducible exact hf.made (right_circle (2 * R) none 0 0 _ _ true (yes_iff hR.out))) | (go_at_call 16; with_reducible first | exact HA.out _ | exact HA2.out _) | (go_at_call 17; with_reducible first | exact HB.out _ | exact HB2.out _))))
        refine wpQuiet_nil ?_
        intro w6 h6
        have K6 : Hid (Below w.heap.size w w6) := K5.out.trans ((hf.here h6).mono K5.out.size)
        clear h6 hf
        go_wp2_with fail
        go_ret
        exact ⟨rfl, K6.out⟩
  · have n0 := gr.n0
    have n1 := gr.n1
    have hn0 : (n : Int) ≠ 0 := by omega
    have hnb : ((n : Int) == 0) = false := by simpa using hn0
    have TS := turned_sums gr rd t
    have TW := twice_sums (grid_turn gr t) (round_turn n0 n1 rd t)
    have GI := hid (grid_i64 gr)
    have su := grid_sum gr rd
    rw [← turned_eq] at TW
    have GS : ∀ i, i < n → (-17448304640 ≤ ((fun i => grid gx gy gk ((i + t) % n)) i).1 ∧ ((fun i => grid gx gy gk ((i + t) % n)) i).1 ≤ 17448304640) ∧ (-17448304640 ≤ ((fun i => grid gx gy gk ((i + t) % n)) i).2 ∧ ((fun i => grid gx gy gk ((i + t) % n)) i).2 ≤ 17448304640) := fun i hi => grid_small gr (Nat.mod_lt _ (by omega))
    obtain ⟨F, eF⟩ : ∃ F, grid gx gy gk = F := ⟨_, rfl⟩
    rw [eF] at TS TW GS GI su hrow
    obtain ⟨FA, eA⟩ : ∃ FA : Cs, (fun i => F ((i + t) % n)) = FA := ⟨_, rfl⟩
    rw [eA] at TS TW GS
    obtain ⟨A, hA⟩ : ∃ A, sumT areaT F n n = A := ⟨_, rfl⟩
    obtain ⟨B, hB⟩ : ∃ B, sumT roundT F n n = B := ⟨_, rfl⟩
    obtain ⟨A2, hA2⟩ : ∃ A, sumT areaT (twice FA) n n = A := ⟨_, rfl⟩
    obtain ⟨B2, hB2⟩ : ∃ B, sumT roundT (twice FA) n n = B := ⟨_, rfl⟩
    rw [hA, hB] at TS su
    rw [hA2, hB2, TS.1, TS.2] at TW
    have iA : I64 A := by rw [← hA]; exact sumT_i64 _ _ _ _
    have iB : I64 B := by rw [← hB]; exact sumT_i64 _ _ _ _
    have dA := less_no su.1
    have dB := less_no su.2.2
    have d3 : decide (A ≤ A2) = true := by simpa using TW.1
    have d4 : decide (B ≤ B2) = true := by simpa using TW.2
    have i0 : I64 0 := by unfold I64; omega
    have sA : A - A = 0 := by omega
    have sB : B - B = 0 := by omega
    have E0 := hid (show absF 0 = 0 by decide)
    have i2G : I64 8589934592 := by unfold I64; omega
    have IA : Hid (Cin FA n) := by rw [← eA]; exact fun i hi => GI.out _ (Nat.mod_lt _ (by omega))
    have IT : Hid (Cin (twice FA) n) := twice_i64 GS
    have HSA := hid hA
    have HSB := hid hB
    have HSA2 := hid hA2
    have HSB2 := hid hB2
    have HTS := hid TS
    have HGS := hid GS
    have EA := hid eA
    have RW := hid hrow
    have lg := hrow.here
    clear gr rd hg hrow eF eA hA hB hA2 hB2 TS TW GS su
    go_wp2_with fail
    obtain ⟨wS, eS⟩ : ∃ W, W = w2.alloc (.cells #[.int .i64 2, .int .i64 0, .slice (some ⟨g, 0, none⟩) n cap] 28) := ⟨_, rfl⟩
    have hS : Has wS w2.heap.size 28 #[.int .i64 2, .int .i64 0, .slice (some ⟨g, 0, none⟩) n cap] := by rw [eS]; exact has_new _ _ _
    have kS : Below w2.heap.size w2 wS := by rw [eS]; exact (Below.refl _ _).alloc (Nat.le_refl _) _
    have hR : Row wS g 34 n F := by rw [eS]; exact RW.out.more _
    rw [← eS]
    clear eS
    have l0 := hS.here
    have l2 : w.heap.size ≤ w2.heap.size := K2.out.size
    refine (copy_is 2 0 g 0 n cap F wS (by omega) n1 hR.pts).mono ?_
    rintro e w3 ⟨g2, c2, rfl, hg2, hrow2, k3⟩
    have hS := hS.below k3.1 hS.here
    have hR := hR.kept k3
    have KS : Hid (Below w.heap.size w w3) := (K2.out.trans (kS.mono K2.out.size)).trans (k3.1.mono (Nat.le_trans K2.out.size kS.size))
    have lb : w2.heap.size < g2 := by omega
    have b2 : w2.heap.size < w3.heap.size := hS.here
    have lo := hrow2.here
    have s0 := hS.at_ 0
    have s1 := hS.at_ 1
    have s2 := hS.at_ 2
    simp at s0 s1 s2
    have HS := hid hS
    have HR := hid hR
    have HO := hid hrow2
    clear hS hR hrow2 hg2 kS k3 K2 HW RW
    go_wp2_with fail
    obtain ⟨W0, eW⟩ : ∃ W, W = w3.alloc (.cells #[.int .i64 2, .int .i64 0, .slice (some ⟨g2, 0, none⟩) n c2] 28) := ⟨_, rfl⟩
    have S0 : Hid (Has W0 w2.heap.size 28 #[.int .i64 2, .int .i64 0, .slice (some ⟨g, 0, none⟩) n cap]) := by unfold Hid; rw [eW]; exact HS.out.more _
    have R0 : Hid (Row W0 g 34 n F) := by unfold Hid; rw [eW]; exact HR.out.more _
    have P0 : Hid (Row W0 g2 34 n (mixF F FA 0)) := by unfold Hid; rw [eW]; exact (HO.out.more _).congr fun i _ => by unfold mixF; rw [if_neg (by omega)]
    have O0 : Hid (Has W0 w3.heap.size 28 #[.int .i64 2, .int .i64 0, .slice (some ⟨g2, 0, none⟩) n c2]) := by unfold Hid; rw [eW]; exact has_new _ _ _
    have B0 : Hid (Below w.heap.size w W0) := by unfold Hid; rw [eW]; exact KS.out.alloc KS.out.size _
    have lw : w.heap.size ≤ g2 := by omega
    have lw3 : w.heap.size ≤ w3.heap.size := by omega
    rw [← eW]
    clear eW HS HR HO KS s0 s1 s2
    go_loopg [18] n (fun gg i wr => ∃ m : Nat, m + gg = n ∧ i = .int .i64 m ∧ Hid (Has wr w2.heap.size 28 #[.int .i64 2, .int .i64 0, .slice (some ⟨g, 0, none⟩) n cap]) ∧ Hid (Row wr g 34 n F) ∧ Hid (Row wr g2 34 n (mixF F FA m)) ∧ Hid (Has wr w3.heap.size 28 #[.int .i64 2, .int .i64 0, .slice (some ⟨g2, 0, none⟩) n c2]) ∧ Hid (Below w.heap.size w wr))
    case atStart => exact ⟨0, by omega, rfl, S0, R0, P0, O0, B0⟩
    case round =>
      obtain ⟨m, hm, rfl, HS, HR, HP, HO, HB⟩ := hrel
      clear S0 R0 P0 O0 B0
      by_cases hlt : m < n
      · have hj : (m + t) % n < n := Nat.mod_lt _ (by omega)
        obtain ⟨j, ej⟩ : ∃ j, (m + t) % n = j := ⟨_, rfl⟩
        rw [ej] at hj
        have i1 : ((m : Int) + (t : Int)).tmod (n : Int) = (j : Int) := by
          rw [Int.tmod_eq_emod_of_nonneg (by omega), ← ej, Int.natCast_emod, Int.natCast_add]
        have i2 : ((m : Int) + (t : Int)) % (n : Int) = (j : Int) := by rw [← ej, Int.natCast_emod, Int.natCast_add]
        obtain ⟨x, ex⟩ : ∃ x, (F j).1 = x := ⟨_, rfl⟩
        obtain ⟨y, ey⟩ : ∃ y, (F j).2 = y := ⟨_, rfl⟩
        have ax : Hid ((FA m).1 = x) := by unfold Hid; rw [← EA.out, ← ex, ← ej]
        have ay : Hid ((FA m).2 = y) := by unfold Hid; rw [← EA.out, ← ey, ← ej]
        obtain ⟨c0, c1⟩ := HR.out.pts j hj
        rw [ex, Nat.zero_add] at c0
        rw [ey, Nat.zero_add] at c1
        have s2 := HS.out.at_ 2
        have p2 := HO.out.at_ 2
        simp at s2 p2
        clear ej ex ey
        go_wp2_with fail
        refine reg_made_tail 16 (by kernel_rfl) (by kernel_rfl) ?_
        intro T hT fw hf
        have s2' := Class.reads hf s2
        have p2' := Class.reads hf p2
        have c0' := Class.reads hf c0
        have c1' := Class.reads hf c1
        simp only [List.take_succ_cons, List.take_zero, List.drop_succ_cons, List.drop_zero]
        repeat (go_big_quiet_step (fail))
        refine wpQuiet_nil ?_
        intro w4 h4
        have k4 := hf.here h4
        have HS4 : Hid (Has w4 w2.heap.size 28 #[.int .i64 2, .int .i64 0, .slice (some ⟨g, 0, none⟩) n cap]) := HS.out.stays k4 HS.out.here
        have HR4 : Hid (Row w4 g 34 n F) := HR.out.kept k4
        have HP4 : Hid (Row w4 g2 34 n (mixF F FA m)) := HP.out.kept k4
        have HO4 : Hid (Has w4 w3.heap.size 28 #[.int .i64 2, .int .i64 0, .slice (some ⟨g2, 0, none⟩) n c2]) := HO.out.stays k4 HO.out.here
        have HB4 : Hid (Below w.heap.size w w4) := HB.out.trans (k4.1.mono HB.out.size)
        obtain ⟨r0, r1⟩ := HP4.out.pts m hlt
        rw [Nat.zero_add] at r0 r1
        have fz : ∀ i, w4.frozen? ⟨g2, i, none⟩ = false := HP4.out.free
        clear k4 h4 hf s2' p2' c0' c1' c0 c1 s2 p2
        go_wp2_with fail
        go_roundg (n - m - 1)
        case rel =>
          exact ⟨m + 1, by omega, by go_num, (HS4.out.other ⟨g2, m * 2, none⟩ (by simp; omega) _).other ⟨g2, m * 2 + 1, none⟩ (by simp; omega) _, (HR4.out.other ⟨g2, m * 2, none⟩ (by simp; omega) _).other ⟨g2, m * 2 + 1, none⟩ (by simp; omega) _,
            (HP4.out.put hlt x y).congr fun i _ => mix_next F FA m ax.out ay.out i, (HO4.out.other ⟨g2, m * 2, none⟩ (by simp; omega) _).other ⟨g2, m * 2 + 1, none⟩ (by simp; omega) _, (HB4.out.setCell (p := ⟨g2, m * 2, none⟩) lw _).setCell (p := ⟨g2, m * 2 + 1, none⟩) lw _⟩
        case measure => omega
      · have e : m = n := by omega
        subst e
        have HP2 : Hid (Row wr g2 34 m FA) := HP.out.congr fun i hi => mix_all F FA m i hi
        have s0 := HS.out.at_ 0
        have s1 := HS.out.at_ 1
        have s2 := HS.out.at_ 2
        have o0 := HO.out.at_ 0
        have o1 := HO.out.at_ 1
        have o2 := HO.out.at_ 2
        simp at s0 s1 s2 o0 o1 o2
        clear HP
        have SS := says_poly (off := 0) (n := m) (cap := cap) (by omega) n1 HR.out.pts GI.out
        have SO := says_poly (off := 0) (n := m) (cap := c2) (by omega) n1 HP2.out.pts IA.out
        rw [HSA.out, HSB.out] at SS
        rw [HTS.out.1, HTS.out.2] at SO
        have SS := hid SS
        have SO := hid SO
        go_wp2_with fail
        refine reg_below (by kernel_rfl) (by kernel_rfl) ?_
        intro T hT fw hf
        have x0 := hf.reads s0
        have x1 := hf.reads s1
        have x2 := hf.reads s2
        have y0 := hf.reads o0
        have y1 := hf.reads o1
        have y2 := hf.reads o2
        have QA := hid (fun t => hf.below (x := t) (SS.out.area _ (hf.1 t)))
        have QB := hid (fun t => hf.below (x := t) (SS.out.round _ (hf.1 t)))
        have QC := hid (fun t => hf.below (x := t) (SO.out.area _ (hf.1 t)))
        have QD := hid (fun t => hf.below (x := t) (SO.out.round _ (hf.1 t)))
        repeat (go_big_quiet_step ((first | (go_at_call 16; with_reducible first | exact QA.out _ | exact QC.out _) | (go_at_call 17; with_reducible first | exact QB.out _ | exact QD.out _) | (go_at_call 15; with_reducible exact hf.same (abs_is _ _ _ i0 E0.out)))))
        refine wpQuiet_nil ?_
        intro w4 h4
        have k4 := hf.here h4
        have HS4 : Hid (Has w4 w2.heap.size 28 #[.int .i64 2, .int .i64 0, .slice (some ⟨g, 0, none⟩) m cap]) := HS.out.below k4 HS.out.here
        have HR4 : Hid (Row w4 g 34 m F) := HR.out.below k4 HR.out.here
        have HP4 : Hid (Row w4 g2 34 m (mixF FA (twice FA) 0)) := (HP2.out.below k4 HP2.out.here).congr fun i _ => by unfold mixF; rw [if_neg (by omega)]
        have HO4 : Hid (Has w4 w3.heap.size 28 #[.int .i64 2, .int .i64 0, .slice (some ⟨g2, 0, none⟩) m c2]) := HO.out.below k4 HO.out.here
        have HB4 : Hid (Below w.heap.size w w4) := HB.out.trans (k4.mono HB.out.size)
        have o2 := Below.reads k4 o2
        clear x0 x1 x2 y0 y1 y2 QA QB QC QD hf h4 k4 SS SO s0 s1 s2 o0 o1 HS HR HP2 HO HB
        go_wp2_with fail
        clear o2
        go_loopg [67] m (fun gg i wr => ∃ q : Nat, q + gg = m ∧ i = .int .i64 q ∧ Hid (Has wr w2.heap.size 28 #[.int .i64 2, .int .i64 0, .slice (some ⟨g, 0, none⟩) m cap]) ∧ Hid (Row wr g 34 m F) ∧ Hid (Row wr g2 34 m (mixF FA (twice FA) q)) ∧ Hid (Has wr w3.heap.size 28 #[.int .i64 2, .int .i64 0, .slice (some ⟨g2, 0, none⟩) m c2]) ∧ Hid (Below w.heap.size w wr))
        case atStart => exact ⟨0, by omega, rfl, HS4, HR4, HP4, HO4, HB4⟩
        case round =>
          obtain ⟨q, hq, rfl, HS, HR, HP, HO, HB⟩ := hrel
          clear HS4 HR4 HP4 HO4 HB4
          by_cases hlt : q < m
          · obtain ⟨x, ex⟩ : ∃ x, (FA q).1 = x := ⟨_, rfl⟩
            obtain ⟨y, ey⟩ : ∃ y, (FA q).2 = y := ⟨_, rfl⟩
            have ax : Hid ((twice FA q).1 = 2 * x) := by unfold Hid; rw [← ex]; rfl
            have ay : Hid ((twice FA q).2 = 2 * y) := by unfold Hid; rw [← ey]; rfl
            obtain ⟨c0, c1⟩ := HP.out.pts q hlt
            rw [show mixF FA (twice FA) q q = FA q by unfold mixF; rw [if_neg (by omega)], Nat.zero_add] at c0 c1
            rw [ex] at c0
            rw [ey] at c1
            obtain ⟨gx0, gy0⟩ := HGS.out q hlt
            rw [ex] at gx0
            rw [ey] at gy0
            obtain ⟨ix, iy⟩ := IA.out q hlt
            rw [ex] at ix
            rw [ey] at iy
            have EX := hid (scale_two gx0)
            have EY := hid (scale_two gy0)
            have o2 := HO.out.at_ 2
            simp at o2
            clear ex ey gx0 gy0
            go_wp2_with fail
            refine reg_made_tail 10 (by kernel_rfl) (by kernel_rfl) ?_
            intro T hT fw hf
            have o2' := Class.reads hf o2
            have c0' := Class.reads hf c0
            have c1' := Class.reads hf c1
            simp only [List.take_succ_cons, List.take_zero, List.drop_succ_cons, List.drop_zero]
            repeat (go_big_quiet_step ((go_at_call 18; with_reducible exact hf.made (vscale_is _ _ _ _ _ _ ix iy i2G EX.out EY.out))))
            refine wpQuiet_nil ?_
            intro w5 h5
            have k5 := hf.here h5
            have HS5 : Hid (Has w5 w2.heap.size 28 #[.int .i64 2, .int .i64 0, .slice (some ⟨g, 0, none⟩) m cap]) := HS.out.stays k5 HS.out.here
            have HR5 : Hid (Row w5 g 34 m F) := HR.out.kept k5
            have HP5 : Hid (Row w5 g2 34 m (mixF FA (twice FA) q)) := HP.out.kept k5
            have HO5 : Hid (Has w5 w3.heap.size 28 #[.int .i64 2, .int .i64 0, .slice (some ⟨g2, 0, none⟩) m c2]) := HO.out.stays k5 HO.out.here
            have HB5 : Hid (Below w.heap.size w w5) := HB.out.trans (k5.1.mono HB.out.size)
            obtain ⟨r0, r1⟩ := HP5.out.pts q hlt
            rw [Nat.zero_add] at r0 r1
            have fz : ∀ i, w5.frozen? ⟨g2, i, none⟩ = false := HP5.out.free
            clear k5 h5 hf o2' c0' c1' c0 c1 o2
            go_wp2_with fail
            go_roundg (m - q - 1)
            case rel =>
              exact ⟨q + 1, by omega, by go_num, (HS5.out.other ⟨g2, q * 2, none⟩ (by simp; omega) _).other ⟨g2, q * 2 + 1, none⟩ (by simp; omega) _, (HR5.out.other ⟨g2, q * 2, none⟩ (by simp; omega) _).other ⟨g2, q * 2 + 1, none⟩ (by simp; omega) _,
                (HP5.out.put hlt (2 * x) (2 * y)).congr fun i _ => mix_next FA (twice FA) q ax.out ay.out i, (HO5.out.other ⟨g2, q * 2, none⟩ (by simp; omega) _).other ⟨g2, q * 2 + 1, none⟩ (by simp; omega) _, (HB5.out.setCell (p := ⟨g2, q * 2, none⟩) lw _).setCell (p := ⟨g2, q * 2 + 1, none⟩) lw _⟩
            case measure => omega
          · have e : q = m := by omega
            subst e
            have HP2 : Hid (Row wr g2 34 q (twice FA)) := HP.out.congr fun i hi => mix_all FA (twice FA) q i hi
            have s0 := HS.out.at_ 0
            have s1 := HS.out.at_ 1
            have s2 := HS.out.at_ 2
            have o0 := HO.out.at_ 0
            have o1 := HO.out.at_ 1
            have o2 := HO.out.at_ 2
            have fz : ∀ i, wr.frozen? ⟨w3.heap.size, i, none⟩ = false := fun i => HO.out.free i
            simp at s0 s1 s2 o0 o1 o2
            clear HP
            go_wp2_with fail
            obtain ⟨W5, eW⟩ : ∃ W, W = wr.setCell ⟨w3.heap.size, 1, none⟩ (.int .i64 0) := ⟨_, rfl⟩
            have HS5 : Hid (Has W5 w2.heap.size 28 #[.int .i64 2, .int .i64 0, .slice (some ⟨g, 0, none⟩) q cap]) := by unfold Hid; rw [eW]; exact HS.out.other ⟨w3.heap.size, 1, none⟩ (by simp; omega) _
            have HR5 : Hid (Row W5 g 34 q F) := by unfold Hid; rw [eW]; exact HR.out.other ⟨w3.heap.size, 1, none⟩ (by simp; omega) _
            have HP5 : Hid (Row W5 g2 34 q (twice FA)) := by unfold Hid; rw [eW]; exact HP2.out.other ⟨w3.heap.size, 1, none⟩ (by simp; omega) _
            have HO5 : Hid (Has W5 w3.heap.size 28 #[.int .i64 2, .int .i64 0, .slice (some ⟨g2, 0, none⟩) q c2]) := by unfold Hid; rw [eW]; exact HO.out.put 1 _
            have HB5 : Hid (Below w.heap.size w W5) := by unfold Hid; rw [eW]; exact HB.out.setCell (p := ⟨w3.heap.size, 1, none⟩) lw3 _
            rw [← eW]
            clear eW fz s0 s1 s2 o0 o1 o2 HS HR HP2 HO HB
            have s0 := HS5.out.at_ 0
            have s1 := HS5.out.at_ 1
            have s2 := HS5.out.at_ 2
            have o0 := HO5.out.at_ 0
            have o1 := HO5.out.at_ 1
            have o2 := HO5.out.at_ 2
            simp at s0 s1 s2 o0 o1 o2
            have SS := says_poly (off := 0) (n := q) (cap := cap) (by omega) n1 HR5.out.pts GI.out
            have SO := says_poly (off := 0) (n := q) (cap := c2) (by omega) n1 HP5.out.pts IT.out
            rw [HSA.out, HSB.out] at SS
            rw [HSA2.out, HSB2.out] at SO
            have SS := hid SS
            have SO := hid SO
            by_cases hv : RightP 2 0 q (twice FA)
            · have HV := hid hv
              clear hv
              refine reg_below (by kernel_rfl) (by kernel_rfl) ?_
              intro T hT fw hf
              have x0 := hf.reads s0
              have x1 := hf.reads s1
              have x2 := hf.reads s2
              have y0 := hf.reads o0
              have y1 := hf.reads o1
              have y2 := hf.reads o2
              have KP : Hid (∀ x, Pts (fw x) g2 0 q (twice FA)) := fun x => (HP5.out.below (hf.1 x) HP5.out.here).pts
              have QA := hid (fun t => hf.below (x := t) (SS.out.area _ (hf.1 t)))
              have QB := hid (fun t => hf.below (x := t) (SS.out.round _ (hf.1 t)))
              have QC := hid (fun t => hf.below (x := t) (SO.out.area _ (hf.1 t)))
              have QD := hid (fun t => hf.below (x := t) (SO.out.round _ (hf.1 t)))
              repeat (go_big_quiet_step ((first | (go_at_call 19; with_reducible exact hf.made (right_poly g2 0 q c2 (twice FA) _ n0 n1 (KP.out _) IT.out true (yes_iff HV.out))) | (go_at_call 16; with_reducible first | exact QA.out _ | exact QC.out _) | (go_at_call 17; with_reducible first | exact QB.out _ | exact QD.out _))))
              refine wpQuiet_nil ?_
              intro w6 h6
              have K6 : Hid (Below w.heap.size w w6) := HB5.out.trans ((hf.here h6).mono HB5.out.size)
              clear h6 hf
              go_wp2_with fail
              go_ret
              exact ⟨rfl, K6.out⟩
            · have HV := hid hv
              clear hv
              refine reg_below (by kernel_rfl) (by kernel_rfl) ?_
              intro T hT fw hf
              have y0 := hf.reads o0
              have y1 := hf.reads o1
              have y2 := hf.reads o2
              have KP : Hid (∀ x, Pts (fw x) g2 0 q (twice FA)) := fun x => (HP5.out.below (hf.1 x) HP5.out.here).pts
              repeat (go_big_quiet_step ((go_at_call 19; with_reducible exact hf.made (right_poly g2 0 q c2 (twice FA) _ n0 n1 (KP.out _) IT.out false (no_iff HV.out)))))
              refine wpQuiet_nil ?_
              intro w6 h6
              have K6 : Hid (Below w.heap.size w w6) := HB5.out.trans ((hf.here h6).mono HB5.out.size)
              clear h6 hf
              go_wp2_with fail
              go_ret
              exact ⟨rfl, K6.out⟩
end Go.Proofs.Ytahbnbaldoblaaa.Fx
