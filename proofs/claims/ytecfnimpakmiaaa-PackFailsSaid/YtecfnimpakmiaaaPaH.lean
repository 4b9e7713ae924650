/- Layer 14: PackFails. -/
import Derived.Test.YtecfnimpakmiaaaPaD
namespace Go.Proofs.Ytecfnimpakmiaaa.Fx
open Go.ChangeShapes Go.WideShapes Go.ChangeAt Go.RowKit
set_option linter.unusedVariables false

theorem Rx.other {w : World} {pb : Nat} (h : Rx w pb) (p : Addr) (hp : p.block ≠ pb) (u : Value) : Rx (w.setCell p u) pb :=
  ⟨cell_else (Ne.symm hp) h.c0, cell_else (Ne.symm hp) h.c1, (World.frozen?_setCell _ _ _ _).trans h.z0, (World.frozen?_setCell _ _ _ _).trans h.z1⟩
theorem On1.put_new {X : Nat} {a w : World} (h : On1 X a w) (p : Addr) (hp : a.heap.size ≤ p.block) (u : Value) : On1 X a (w.setCell p u) := by
  have e : (w.setCell p u).heap.size = w.heap.size := by simp [World.setCell]
  exact ⟨h.os, h.tape, h.output, Nat.le_trans h.size (Nat.le_of_eq e.symm), fun b hb hx => (Below.heap_setCell w p u b (by omega)).trans (h.block b hb hx), fun x => (World.frozen?_setCell _ _ _ _).trans (h.marks x)⟩
set_option maxRecDepth 100000 in
set_option maxHeartbeats 2000000 in
theorem rfx_c {pb : Nat} {w : World} (h : Rx w pb) :
    Calls Try.prog 20 #[.pointer (some ⟨pb, 0, none⟩)] w fun e w' => e = .returned (.int .i64 0) ∧ Rx w' pb ∧ On1 pb w w' := by
  have H := hid (rnumx_c (m := 8) h (by omega))
  clear h
  go_enter Try.func20, Try.ntmps20
  go_wp2_with fail
  refine H.out.mono ?_
  rintro e w1 ⟨rfl, hx, ho⟩
  have HX := hid hx; have HO := hid ho
  clear hx ho
  go_wp2_with fail
  go_ret
  exact ⟨rfl, HX.out, HO.out⟩
set_option maxRecDepth 100000 in
set_option maxHeartbeats 2000000 in
theorem rvx_c {pb : Nat} {w : World} (h : Rx w pb) :
    Calls Try.prog 12 #[.pointer (some ⟨pb, 0, none⟩)] w fun e w' => e = .returned (.agg #[.int .i64 0, .int .i64 0]) ∧ Rx w' pb ∧ On1 pb w w' := by
  have hpb := h.here
  have M1 : Made w.heap.size w (w.alloc (.cells #[Value.int .i64 0, Value.int .i64 0] 30)) := (Made.rfl_ _ _).cells (Nat.le_refl _) _ _
  have O1 : Hid (On1 pb w (w.alloc (.cells #[Value.int .i64 0, Value.int .i64 0] 30))) := M1.on1
  have H := hid (rfx_c (h.kept M1))
  have r0 : (w.alloc (.cells #[Value.int .i64 0, Value.int .i64 0] 30)).cell? ⟨w.heap.size, 0, none⟩ = some (.int .i64 0) := (has_new w _ _).at_ 0
  have r1 : (w.alloc (.cells #[Value.int .i64 0, Value.int .i64 0] 30)).cell? ⟨w.heap.size, 1, none⟩ = some (.int .i64 0) := (has_new w _ _).at_ 1
  have f0 : (w.alloc (.cells #[Value.int .i64 0, Value.int .i64 0] 30)).frozen? ⟨w.heap.size, 0, none⟩ = false := (has_new w _ _).free 0
  have f1 : (w.alloc (.cells #[Value.int .i64 0, Value.int .i64 0] 30)).frozen? ⟨w.heap.size, 1, none⟩ = false := (has_new w _ _).free 1
  obtain ⟨g, eg⟩ : ∃ g, w.heap.size = g := ⟨_, rfl⟩
  rw [eg] at r0 r1 f0 f1 hpb
  have EG := hid eg
  clear h M1
  go_enter Try.func12, Try.ntmps12
  go_wp2_with fail
  refine H.out.mono ?_
  rintro e w1 ⟨rfl, hx, ho⟩
  have H2 := hid (rfx_c hx)
  have HO := hid (O1.out.then_ ho)
  have r0 := ho.cell r0 (by show g ≠ pb; omega)
  have r1 := ho.cell r1 (by show g ≠ pb; omega)
  have f0 := (ho.marks _).trans f0
  have f1 := (ho.marks _).trans f1
  clear hx ho H O1
  go_wp2_with fail
  refine H2.out.mono ?_
  rintro e w2 ⟨rfl, hx, ho⟩
  have HX := hid hx
  have HO2 := hid (HO.out.then_ ho)
  have r0 := ho.cell r0 (by show g ≠ pb; omega)
  have r1 := ho.cell r1 (by show g ≠ pb; omega)
  have f0 := (ho.marks _).trans f0
  have f1 := (ho.marks _).trans f1
  clear hx ho H2 HO
  have hg2 := World.block_lt_of_cell? (a := ⟨g, 0, none⟩) w2 r0
  have M3 : Made w2.heap.size w2 (w2.alloc (.cells #[Value.int .i64 0, Value.int .i64 0] 30)) := (Made.rfl_ _ _).cells (Nat.le_refl _) _ _
  have H4 := hid (rbadx_c (HX.out.kept M3))
  have HX3 := hid (HX.out.kept M3)
  have HO3 : Hid (On1 pb w (w2.alloc (.cells #[Value.int .i64 0, Value.int .i64 0] 30))) := HO2.out.then_ M3.on1
  clear M3 HX HO2
  go_upto_region 2 with fail
  obtain ⟨W, eW⟩ : ∃ W, W = w2.alloc (.cells #[Value.int .i64 0, Value.int .i64 0] 30) := ⟨_, rfl⟩
  have r0 : W.cell? ⟨g, 0, none⟩ = some (.int .i64 0) := by rw [eW]; exact cell_more r0
  have r1 : W.cell? ⟨g, 1, none⟩ = some (.int .i64 0) := by rw [eW]; exact cell_more r1
  have f0 : W.frozen? ⟨g, 0, none⟩ = false := by rw [eW]; exact (((Made.rfl_ w2.heap.size w2).cells (Nat.le_refl _) _ _).2 _).trans f0
  have f1 : W.frozen? ⟨g, 1, none⟩ = false := by rw [eW]; exact (((Made.rfl_ w2.heap.size w2).cells (Nat.le_refl _) _ _).2 _).trans f1
  have hgw := World.block_lt_of_cell? (a := ⟨g, 0, none⟩) W r0
  rw [← eW] at H4 HX3 HO3 ⊢
  clear eW
  go_wp2_with fail
  refine H4.out.mono ?_
  rintro e w4 ⟨rfl, rfl⟩
  go_wp2_with fail
  have s0 : (W.setCell ⟨g, 0, none⟩ (.int .i64 0)).cell? ⟨g, 0, none⟩ = some (.int .i64 0) := by go_simp
  have s1 : ((W.setCell ⟨g, 0, none⟩ (.int .i64 0)).setCell ⟨g, 1, none⟩ (.int .i64 0)).cell? ⟨g, 1, none⟩ = some (.int .i64 0) := by go_simp
  refine bodyPost_ret (v := .agg #[.int .i64 0, .int .i64 0]) (by simp [results, Try.results12, go_sem, s0, s1]) rfl ⟨rfl, ?_, ?_⟩
  · exact (HX3.out.other ⟨g, 0, none⟩ (by show g ≠ pb; omega) _).other ⟨g, 1, none⟩ (by show g ≠ pb; omega) _
  · have h1 := HO3.out.put_new ⟨g, 0, none⟩ (by rw [EG.out]; exact Nat.le_refl g) (.int .i64 0)
    exact h1.put_new ⟨g, 1, none⟩ (by rw [EG.out]; exact Nat.le_refl g) (.int .i64 0)
theorem and7_8 {x : Nat} (hx : x < 256) : bits .and .u8 (x : Int) 7 = ((x % 8 : Nat) : Int) := by
  have := u8_and_nat x 7 hx (by omega)
  rw [show ((7 : Nat) : Int) = 7 from rfl] at this
  rw [this, show (7 : Nat) = 2 ^ 3 - 1 from rfl, Nat.and_two_pow_sub_one_eq_mod]
set_option maxRecDepth 100000 in
set_option maxHeartbeats 8000000 in
theorem pfails_walk {n c m d : Nat} {oa ob : Option Addr} {f h : Nat → Nat} {w : World} (hA : ByIn w oa n c f) (hB : ByIn w ob m d h) :
    Calls Try.prog 3 #[.slice oa n c, .slice ob m d] w fun e w' => e = .returned (.bool true) ∧ Made w.heap.size w w' := by
  obtain ⟨hA, hf, hnc, hn⟩ := hA
  obtain ⟨hB, hh, hnc2, hn2⟩ := hB
  have HA := hid hA; have HF := hid hf
  have HB := hid hB; have HH := hid hh
  clear hA hf hnc hB hh hnc2
  go_enter Try.func3, Try.ntmps3
  go_wp2_with fail
  refine pfit_c.mono ?_
  rintro e w1 ⟨rfl, hM⟩
  have HM := hid hM
  have HA1 := hid (HA.out.kept hM)
  have HB1 := hid (HB.out.kept hM)
  clear hM HA HB
  by_cases hl1 : n > 200
  · go_wp2_with fail
    go_ret
    exact ⟨rfl, HM.out⟩
  by_cases hl2 : m > 60
  · go_wp2_with fail
    go_ret
    exact ⟨rfl, HM.out⟩
  go_wp2_with fail
  refine (pnew_c HA1.out (by omega)).mono ?_
  rintro e w2 ⟨PB, ao2, c2, rfl, hp, hR, hM⟩
  obtain ⟨B0, eB0⟩ : ∃ B, w1.heap.size = B := ⟨_, rfl⟩
  rw [eB0] at hp hM
  have HM2 := hid hM
  have HP := hid hp
  have HR := hid hR
  have HAA : Hid (∀ u, Made B0 w1 u → By u oa n f) := fun u k => HA1.out.kept (by rw [eB0]; exact k)
  have HBB : Hid (∀ u, Made B0 w1 u → By u ob m h) := fun u k => HB1.out.kept (by rw [eB0]; exact k)
  have HW1 : Hid (w.heap.size ≤ B0) := by rw [← eB0]; exact HM.out.1.size
  clear hp hR hM eB0 HA1 HB1
  have HS2 := hid HM2.out.1.size
  have HBS : Hid (∀ u, Made B0 w1 u → PB < u.heap.size → B0 ≤ u.heap.size) := fun u k hu => by have := HP.out; omega
  have hl1' : ¬ 200 < n := by omega
  have hl2' : ¬ 60 < m := by omega
  go_wp2_with fail
  go_loopg [6, 7, 28] m (fun g at_ bad i wx => ∃ k A : Nat, k + g = m ∧ i = .int .i64 (k : Nat) ∧ at_ = .int .i64 (A : Nat) ∧ A ≤ n ∧ (∃ q, bad = .bool q ∧ Hid (if q = true then Rx wx PB else ∃ ao c, Re wx PB ao (n - A) c fun i => f (A + i))) ∧ Hid (Made B0 w1 wx))
  case atStart =>
    refine ⟨0, 0, by omega, by first | rfl | trivial, rfl, Nat.zero_le _, ⟨false, rfl, ?_⟩, HM2.out⟩
    unfold Hid
    rw [if_neg (by decide)]
    refine ⟨ao2, c2, ?_⟩
    have := HR.out
    rw [show (fun i => f (0 + i)) = f from funext fun i => by rw [Nat.zero_add], Nat.sub_zero]
    exact this
  case round =>
    obtain ⟨k, A, hk, rfl, rfl, hAn, ⟨q, rfl, HQ⟩, HM3⟩ := hrel
    by_cases hlt : k < m
    · obtain ⟨b, off, rfl, hc⟩ := (HBB.out wr HM3.out) (by omega)
      have c0 := hc k hlt
      obtain ⟨x, ex⟩ : ∃ x, h k = x := ⟨_, rfl⟩
      have lx : x < 256 := by rw [← ex]; exact HH.out k
      rw [ex] at c0
      have a7 := and7_8 lx
      obtain ⟨y, ey⟩ : ∃ y, x % 8 = y := ⟨_, rfl⟩
      rw [ey] at a7
      obtain ⟨N, eN⟩ : ∃ N, 1 + y = N := ⟨_, rfl⟩
      have eN2 : (1 : Int) + (y : Int) = (N : Int) := by omega
      have lN : N ≤ 8 := by omega
      have gN : 0 < N := by omega
      clear hc ex ey eN
      cases q with
      | true =>
        have HX : Hid (Rx wr PB) := by have := HQ.out; rwa [if_pos rfl] at this
        clear HQ
        go_wp2_with fail
        refine (rnumx_c (m := N) HX.out lN).mono ?_
        rintro e w4 ⟨rfl, hx, ho⟩
        have HX4 := hid hx
        have HM4 := hid (On1.made_ HM3.out ho (HBS.out _ HM3.out HX.out.here) HP.out)
        clear hx ho
        go_wp2_with fail
        refine (rbadx_c HX4.out).mono ?_
        rintro e w5 ⟨rfl, rfl⟩
        go_wp2_with fail
        refine (rleftx_c HX4.out).mono ?_
        rintro e w5 ⟨rfl, rfl⟩
        go_wp2_with fail
        refine (rdonex_c HX4.out).mono ?_
        rintro e w5 ⟨rfl, rfl⟩
        go_wp2_with fail
        refine (rvx_c HX4.out).mono ?_
        rintro e w6 ⟨rfl, hx, ho⟩
        have HX6 := hid hx
        have HM6 := hid (On1.made_ HM4.out ho (HBS.out _ HM4.out HX4.out.here) HP.out)
        clear hx ho
        go_wp2_with fail
        go_roundg (m - k - 1)
        case rel => exact ⟨k + 1, A, by omega, by go_num, rfl, by omega, ⟨true, rfl, by unfold Hid; rw [if_pos rfl]; exact HX6.out⟩, HM6.out⟩
        case measure => omega
      | false =>
        have HRR : Hid (∃ ao c, Re wr PB ao (n - A) c fun i => f (A + i)) := by have := HQ.out; rwa [if_neg (by decide)] at this
        clear HQ
        obtain ⟨L, eL⟩ : ∃ L, n - A = L := ⟨_, rfl⟩
        have eL2 : (n : Int) - (A : Int) = (L : Int) := by omega
        rw [eL] at HRR
        obtain ⟨ao3, c3, hR3⟩ := HRR.out
        have HR3 := hid hR3
        clear hR3 HRR
        by_cases hs : L < N
        · have d1 : decide (L < N) = true := decide_eq_true hs
          have HC := hid (rnums_c (m := N) HR3.out lN hs)
          go_wp2_with fail
          refine HC.out.mono ?_
          rintro e w4 ⟨rfl, hx, ho⟩
          have HX4 := hid hx
          have HM4 := hid (On1.made_ HM3.out ho (HBS.out _ HM3.out HR3.out.here) HP.out)
          clear hx ho HC
          go_wp2_with fail
          refine (rbadx_c HX4.out).mono ?_
          rintro e w5 ⟨rfl, rfl⟩
          go_wp2_with fail
          refine (rleftx_c HX4.out).mono ?_
          rintro e w5 ⟨rfl, rfl⟩
          go_wp2_with fail
          refine (rdonex_c HX4.out).mono ?_
          rintro e w5 ⟨rfl, rfl⟩
          go_wp2_with fail
          refine (rvx_c HX4.out).mono ?_
          rintro e w6 ⟨rfl, hx, ho⟩
          have HX6 := hid hx
          have HM6 := hid (On1.made_ HM4.out ho (HBS.out _ HM4.out HX4.out.here) HP.out)
          clear hx ho
          go_wp2_with fail
          go_roundg (m - k - 1)
          case rel => exact ⟨k + 1, A, by omega, by go_num, rfl, by omega, ⟨true, rfl, by unfold Hid; rw [if_pos rfl]; exact HX6.out⟩, HM6.out⟩
          case measure => omega
        · have d1 : decide (L < N) = false := decide_eq_false hs
          have HC := hid (rnum_c (m := N) HR3.out (fun i => HF.out (A + i)) lN gN (by omega))
          obtain ⟨V, eV⟩ : ∃ V, valI (fun i => f (A + i)) N = V := ⟨_, rfl⟩
          rw [eV] at HC
          have EV := hid eV
          clear eV
          go_wp2_with fail
          refine HC.out.mono ?_
          rintro e w4 ⟨rfl, ⟨ao4, c4, hR4⟩, ho⟩
          obtain ⟨L2, eL3⟩ : ∃ L2, L - N = L2 := ⟨_, rfl⟩
          obtain ⟨A2, eA2⟩ : ∃ A2, A + N = A2 := ⟨_, rfl⟩
          have eA3 : (A : Int) + (N : Int) = (A2 : Int) := by omega
          have eL4 : (n : Int) - (A2 : Int) = (L2 : Int) := by omega
          have HR4 : Hid (Re w4 PB ao4 L2 c4 fun i => f (A2 + i)) := by
            have h4 := hR4
            rw [eL3] at h4
            have : (fun i => f (A2 + i)) = fun i => f (A + (N + i)) := funext fun i => by rw [← eA2, Nat.add_assoc]
            unfold Hid
            rw [this]
            exact h4
          have HM4 := hid (On1.made_ HM3.out ho (HBS.out _ HM3.out HR3.out.here) HP.out)
          clear hR4 ho HC
          go_wp2_with fail
          go_loopg [12, 72] N (fun g wv i wx => ∃ j : Nat, j + g = N ∧ i = .int .i64 (j : Nat) ∧ wv = .int .i64 (valI (fun i => f (A + i)) j) ∧ Hid (w4 = wx))
          case atStart => exact ⟨0, by omega, by first | rfl | trivial, rfl, rfl⟩
          case round =>
            obtain ⟨j, hj, rfl, rfl, HW⟩ := hrel
            have hW := HW.out
            subst hW
            obtain ⟨r, er⟩ : ∃ r, valI (fun i => f (A + i)) j = r := ⟨_, rfl⟩
            rw [er]
            by_cases hjN : j < N
            · obtain ⟨b2, off2, rfl, hc⟩ := (HAA.out w4 HM4.out) (by omega)
              obtain ⟨P, eP⟩ : ∃ P, A + j = P := ⟨_, rfl⟩
              have eP2 : (A : Int) + (j : Int) = (P : Int) := by omega
              have c5 := hc P (by omega)
              have lP : P < n := by omega
              obtain ⟨x5, ex⟩ : ∃ x, f P = x := ⟨_, rfl⟩
              rw [ex] at c5
              have HN : Hid (valI (fun i => f (A + i)) (j + 1) = bits .or .i64 r (wrap64 ((x5 : Int) * 2 ^ (8 * j)))) := by
                unfold Hid
                show bits .or .i64 (valI (fun i => f (A + i)) j) (wrap64 ((f (A + j) : Int) * 2 ^ (8 * j))) = _
                rw [er, eP, ex]
              have lx5 : x5 < 256 := by rw [← ex]; exact HF.out P
              clear er ex hc eP
              go_wp2_with fail
              go_roundg (N - j - 1)
              case rel => exact ⟨j + 1, by omega, by go_num, by rw [HN.out], rfl⟩
              case measure => omega
            · have e : j = N := by omega
              subst e
              have hrV : r = V := by rw [← er]; exact EV.out
              subst hrV
              have hrr : (r != r) = false := by simp
              have hll : ((L2 : Int) != (L2 : Int)) = false := by simp
              clear er
              go_wp2_with fail
              refine (rbad_c HR4.out).mono ?_
              rintro e w5 ⟨rfl, rfl⟩
              go_wp2_with fail
              refine (rleft_c HR4.out).mono ?_
              rintro e w5 ⟨rfl, rfl⟩
              go_wp2_with fail
              refine (rdone_c HR4.out).mono ?_
              rintro e w5 ⟨rfl, rfl⟩
              by_cases hz : L2 = 0
              · have eN3 : ((A2 : Int) == (n : Int)) = true := by rw [beq_iff_eq]; omega
                rw [decide_eq_true hz]
                go_wp2_with fail
                go_roundg (m - k - 1)
                case rel => exact ⟨k + 1, A2, by omega, by go_num, by go_num, by omega, ⟨false, rfl, by unfold Hid; rw [if_neg (by decide)]; exact ⟨_, _, by rw [show n - A2 = L2 by omega]; exact HR4.out⟩⟩, HM4.out⟩
                case measure => omega
              · have eN3 : ((A2 : Int) == (n : Int)) = false := by rw [beq_eq_false_iff_ne]; omega
                rw [decide_eq_false hz]
                go_wp2_with fail
                go_roundg (m - k - 1)
                case rel => exact ⟨k + 1, A2, by omega, by go_num, by go_num, by omega, ⟨false, rfl, by unfold Hid; rw [if_neg (by decide)]; exact ⟨_, _, by rw [show n - A2 = L2 by omega]; exact HR4.out⟩⟩, HM4.out⟩
                case measure => omega
    · have e : k = m := by omega
      subst e
      cases q with
      | true =>
        have HX : Hid (Rx wr PB) := by have := HQ.out; rwa [if_pos rfl] at this
        clear HQ
        go_wp2_with fail
        refine (rfailx_c HX.out).mono ?_
        rintro e w4 ⟨rfl, hx, ho⟩
        have HX4 := hid hx
        have HM4 := hid (On1.made_ HM3.out ho (HBS.out _ HM3.out HX.out.here) HP.out)
        clear hx ho
        go_wp2_with fail
        refine (rbadx_c HX4.out).mono ?_
        rintro e w5 ⟨rfl, rfl⟩
        go_wp2_with fail
        refine (rnumx_c (m := 1) HX4.out (by omega)).mono ?_
        rintro e w6 ⟨rfl, hx, ho⟩
        have HX6 := hid hx
        have HM6 := hid (On1.made_ HM4.out ho (HBS.out _ HM4.out HX4.out.here) HP.out)
        clear hx ho
        go_wp2_with fail
        refine (rdonex_c HX6.out).mono ?_
        rintro e w7 ⟨rfl, rfl⟩
        go_wp2_with fail
        go_ret
        exact ⟨rfl, HM.out.then_ (HM6.out.low HW1.out)⟩
      | false =>
        have HRR : Hid (∃ ao c, Re wr PB ao (n - A) c fun i => f (A + i)) := by have := HQ.out; rwa [if_neg (by decide)] at this
        clear HQ
        obtain ⟨ao3, c3, hR3⟩ := HRR.out
        have HR3 := hid hR3
        clear hR3 HRR
        go_wp2_with fail
        refine (rfail_c HR3.out).mono ?_
        rintro e w4 ⟨rfl, hx, ho⟩
        have HX4 := hid hx
        have HM4 := hid (On1.made_ HM3.out ho (HBS.out _ HM3.out HR3.out.here) HP.out)
        clear hx ho
        go_wp2_with fail
        refine (rbadx_c HX4.out).mono ?_
        rintro e w5 ⟨rfl, rfl⟩
        go_wp2_with fail
        refine (rnumx_c (m := 1) HX4.out (by omega)).mono ?_
        rintro e w6 ⟨rfl, hx, ho⟩
        have HX6 := hid hx
        have HM6 := hid (On1.made_ HM4.out ho (HBS.out _ HM4.out HX4.out.here) HP.out)
        clear hx ho
        go_wp2_with fail
        refine (rdonex_c HX6.out).mono ?_
        rintro e w7 ⟨rfl, rfl⟩
        go_wp2_with fail
        go_ret
        exact ⟨rfl, HM.out.then_ (HM6.out.low HW1.out)⟩
end Go.Proofs.Ytecfnimpakmiaaa.Fx
