/- ShapeNormals: the walk. -/
import Derived.Test.YtekcehhoimhjeaaShapeH
import Derived.Deep.DeepCutAuto
namespace Go.Proofs.Ytekcehhoimhjeaa.Fx
open Go.ChangeShapes Go.WideShapes Go.ChangeAt Go.RowKit
set_option linter.unusedVariables false

theorem unitV_at {a b n p q : Int} (hn : lenF a b = n) (h : n ≠ 0) (hp : divF a n = p) (hq : divF b n = q) : unitV a b = .tuple #[vecV p q, .bool true] := unitV_of hn h hp hq
set_option maxRecDepth 100000 in
set_option maxHeartbeats 8000000 in
theorem snormals_walk (a b c d : Int) (w : World) :
    Calls Try.prog 5 #[seedV a b c d] w fun e w' => e = .returned (.bool true) ∧ Made w.heap.size w w' := by
  go_enter Try.func5, Try.ntmps5
  go_wp2_with fail
  refine (sfit_c _).mono ?_
  rintro e w1 ⟨rfl, k1⟩
  have y0 := k1.reads (p := ⟨w.heap.size, 0, none⟩) (x := .int .i64 a) (by go_simp)
  have y1 := k1.reads (p := ⟨w.heap.size, 1, none⟩) (x := .int .i64 b) (by go_simp)
  have y2 := k1.reads (p := ⟨w.heap.size, 2, none⟩) (x := .int .i64 c) (by go_simp)
  have y3 := k1.reads (p := ⟨w.heap.size, 3, none⟩) (x := .int .i64 d) (by go_simp)
  have M1 := hid (made_box k1)
  clear k1
  go_wp2_with fail
  refine (seed_is a b c d _).mono ?_
  rintro e w2 ⟨h, k2⟩
  have M2 : Hid (Made w.heap.size w w2) := M1.out.then_ (k2.low M1.out.1.size)
  clear k2 y0 y1 y2 y3
  rcases h with ⟨R, R0, R1, rfl⟩ | ⟨g, cap, n, gx, gy, gk, gr, rfl, hg, hrow⟩
  · go_wp2_with fail
    refine (normals_none _).mono ?_
    rintro e w3 ⟨g3, rfl, k3⟩
    have s2 := k3.reads (p := ⟨w2.heap.size, 2, none⟩) (x := .slice none 0 0) (by go_simp)
    have M3 : Hid (Made w.heap.size w w3) := M2.out.then_ (made_box k3 |>.low M2.out.1.size)
    clear k3
    go_wp2_with fail
    go_loopg [28] 0 (fun g i wr => i = .int .i64 0 ∧ Hid (Made w3.heap.size w3 wr))
    case atStart => exact ⟨rfl, Made.rfl_ _ _⟩
    case round =>
      obtain ⟨rfl, HM⟩ := hrel
      go_wp2_with fail
      refine (normals_none _).mono ?_
      rintro e w6 ⟨g6, rfl, k6⟩
      have M6 : Hid (Made w.heap.size w w6) := M3.out.then_ ((HM.out.then_ (k6.low HM.out.1.size)).low M3.out.1.size)
      clear k6
      go_wp2_with fail
      go_ret
      exact ⟨rfl, M6.out⟩
  · have GR := hid gr
    have GI := hid (grid_i64 gr)
    have n0 := gr.n0
    have n1 := gr.n1
    have hn0 : (n : Int) ≠ 0 := by omega
    have RW := hid hrow
    have hgs := hrow.here
    obtain ⟨F, eF⟩ : ∃ F, grid gx gy gk = F := ⟨_, rfl⟩
    have NR : Hid (∀ i, i < n → ∀ dx dy, subF (F ((i + 1) % n)).1 (F i).1 = dx → subF (F ((i + 1) % n)).2 (F i).2 = dy →
      (-68719476736 ≤ dx ∧ dx ≤ 68719476736) ∧ (-68719476736 ≤ dy ∧ dy ≤ 68719476736) ∧ lenF dy (-dx) ≠ 0 ∧ normF F n i = (divF dy (lenF dy (-dx)), divF (-dx) (lenF dy (-dx))) ∧
      ∀ j, j < n → addF (mulF (divF dy (lenF dy (-dx))) (subF (F j).1 (F i).1)) (mulF (divF (-dx) (lenF dy (-dx))) (subF (F j).2 (F i).2)) ≤ 4294967) := by
      unfold Hid; rw [← eF]; exact fun i hi dx dy ex ey => grid_norm gr hi ex ey
    rw [eF] at RW GI
    clear gr GR hg hrow eF
    go_wp2_with fail
    refine (normals_is g 0 n cap F _ (by omega) n1 (RW.out.more _).pts GI.out).mono ?_
    rintro e w3 ⟨g3, rfl, _, hrow3, k3⟩
    have s2 := k3.reads (p := ⟨w2.heap.size, 2, none⟩) (x := .slice (some ⟨g, 0, none⟩) n cap) (by go_simp)
    have M3 : Hid (Made w.heap.size w w3) := M2.out.then_ (made_box k3 |>.low M2.out.1.size)
    have Q3 : Hid (Pts w3 g 0 n F) := ((RW.out.more _).kept k3).pts
    have P3 := hid hrow3.pts
    have S2 := hid s2
    clear k3 hrow3
    go_wp2_with fail
    clear s2
    go_loopg [28] n (fun gg i wr => ∃ m : Nat, m + gg = n ∧ i = .int .i64 m ∧ Hid (Made w3.heap.size w3 wr))
    case atStart => exact ⟨0, by omega, rfl, Made.rfl_ _ _⟩
    case round =>
      obtain ⟨m, hm, rfl, HM⟩ := hrel
      have s2 := HM.out.reads S2.out
      by_cases hlt : m < n
      · obtain ⟨x, ex⟩ : ∃ x, (F m).1 = x := ⟨_, rfl⟩
        obtain ⟨y, ey⟩ : ∃ y, (F m).2 = y := ⟨_, rfl⟩
        obtain ⟨ix, iy⟩ := GI.out m hlt
        obtain ⟨c0, c1⟩ := Q3.out m hlt
        obtain ⟨d0, d1⟩ := P3.out m hlt
        rw [ex] at ix c0
        rw [ey] at iy c1
        rw [Nat.zero_add] at c0 c1 d0 d1
        have c0 := HM.out.reads c0
        have c1 := HM.out.reads c1
        have d0 := HM.out.reads d0
        have d1 := HM.out.reads d1
        have hl : (m + 1) % n < n := Nat.mod_lt _ (by omega)
        obtain ⟨l, el⟩ : ∃ l, (m + 1) % n = l := ⟨_, rfl⟩
        have hm1 : ((m : Int) + 1).tmod (n : Int) = (l : Int) := by
          rw [Int.tmod_eq_emod_of_nonneg (by omega), ← el, Int.natCast_emod, Int.natCast_add]; rfl
        have hm2 : ((m : Int) + 1) % (n : Int) = (l : Int) := by
          rw [← el, Int.natCast_emod, Int.natCast_add]; rfl
        obtain ⟨x', ex'⟩ : ∃ x, (F l).1 = x := ⟨_, rfl⟩
        obtain ⟨y', ey'⟩ : ∃ y, (F l).2 = y := ⟨_, rfl⟩
        obtain ⟨dx, edx⟩ : ∃ dx, subF x' x = dx := ⟨_, rfl⟩
        obtain ⟨dy, edy⟩ : ∃ dy, subF y' y = dy := ⟨_, rfl⟩
        have nr := NR.out m hlt dx dy (by rw [el, ex', ex]; exact edx) (by rw [el, ey', ey]; exact edy)
        rw [el] at hl
        obtain ⟨ix', iy'⟩ := GI.out l hl
        obtain ⟨b0, b1⟩ := Q3.out l hl
        rw [ex'] at ix' b0
        rw [ey'] at iy' b1
        rw [Nat.zero_add] at b0 b1
        have b0 := HM.out.reads b0
        have b1 := HM.out.reads b1
        obtain ⟨⟨dx0, dx1⟩, ⟨dy0, dy1⟩, nz, nf, dots⟩ := nr
        obtain ⟨N, eN⟩ : ∃ N, lenF dy (-dx) = N := ⟨_, rfl⟩
        rw [eN] at nz nf dots
        obtain ⟨p, ep⟩ : ∃ p, divF dy N = p := ⟨_, rfl⟩
        obtain ⟨q, eq⟩ : ∃ q, divF (-dx) N = q := ⟨_, rfl⟩
        rw [ep, eq] at nf dots
        rw [nf] at d0 d1
        have eu := unitV_of eN nz ep eq
        have idx : I64 dx := by unfold I64; omega
        have indx : I64 (-dx) := by unfold I64; omega
        have idy : I64 dy := by unfold I64; omega
        have ip : I64 p := by rw [← ep]; exact i64_div _ _
        have iq : I64 q := by rw [← eq]; exact i64_div _ _
        have DOT : Hid (∀ j, j < n → addF (mulF p (subF (F j).1 x)) (mulF q (subF (F j).2 y)) ≤ 4294967) := by
          unfold Hid
          intro j hj
          have := dots j hj
          rw [ex, ey] at this
          exact this
        have EDX := hid edx; have EDY := hid edy; have EU := hid eu
        have hgb : g < wr.heap.size := World.block_lt_of_cell? _ _ c0
        have hgb3 : g3 < wr.heap.size := World.block_lt_of_cell? _ _ d0
        have h2b : w2.heap.size < wr.heap.size := World.block_lt_of_cell? _ _ s2
        clear el ex' ey' edx edy ep eq eu eN nf dots ex ey nz
        go_wp2_with fail
        refine reg_float1 12 83 7 33 #[.int .i64 0, .int .i64 0] _ (by kernel_rfl) (by kernel_rfl) (by kernel_rfl) rfl rfl alc_V ?_
        apply Exists.intro
        refine ⟨?h1, ?h2⟩
        case h1 =>
          intro T hT fw hf
          have a0 := Class.reads hf (p := ⟨wr.heap.size, 0, none⟩) (u := .int .i64 x) (by go_simp)
          have a1 := Class.reads hf (p := ⟨wr.heap.size, 1, none⟩) (u := .int .i64 y) (by go_simp)
          have b0 := Class.reads hf (cell_more b0)
          have b1 := Class.reads hf (cell_more b1)
          have s2 := Class.reads hf (cell_more s2)
          simp only [List.take_succ_cons, List.take_zero]
          repeat (go_big_quiet_step ((go_at_call 19; with_reducible exact hf.made (vsub_is _ _ _ _ _ _ _ (by assumption) (by assumption) (by assumption) (by assumption) EDX.out EDY.out))))
          exact wpQuiet_nil rfl
        intro g4 w4 k4 hg4 hh
        have a0 := k4.reads (p := ⟨wr.heap.size, 0, none⟩) (x := .int .i64 x) (by go_simp)
        have a1 := k4.reads (p := ⟨wr.heap.size, 1, none⟩) (x := .int .i64 y) (by go_simp)
        have s2 := k4.reads (cell_more s2)
        have d0 := k4.reads (cell_more d0)
        have d1 := k4.reads (cell_more d1)
        have hg41 : wr.heap.size < g4 := by simp at hg4; omega
        have M4 : Hid (Made w3.heap.size w3 w4) := HM.out.then_ (made_box k4 |>.low HM.out.1.size)
        have z0 := hh.at_ 0
        have z1 := hh.at_ 1
        simp at z0 z1
        have zf : ∀ i, w4.frozen? ⟨g4, i, none⟩ = false := fun i => hh.free i
        have hgs4 := hh.here
        have hw3 := HM.out.1.size
        clear k4 hh hg4 c0 c1 b0 b1
        simp only [List.drop_succ_cons, List.drop_zero]
        go_upto_region 11 with fail
        obtain ⟨W1, eW⟩ : ∃ W, W = (w4.setCell ⟨g4, 0, none⟩ (.int .i64 dx)).setCell ⟨g4, 1, none⟩ (.int .i64 dy) := ⟨_, rfl⟩
        have f0 : W1.cell? ⟨g4, 0, none⟩ = some (.int .i64 dx) := by rw [eW]; go_simp
        have f1 : W1.cell? ⟨g4, 1, none⟩ = some (.int .i64 dy) := by rw [eW]; go_simp
        have a0 : W1.cell? ⟨wr.heap.size, 0, none⟩ = some (.int .i64 x) := by rw [eW]; exact cell_else (by simp; omega) (cell_else (by simp; omega) a0)
        have a1 : W1.cell? ⟨wr.heap.size, 1, none⟩ = some (.int .i64 y) := by rw [eW]; exact cell_else (by simp; omega) (cell_else (by simp; omega) a1)
        have s2 : W1.cell? ⟨w2.heap.size, 2, none⟩ = some (.slice (some ⟨g, 0, none⟩) n cap) := by rw [eW]; exact cell_else (by simp; omega) (cell_else (by simp; omega) s2)
        have d0 : W1.cell? ⟨g3, m * 2, none⟩ = some (.int .i64 p) := by rw [eW]; exact cell_else (by simp; omega) (cell_else (by simp; omega) d0)
        have d1 : W1.cell? ⟨g3, m * 2 + 1, none⟩ = some (.int .i64 q) := by rw [eW]; exact cell_else (by simp; omega) (cell_else (by simp; omega) d1)
        have M5 : Hid (Made w3.heap.size w3 W1) := by unfold Hid; rw [eW]; exact (M4.out.put (by simp; omega) _).put (by simp; omega) _
        rw [← eW]
        clear eW z0 z1 zf
        go_wp2_with fail
        refine (vunit_is dy (-dx) _ _ idy indx EU.out).mono ?_
        rintro e w5 ⟨rfl, k5⟩
        have a0 := k5.reads a0
        have a1 := k5.reads a1
        have s2 := k5.reads s2
        have d0 := k5.reads d0
        have d1 := k5.reads d1
        have M6 : Hid (Made w3.heap.size w3 w5) := M5.out.then_ (k5.low M5.out.1.size)
        have hs5 : wr.heap.size < w5.heap.size := World.block_lt_of_cell? _ _ a0
        clear k5 f0 f1
        go_wp2_with fail
        refine reg_made (by kernel_rfl) (by kernel_rfl) ?_
        intro T hT fw hf
        have p0 := Class.reads hf (p := ⟨w5.heap.size, 0, none⟩) (u := .int .i64 p) (by go_simp)
        have p1 := Class.reads hf (p := ⟨w5.heap.size, 1, none⟩) (u := .int .i64 q) (by go_simp)
        have d0' := Class.reads hf (cell_more d0)
        have d1' := Class.reads hf (cell_more d1)
        repeat (go_big_quiet_step (fail))
        refine wpQuiet_nil ?_
        intro w6 h6
        have k6 := hf.here h6
        have p0 := k6.reads (p := ⟨w5.heap.size, 0, none⟩) (x := .int .i64 p) (by go_simp)
        have p1 := k6.reads (p := ⟨w5.heap.size, 1, none⟩) (x := .int .i64 q) (by go_simp)
        have a0 := k6.reads (cell_more a0)
        have a1 := k6.reads (cell_more a1)
        have s2 := k6.reads (cell_more s2)
        have M7 : Hid (Made w3.heap.size w3 w6) := M6.out.then_ (made_box k6 |>.low M6.out.1.size)
        have AA0 := hid a0; have AA1 := hid a1; have PP0 := hid p0; have PP1 := hid p1
        clear k6 h6 hf d0 d1 d0' d1' p0 p1 a0 a1
        go_wp2_with fail
        go_loopg [68] n (fun gg i v2 => ∃ j : Nat, j + gg = n ∧ i = .int .i64 j ∧ Hid (Made w6.heap.size w6 v2))
        case atStart => exact ⟨0, by omega, rfl, Made.rfl_ _ _⟩
        case round =>
          obtain ⟨j, hj, rfl, HM2⟩ := hrel
          have M8 : Hid (Made w3.heap.size w3 wr) := M7.out.then_ (HM2.out.low M7.out.1.size)
          by_cases hjn : j < n
          · obtain ⟨X, eX⟩ : ∃ x, (F j).1 = x := ⟨_, rfl⟩
            obtain ⟨Y, eY⟩ : ∃ y, (F j).2 = y := ⟨_, rfl⟩
            obtain ⟨iX, iY⟩ := GI.out j hjn
            obtain ⟨c0, c1⟩ := Q3.out j hjn
            have hD := DOT.out j hjn
            rw [eX] at iX c0 hD
            rw [eY] at iY c1 hD
            rw [Nat.zero_add] at c0 c1
            have c0 := M8.out.reads c0
            have c1 := M8.out.reads c1
            have a0 := HM2.out.reads AA0.out
            have a1 := HM2.out.reads AA1.out
            have p0 := HM2.out.reads PP0.out
            have p1 := HM2.out.reads PP1.out
            obtain ⟨P, eP⟩ : ∃ P, subF X x = P := ⟨_, rfl⟩
            obtain ⟨Q, eQ⟩ : ∃ Q, subF Y y = Q := ⟨_, rfl⟩
            have iP : I64 P := by rw [← eP]; exact i64_sub _ _
            have iQ : I64 Q := by rw [← eQ]; exact i64_sub _ _
            rw [eP, eQ] at hD
            obtain ⟨D, eD⟩ : ∃ D, addF (mulF p P) (mulF q Q) = D := ⟨_, rfl⟩
            rw [eD] at hD
            have EP := hid eP; have EQ := hid eQ; have ED := hid eD
            clear eX eY eP eQ eD
            go_wp2_with fail
            refine reg_made (by kernel_rfl) (by kernel_rfl) ?_
            intro T hT fw hf
            have u0 := Class.reads hf (p := ⟨wr.heap.size, 0, none⟩) (u := .int .i64 X) (by go_simp)
            have u1 := Class.reads hf (p := ⟨wr.heap.size, 1, none⟩) (u := .int .i64 Y) (by go_simp)
            have a0' := Class.reads hf (cell_more a0)
            have a1' := Class.reads hf (cell_more a1)
            have p0' := Class.reads hf (cell_more p0)
            have p1' := Class.reads hf (cell_more p1)
            repeat (go_big_quiet_step ((first
              | (go_at_call 19; with_reducible exact hf.made (vsub_is _ _ _ _ _ _ _ (by assumption) (by assumption) (by assumption) (by assumption) EP.out EQ.out))
              | (go_at_call 21; with_reducible exact hf.made (vdot_is _ _ _ _ _ _ (by assumption) (by assumption) (by assumption) (by assumption) ED.out)))))
            refine wpQuiet_nil ?_
            intro w9 h9
            have M9 : Hid (Made w6.heap.size w6 w9) := HM2.out.then_ (made_box (hf.here h9) |>.low HM2.out.1.size)
            clear h9 hf c0 c1 a0 a1 p0 p1 a0' a1' p0' p1' u0 u1
            go_wp2_with fail
            go_roundg (n - j - 1)
            case rel => exact ⟨j + 1, by omega, by go_num, M9⟩
            case measure => omega
          · go_wp2_with fail
            go_roundg (n - m - 1)
            case rel => exact ⟨m + 1, by omega, by go_num, M8⟩
            case measure => omega
      · have e : m = n := by omega
        subst e
        go_wp2_with fail
        refine (normals_none _).mono ?_
        rintro e w6 ⟨g6, rfl, k6⟩
        have M6 : Hid (Made w.heap.size w w6) := M3.out.then_ ((HM.out.then_ (k6.low HM.out.1.size)).low M3.out.1.size)
        clear k6
        go_wp2_with fail
        go_ret
        exact ⟨rfl, M6.out⟩
end Go.Proofs.Ytekcehhoimhjeaa.Fx
