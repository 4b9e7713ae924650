/- ShapeCorners: the walk. -/
import Derived.Test.YtekcehhoimhjeaaShapeH
namespace Go.Proofs.Ytekcehhoimhjeaa.Fx
open Go.ChangeShapes Go.WideShapes Go.ChangeAt Go.RowKit
set_option linter.unusedVariables false

set_option maxRecDepth 100000 in
set_option maxHeartbeats 8000000 in
theorem scorners_walk (a b c d x y t : Int) (w : World) (hx : I64 x) (hy : I64 y) (ht : I64 t) :
    Calls Try.prog 4 #[seedV a b c d, vecV x y, .int .i64 t] w fun e w' => e = .returned (.bool true) ∧ Made w.heap.size w w' := by
  obtain ⟨k, ek⟩ : ∃ k, stepF t = k := ⟨_, rfl⟩
  have iC := I64_cs k
  have iS := I64_sn k
  obtain ⟨C, eC⟩ : ∃ C, cs k = C := ⟨_, rfl⟩
  obtain ⟨S, eS⟩ : ∃ S, sn k = S := ⟨_, rfl⟩
  rw [eC] at iC
  rw [eS] at iS
  have EK := hid ek
  have EC := hid eC
  have ES := hid eS
  clear ek eC eS
  go_enter Try.func4, Try.ntmps4
  go_wp2_with fail
  refine (sfit_c _).mono ?_
  rintro e w1 ⟨rfl, k1⟩
  have y0 := k1.reads (p := ⟨w.heap.size, 0, none⟩) (x := .int .i64 a) (by go_simp)
  have y1 := k1.reads (p := ⟨w.heap.size, 1, none⟩) (x := .int .i64 b) (by go_simp)
  have y2 := k1.reads (p := ⟨w.heap.size, 2, none⟩) (x := .int .i64 c) (by go_simp)
  have y3 := k1.reads (p := ⟨w.heap.size, 3, none⟩) (x := .int .i64 d) (by go_simp)
  have x0 := k1.reads (p := ⟨w.heap.size + 1, 0, none⟩) (x := .int .i64 x) (by go_simp)
  have x1 := k1.reads (p := ⟨w.heap.size + 1, 1, none⟩) (x := .int .i64 y) (by go_simp)
  have M1 := hid (made_box (made_box k1))
  clear k1
  go_wp2_with fail
  refine (seed_is a b c d _).mono ?_
  rintro e w2 ⟨h, k2⟩
  have x0 := k2.reads x0
  have x1 := k2.reads x1
  have M2 : Hid (Made w.heap.size w w2) := M1.out.then_ (k2.low M1.out.1.size)
  have b2 : w.heap.size + 1 < w2.heap.size := World.block_lt_of_cell? _ _ x0
  clear k2 y0 y1 y2 y3
  rcases h with ⟨R, R0, R1, rfl⟩ | ⟨g, cap, n, gx, gy, gk, gr, rfl, hg, hrow⟩
  · go_wp2_with fail
    refine (corners_circle R (.slice none 0 0) x y t _).mono ?_
    rintro e w3 ⟨rfl, k3⟩
    have s0 := k3.reads (p := ⟨w2.heap.size, 0, none⟩) (x := .int .i64 1) (by go_simp)
    have s1 := k3.reads (p := ⟨w2.heap.size, 1, none⟩) (x := .int .i64 R) (by go_simp)
    have s2 := k3.reads (p := ⟨w2.heap.size, 2, none⟩) (x := .slice none 0 0) (by go_simp)
    have M3 : Hid (Made w.heap.size w w3) := M2.out.then_ (made_box k3 |>.low M2.out.1.size)
    clear k3
    go_wp2_with fail
    refine (turnOf_is t k _ ht EK.out).mono ?_
    rintro e w4 ⟨rfl, k4⟩
    have s0 := k4.reads s0
    have s1 := k4.reads s1
    have s2 := k4.reads s2
    have M4 : Hid (Made w.heap.size w w4) := M3.out.then_ (k4.low M3.out.1.size)
    have b4 : w2.heap.size < w4.heap.size := World.block_lt_of_cell? _ _ s0
    clear k4
    go_wp2_with fail
    obtain ⟨W0, eW⟩ : ∃ W, W = w4.alloc (.cells #[.int .i64 (cs k), .int .i64 (sn k)] 36) := ⟨_, rfl⟩
    have u0 : W0.cell? ⟨w2.heap.size, 0, none⟩ = some (.int .i64 1) := by rw [eW]; exact cell_more s0
    have u1 : W0.cell? ⟨w2.heap.size, 1, none⟩ = some (.int .i64 R) := by rw [eW]; exact cell_more s1
    have u2 : W0.cell? ⟨w2.heap.size, 2, none⟩ = some (.slice none 0 0) := by rw [eW]; exact cell_more s2
    have M5 : Hid (Made w.heap.size w W0) := by unfold Hid; rw [eW]; exact M4.out.cells M4.out.1.size _ _
    rw [← eW]
    clear eW
    have U0 := hid u0; have U1 := hid u1; have U2 := hid u2
    clear u0 u1 u2 s0 s1 s2 x0 x1
    go_loopg [10, 34] 0 (fun g far i wr => i = .int .i64 0 ∧ far = .int .i64 R ∧ Hid (Made W0.heap.size W0 wr))
    case atStart => exact ⟨rfl, rfl, Made.rfl_ _ _⟩
    case round =>
      obtain ⟨rfl, rfl, HM⟩ := hrel
      have u0 := HM.out.reads U0.out
      have u1 := HM.out.reads U1.out
      have u2 := HM.out.reads U2.out
      go_wp2_with fail
      refine (reach_circle R (.slice none 0 0) _).mono ?_
      rintro e w6 ⟨rfl, k6⟩
      have M6 : Hid (Made w.heap.size w w6) := M5.out.then_ ((HM.out.then_ (k6.low HM.out.1.size)).low M5.out.1.size)
      clear k6
      go_wp2_with fail
      go_ret
      exact ⟨rfl, M6.out⟩
  · have GR := hid gr
    have GI := hid (grid_i64 gr)
    have n0 := gr.n0
    have n1 := gr.n1
    obtain ⟨F, eF⟩ : ∃ F, grid gx gy gk = F := ⟨_, rfl⟩
    rw [eF] at hrow GI
    have RW := hid hrow
    have hgs := hrow.here
    clear gr GR hg hrow eF
    go_wp2_with fail
    refine (corners_is 0 g 0 n cap F x y t _ (by omega) n1 (RW.out.more _).pts GI.out hx hy ht).mono ?_
    rintro e w3 ⟨g3, rfl, _, hrow3, k3⟩
    rw [EK.out, EC.out, ES.out] at hrow3
    have s0 := k3.reads (p := ⟨w2.heap.size, 0, none⟩) (x := .int .i64 2) (by go_simp)
    have s1 := k3.reads (p := ⟨w2.heap.size, 1, none⟩) (x := .int .i64 0) (by go_simp)
    have s2 := k3.reads (p := ⟨w2.heap.size, 2, none⟩) (x := .slice (some ⟨g, 0, none⟩) n cap) (by go_simp)
    have x0 := k3.reads (cell_more x0)
    have x1 := k3.reads (cell_more x1)
    have M3 : Hid (Made w.heap.size w w3) := M2.out.then_ (made_box k3 |>.low M2.out.1.size)
    have Q3 : Hid (Row w3 g 33 n F) := (RW.out.more _).kept k3
    have P3 := hid hrow3
    clear k3 hrow3
    go_wp2_with fail
    refine (turnOf_is t k _ ht EK.out).mono ?_
    rintro e w4 ⟨rfl, k4⟩
    rw [EC.out, ES.out]
    have s0 := k4.reads s0
    have s1 := k4.reads s1
    have s2 := k4.reads s2
    have x0 := k4.reads x0
    have x1 := k4.reads x1
    have M4 : Hid (Made w.heap.size w w4) := M3.out.then_ (k4.low M3.out.1.size)
    have Q4 : Hid (Row w4 g 33 n F) := Q3.out.kept k4
    have P4 : Hid (Row w4 g3 33 n (placeF F C S x y)) := P3.out.kept k4
    have b4 : w2.heap.size < w4.heap.size := World.block_lt_of_cell? _ _ s0
    have b5 : w.heap.size + 1 < w4.heap.size := World.block_lt_of_cell? _ _ x0
    clear k4
    go_wp2_with fail
    obtain ⟨W0, eW⟩ : ∃ W, W = w4.alloc (.cells #[.int .i64 C, .int .i64 S] 36) := ⟨_, rfl⟩
    have u0 : W0.cell? ⟨w2.heap.size, 0, none⟩ = some (.int .i64 2) := by rw [eW]; exact cell_more s0
    have u1 : W0.cell? ⟨w2.heap.size, 1, none⟩ = some (.int .i64 0) := by rw [eW]; exact cell_more s1
    have u2 : W0.cell? ⟨w2.heap.size, 2, none⟩ = some (.slice (some ⟨g, 0, none⟩) n cap) := by rw [eW]; exact cell_more s2
    have v0 : W0.cell? ⟨w.heap.size + 1, 0, none⟩ = some (.int .i64 x) := by rw [eW]; exact cell_more x0
    have v1 : W0.cell? ⟨w.heap.size + 1, 1, none⟩ = some (.int .i64 y) := by rw [eW]; exact cell_more x1
    have r0 : W0.cell? ⟨w4.heap.size, 0, none⟩ = some (.int .i64 C) := by rw [eW]; go_simp
    have r1 : W0.cell? ⟨w4.heap.size, 1, none⟩ = some (.int .i64 S) := by rw [eW]; go_simp
    have M5 : Hid (Made w.heap.size w W0) := by unfold Hid; rw [eW]; exact M4.out.cells M4.out.1.size _ _
    have Q5 : Hid (Pts W0 g 0 n F) := by unfold Hid; rw [eW]; exact (Q4.out.more _).pts
    have P5 : Hid (Pts W0 g3 0 n (placeF F C S x y)) := by unfold Hid; rw [eW]; exact (P4.out.more _).pts
    rw [← eW]
    clear eW
    have U0 := hid u0; have U1 := hid u1; have U2 := hid u2; have V0 := hid v0; have V1 := hid v1; have RR0 := hid r0; have RR1 := hid r1
    clear u0 u1 u2 v0 v1 r0 r1 s0 s1 s2 x0 x1
    go_loopg [10, 34] n (fun gg far i wr => ∃ (m : Nat) (q : Int), m + gg = n ∧ i = .int .i64 m ∧ far = .int .i64 q ∧ Hid (Top F m q) ∧ Hid (Made W0.heap.size W0 wr))
    case atStart => exact ⟨0, 0, by omega, rfl, rfl, top_nil F, Made.rfl_ _ _⟩
    case round =>
      obtain ⟨m, q, hm, rfl, rfl, HT, HM⟩ := hrel
      have u0 := HM.out.reads U0.out
      have u1 := HM.out.reads U1.out
      have u2 := HM.out.reads U2.out
      by_cases hlt : m < n
      · obtain ⟨u, eu⟩ : ∃ x, (F m).1 = x := ⟨_, rfl⟩
        obtain ⟨v, ev⟩ : ∃ y, (F m).2 = y := ⟨_, rfl⟩
        obtain ⟨iu, iv⟩ := GI.out m hlt
        obtain ⟨c0, c1⟩ := Q5.out m hlt
        obtain ⟨d0, d1⟩ := P5.out m hlt
        rw [eu] at iu c0
        rw [ev] at iv c1
        rw [Nat.zero_add] at c0 c1 d0 d1
        have c0 := HM.out.reads c0
        have c1 := HM.out.reads c1
        have v0 := HM.out.reads V0.out
        have v1 := HM.out.reads V1.out
        have r0 := HM.out.reads RR0.out
        have r1 := HM.out.reads RR1.out
        have d0 := HM.out.reads d0
        have d1 := HM.out.reads d1
        obtain ⟨p, ep⟩ : ∃ p, subF (mulF C u) (mulF S v) = p := ⟨_, rfl⟩
        obtain ⟨q1, eq1⟩ : ∃ q, addF (mulF S u) (mulF C v) = q := ⟨_, rfl⟩
        have ip : I64 p := by rw [← ep]; exact i64_sub _ _
        have iq : I64 q1 := by rw [← eq1]; exact i64_add _ _
        obtain ⟨X, eX⟩ : ∃ X, addF x p = X := ⟨_, rfl⟩
        obtain ⟨Y, eY⟩ : ∃ Y, addF y q1 = Y := ⟨_, rfl⟩
        have fx : (placeF F C S x y m).1 = X := by unfold placeF; simp only []; rw [eu, ev, ep, addF_comm, eX]
        have fy : (placeF F C S x y m).2 = Y := by unfold placeF; simp only []; rw [eu, ev, eq1, addF_comm, eY]
        rw [fx] at d0
        rw [fy] at d1
        obtain ⟨l, el⟩ : ∃ l, lenF u v = l := ⟨_, rfl⟩
        obtain ⟨q2, eq2⟩ : ∃ q2, max q l = q2 := ⟨_, rfl⟩
        have HN : Hid (Top F (m + 1) q2) := by
          have h := top_next HT.out
          rw [eu, ev, el, eq2] at h
          exact h
        have EP := hid ep; have EQ := hid eq1; have EX := hid eX; have EY := hid eY; have EL := hid el
        have hgb : g < wr.heap.size := World.block_lt_of_cell? _ _ c0
        have hgb3 : g3 < wr.heap.size := World.block_lt_of_cell? _ _ d0
        clear eu ev ep eq1 eX eY fx fy el
        go_wp2_with fail
        refine reg_made (by kernel_rfl) (by kernel_rfl) ?_
        intro T hT fw hf
        have a0 := Class.reads hf (p := ⟨wr.heap.size, 0, none⟩) (u := .int .i64 u) (by go_simp)
        have a1 := Class.reads hf (p := ⟨wr.heap.size, 1, none⟩) (u := .int .i64 v) (by go_simp)
        have v0 := Class.reads hf (cell_more v0)
        have v1 := Class.reads hf (cell_more v1)
        have r0 := Class.reads hf (cell_more r0)
        have r1 := Class.reads hf (cell_more r1)
        have d0 := Class.reads hf (cell_more d0)
        have d1 := Class.reads hf (cell_more d1)
        repeat (go_big_quiet_step ((first
          | (go_at_call 15; with_reducible exact hf.made (vapply_is _ _ _ _ _ _ _ (by assumption) (by assumption) (by assumption) (by assumption) EP.out EQ.out))
          | (go_at_call 14; with_reducible exact hf.made (vadd_is _ _ _ _ _ _ _ (by assumption) (by assumption) (by assumption) (by assumption) EX.out EY.out)))))
        refine wpQuiet_nil ?_
        intro w6 h6
        have k6 := hf.here h6
        have a0 := k6.reads (p := ⟨wr.heap.size, 0, none⟩) (x := .int .i64 u) (by go_simp)
        have a1 := k6.reads (p := ⟨wr.heap.size, 1, none⟩) (x := .int .i64 v) (by go_simp)
        have M6 : Hid (Made W0.heap.size W0 w6) := HM.out.then_ (made_box k6 |>.low HM.out.1.size)
        clear k6 h6 hf c0 c1 u0 u1 u2
        go_wp2_with fail
        refine (vlen_is u v l _ iu iv EL.out).mono ?_
        rintro e w7 ⟨rfl, k7⟩
        have M7 : Hid (Made W0.heap.size W0 w7) := M6.out.then_ (k7.low M6.out.1.size)
        clear k7 a0 a1
        go_wp2_with fail
        go_roundg (n - m - 1)
        case rel => exact ⟨m + 1, q2, by omega, by go_num, rfl, HN, M7⟩
        case measure => omega
      · have e : m = n := by omega
        subst e
        go_wp2_with fail
        refine (reach_is 2 0 g 0 m cap F _ (by omega) n1 (Q5.out.kept HM.out) GI.out q HT.out).mono ?_
        rintro e w6 ⟨rfl, k6⟩
        have M6 : Hid (Made w.heap.size w w6) := M5.out.then_ ((HM.out.then_ (k6.low HM.out.1.size)).low M5.out.1.size)
        clear k6
        go_wp2_with fail
        go_ret
        exact ⟨rfl, M6.out⟩
end Go.Proofs.Ytekcehhoimhjeaa.Fx
