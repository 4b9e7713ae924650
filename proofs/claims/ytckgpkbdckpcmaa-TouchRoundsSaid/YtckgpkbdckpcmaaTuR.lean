/- TouchRounds: the walk. -/
import Derived.Test.YtckgpkbdckpcmaaTuF
import Derived.Test.YtckgpkbdckpcmaaTuP
import Derived.Test.YtckgpkbdckpcmaaTuA
import Derived.Test.YtckgpkbdckpcmaaTouchY
namespace Go.Proofs.Ytckgpkbdckpcmaa.Fx
open Go.ChangeShapes Go.WideShapes Go.ChangeAt Go.RowKit
set_option linter.unusedVariables false

theorem alc_B {d : Tmp} {ty : TypeId} {ps : String} {af : Array Edge} : Alc Try.prog { dst := some d, op := .alloc 34, type := ty, pos := ps, after := af, guard := none } d 34 #[.int .i64 0, .int .i64 0, .int .i64 0, .int .i64 0, .int .i64 0, .int .i64 0, .int .i64 0, .int .i64 0, .int .i64 0, .int .i64 0, .slice none 0 0] :=
  ⟨rfl, rfl, fun a w => by go_simp⟩
theorem Has.c11' {w : World} {g : Nat} {t : TypeId} {c0 c1 c2 c3 c4 c5 c6 c7 c8 c9 c10 : Value} (h : Has w g t #[c0, c1, c2, c3, c4, c5, c6, c7, c8, c9, c10]) : w.cell? ⟨g, 0, none⟩ = some c0 ∧ w.cell? ⟨g, 1, none⟩ = some c1 ∧ w.cell? ⟨g, 2, none⟩ = some c2 ∧ w.cell? ⟨g, 3, none⟩ = some c3 ∧ w.cell? ⟨g, 4, none⟩ = some c4 ∧ w.cell? ⟨g, 5, none⟩ = some c5 ∧ w.cell? ⟨g, 6, none⟩ = some c6 ∧ w.cell? ⟨g, 7, none⟩ = some c7 ∧ w.cell? ⟨g, 8, none⟩ = some c8 ∧ w.cell? ⟨g, 9, none⟩ = some c9 ∧ w.cell? ⟨g, 10, none⟩ = some c10 :=
  ⟨h.at_ 0, h.at_ 1, h.at_ 2, h.at_ 3, h.at_ 4, h.at_ 5, h.at_ 6, h.at_ 7, h.at_ 8, h.at_ 9, h.at_ 10⟩
/-- two circles of such sizes -/
theorem rounds_plain {X Y R X2 Y2 R2 n : Int} (iX : I64 X) (iY : I64 Y) (iX2 : I64 X2) (iY2 : I64 Y2) (r0 : 0 < R ∧ R ≤ 1000000000000) (r2 : 0 < R2 ∧ R2 ≤ 1000000000000) (en : lenF (subF X2 X) (subF Y2 Y) = n) :
    (R + R2 ≤ n → wantF (.disc (X, Y) R) (.disc (X2, Y2) R2) = none ∧ wantF (.disc (X2, Y2) R2) (.disc (X, Y) R) = none) ∧
    (n < R + R2 → ∃ nx ny ax ay mx my bx b_y, Rg mx ∧ Rg my ∧ wantF (.disc (X, Y) R) (.disc (X2, Y2) R2) = some (oneT (nx, ny) (ax, ay) (R + R2 - n) 0) ∧ wantF (.disc (X2, Y2) R2) (.disc (X, Y) R) = some (oneT (mx, my) (bx, b_y) (R + R2 - n) 0) ∧
      ((n = 0 ∧ nx = 4294967296 ∧ ny = 0 ∧ mx = 4294967296 ∧ my = 0) ∨ (n ≠ 0 ∧ negF mx = nx ∧ negF my = ny))) := by
  obtain ⟨e1, e2⟩ := turned_cc (a := (X2, Y2)) (b := (X, Y)) (ra := R2) (rb := R) iX2 iY2 iX iY
  have n0 : 0 ≤ n := by rw [← en]; exact len_nn _ _
  have nb : n < 281474976710656 := by rw [← en]; exact (sqrt_bd _).2
  have hl : lenV (subV (X2, Y2) (X, Y)) = n := en
  have hl2 : lenV (subV (X, Y) (X2, Y2)) = n := e1.symm.trans en
  have ha : addF R R2 = R + R2 := by rw [addR (by unfold Rg; omega) (by unfold Rg; omega), satR (by unfold Rg; omega)]
  have ha2 : addF R2 R = R + R2 := by rw [e2]; exact ha
  have hs : subF (R + R2) n = R + R2 - n := sub_exact (by unfold Rg; omega) (by unfold Rg; omega) (by unfold Rg; omega)
  constructor
  · intro h
    constructor
    · show roundsF (X, Y) R (X2, Y2) R2 = none
      unfold roundsF; rw [ha, hl, if_pos h]
    · show roundsF (X2, Y2) R2 (X, Y) R = none
      unfold roundsF; rw [ha2, hl2, if_pos h]
  · intro h'
    have h : ¬ R + R2 ≤ n := by omega
    obtain ⟨⟨ax, ay⟩, ea⟩ : ∃ v, addV (X, Y) (scaV (roundsN (X, Y) (X2, Y2)) (subF R (divF (R + R2 - n) 8589934592))) = v := ⟨_, rfl⟩
    obtain ⟨⟨bx, b_y⟩, eb⟩ : ∃ v, addV (X2, Y2) (scaV (roundsN (X2, Y2) (X, Y)) (subF R2 (divF (R + R2 - n) 8589934592))) = v := ⟨_, rfl⟩
    refine ⟨(roundsN (X, Y) (X2, Y2)).1, (roundsN (X, Y) (X2, Y2)).2, ax, ay, (roundsN (X2, Y2) (X, Y)).1, (roundsN (X2, Y2) (X, Y)).2, bx, b_y, ?_, ?_, ?_, ?_, ?_⟩
    rotate_left 2
    · show roundsF (X, Y) R (X2, Y2) R2 = _
      unfold roundsF; rw [ha, hl, if_neg h, hs, ea]
    · show roundsF (X2, Y2) R2 (X, Y) R = _
      unfold roundsF; rw [ha2, hl2, if_neg h, hs, eb]
    · unfold roundsN
      rw [hl, hl2]
      by_cases hz : 0 < n
      · rw [if_pos hz, if_pos hz]
        refine .inr ⟨by omega, ?_⟩
        have q1 := rg_u (subF X2 X) (subF Y2 Y)
        have q : unitP (subV (X, Y) (X2, Y2)) = (-(uF (subF X2 X) (subF Y2 Y)).1, -(uF (subF X2 X) (subF Y2 Y)).2) := by
          show uF (subF X X2) (subF Y Y2) = _
          rw [sub_swap iX2 iX, sub_swap iY2 iY]
          exact u_neg (rg_sub _ _) (rg_sub _ _)
        rw [q]
        show negF (-_) = (uF (subF X2 X) (subF Y2 Y)).1 ∧ negF (-_) = (uF (subF X2 X) (subF Y2 Y)).2
        rw [negR (Rg_neg q1.1), negR (Rg_neg q1.2), Int.neg_neg, Int.neg_neg]
        exact ⟨rfl, rfl⟩
      · rw [if_neg hz, if_neg hz]
        exact .inl ⟨by omega, rfl, rfl, rfl, rfl⟩
    · unfold roundsN
      split
      · exact (rg_u _ _).1
      · unfold Rg; simp only []; omega
    · unfold roundsN
      split
      · exact (rg_u _ _).2
      · unfold Rg; simp only []; omega

set_option maxRecDepth 100000 in
set_option maxHeartbeats 8000000 in
theorem trounds_walk (TS : TouchSays) (p1x p1y p2x p2y r0 r1 : Int) (w : World) (j1 : I64 p1x) (j2 : I64 p1y) (j3 : I64 p2x) (j4 : I64 p2y) (hr0 : 0 ≤ r0 ∧ r0 ≤ 255) (hr1 : 0 ≤ r1 ∧ r1 ≤ 255) :
    Calls Try.prog 5 #[vecV p1x p1y, vecV p2x p2y, .agg #[.int .u8 r0, .int .u8 r1]] w fun e w' => e = .returned (.bool true) ∧ Made w.heap.size w w' := by
  have HFit := hid (tfit_is TS)
  have iM : I64 2147483648000 := by unfold I64; omega
  obtain ⟨X, eX⟩ : ∃ z, bringF p1x (negF 2147483648000) 2147483648000 = z := ⟨_, rfl⟩
  obtain ⟨Y, eY⟩ : ∃ z, bringF p1y (negF 2147483648000) 2147483648000 = z := ⟨_, rfl⟩
  obtain ⟨X2, eX2⟩ : ∃ z, bringF p2x (negF 2147483648000) 2147483648000 = z := ⟨_, rfl⟩
  obtain ⟨Y2, eY2⟩ : ∃ z, bringF p2y (negF 2147483648000) 2147483648000 = z := ⟨_, rfl⟩
  have iX : I64 X := by rw [← eX]; exact i64_bring j1 (i64_neg iM) iM
  have iY : I64 Y := by rw [← eY]; exact i64_bring j2 (i64_neg iM) iM
  have iX2 : I64 X2 := by rw [← eX2]; exact i64_bring j3 (i64_neg iM) iM
  have iY2 : I64 Y2 := by rw [← eY2]; exact i64_bring j4 (i64_neg iM) iM
  obtain ⟨R, eR⟩ : ∃ z, ((1 + r0) * 4294967296).tdiv 8 = z := ⟨_, rfl⟩
  obtain ⟨R2, eR2⟩ : ∃ z, ((1 + r1) * 4294967296).tdiv 8 = z := ⟨_, rfl⟩
  have R0 : R = (1 + r0) * 536870912 := by rw [← eR, Int.tdiv_eq_ediv_of_nonneg (by omega)]; omega
  have R20 : R2 = (1 + r1) * 536870912 := by rw [← eR2, Int.tdiv_eq_ediv_of_nonneg (by omega)]; omega
  have R1 : 0 < R ∧ R ≤ 137438953472 := by omega
  have R21 : 0 < R2 ∧ R2 ≤ 137438953472 := by omega
  obtain ⟨h0, h1⟩ := hr0
  obtain ⟨h2, h3⟩ := hr1
  obtain ⟨R3, R4⟩ := R1
  obtain ⟨R23, R24⟩ := R21
  have iR : I64 R := by unfold I64; omega
  have iR2 : I64 R2 := by unfold I64; omega
  clear R0 R20
  obtain ⟨dx, edx⟩ : ∃ z, subF X2 X = z := ⟨_, rfl⟩
  obtain ⟨dy, edy⟩ : ∃ z, subF Y2 Y = z := ⟨_, rfl⟩
  obtain ⟨n, en⟩ : ∃ z, lenF dx dy = z := ⟨_, rfl⟩
  have idx : I64 dx := by rw [← edx]; exact i64_sub _ _
  have idy : I64 dy := by rw [← edy]; exact i64_sub _ _
  have n0 : 0 ≤ n := by rw [← en]; exact len_nn _ _
  have n1 : n < 281474976710656 := by rw [← en]; exact (sqrt_bd _).2
  have HP := hid (rounds_plain iX iY iX2 iY2 (R := R) (R2 := R2) (n := n) ⟨by omega, by omega⟩ ⟨by omega, by omega⟩ (by rw [edx, edy]; exact en))
  have EX := hid eX; have EY := hid eY; have EX2 := hid eX2; have EY2 := hid eY2; have EDX := hid edx; have EDY := hid edy; have EN := hid en
  obtain ⟨bd, ebd⟩ : ∃ b, Bdy.disc (X, Y) R = b := ⟨_, rfl⟩
  obtain ⟨bd2, ebd2⟩ : ∃ b, Bdy.disc (X2, Y2) R2 = b := ⟨_, rfl⟩
  rw [ebd, ebd2] at HP
  have HBa : Hid (∀ w, BodyAt w X Y 0 1 R (.slice none 0 0) bd) := fun w => ⟨iX, iY, by unfold I64; omega, iR, .inl ⟨rfl, rfl, ebd.symm⟩⟩
  have HBb : Hid (∀ w, BodyAt w X2 Y2 0 1 R2 (.slice none 0 0) bd2) := fun w => ⟨iX2, iY2, by unfold I64; omega, iR2, .inl ⟨rfl, rfl, ebd2.symm⟩⟩
  obtain ⟨t, et⟩ : ∃ t, wantF bd bd2 = t := ⟨_, rfl⟩
  obtain ⟨nx, enx⟩ : ∃ z, (t.getD noTch).nx = z := ⟨_, rfl⟩
  obtain ⟨ny, eny⟩ : ∃ z, (t.getD noTch).ny = z := ⟨_, rfl⟩
  obtain ⟨l, el⟩ : ∃ z, (t.getD noTch).pts = z := ⟨_, rfl⟩
  obtain ⟨ok, eok⟩ : ∃ z, t.isSome = z := ⟨_, rfl⟩
  have HOf : Hid (OfF X Y 0 1 R X2 Y2 0 1 R2 bd bd2 nx ny l ok) := of_fresh et enx eny el eok
  obtain ⟨u, eu⟩ : ∃ t, wantF bd2 bd = t := ⟨_, rfl⟩
  obtain ⟨mx, emx⟩ : ∃ z, (u.getD noTch).nx = z := ⟨_, rfl⟩
  obtain ⟨my, emy⟩ : ∃ z, (u.getD noTch).ny = z := ⟨_, rfl⟩
  obtain ⟨l2, el2⟩ : ∃ z, (u.getD noTch).pts = z := ⟨_, rfl⟩
  obtain ⟨is, eis⟩ : ∃ z, u.isSome = z := ⟨_, rfl⟩
  have HOg : Hid (OfF X2 Y2 0 1 R2 X Y 0 1 R bd2 bd mx my l2 is) := of_fresh eu emx emy el2 eis
  rw [et, eu] at HP
  clear eX eY eX2 eY2 edx edy en ebd ebd2 TS
  go_enter Try.func5, Try.ntmps5
  go_wp2_with fail
  refine (HFit.out _).mono ?_
  rintro e w1 ⟨rfl, k1⟩
  have p0 := k1.reads (p := ⟨w.heap.size, 0, none⟩) (x := .int .i64 p1x) (by go_simp)
  have p1 := k1.reads (p := ⟨w.heap.size, 1, none⟩) (x := .int .i64 p1y) (by go_simp)
  have q0 := k1.reads (p := ⟨w.heap.size + 1, 0, none⟩) (x := .int .i64 p2x) (by go_simp)
  have q1 := k1.reads (p := ⟨w.heap.size + 1, 1, none⟩) (x := .int .i64 p2y) (by go_simp)
  have v0 := k1.reads (p := ⟨w.heap.size + 1 + 1, 0, none⟩) (x := .int .u8 r0) (by go_simp)
  have v1 := k1.reads (p := ⟨w.heap.size + 1 + 1, 1, none⟩) (x := .int .u8 r1) (by go_simp)
  have M1 : Hid (Made w.heap.size w w1) := (made_box (made_box (made_box k1)))
  have lv1 : w.heap.size + 1 + 1 < w1.heap.size := World.block_lt_of_cell? _ _ v0
  clear k1 HFit
  go_upto_region 3 with fail
  refine reg_float1 10 139 7 34 #[.int .i64 0, .int .i64 0, .int .i64 0, .int .i64 0, .int .i64 0, .int .i64 0, .int .i64 0, .int .i64 0, .int .i64 0, .int .i64 0, .slice none 0 0] _ (by kernel_rfl) (by kernel_rfl) (by kernel_rfl) rfl rfl alc_B ?_
  apply Exists.intro
  refine ⟨?a3, ?b3⟩
  case a3 =>
    intro T' hT fw hf
    have p0 := Class.reads hf p0
    have p1 := Class.reads hf p1
    have v0 := Class.reads hf v0
    simp only [List.take_succ_cons, List.take_zero]
    repeat (go_big_quiet_step ((go_at_call 17; with_reducible exact hf.made (vbring_is _ _ _ _ _ _ j1 j2 iM EX.out EY.out))))
    exact wpQuiet_nil rfl
  intro gA w2' kf hg hh
  have z0 := hh.at_ 0
  have z1 := hh.at_ 1
  have z2 := hh.at_ 2
  have z3 := hh.at_ 3
  have z4 := hh.at_ 4
  have z5 := hh.at_ 5
  have z6 := hh.at_ 6
  have z7 := hh.at_ 7
  have z8 := hh.at_ 8
  have z9 := hh.at_ 9
  have z10 := hh.at_ 10
  simp at z0 z1 z2 z3 z4 z5 z6 z7 z8 z9 z10
  have zf : ∀ i, w2'.frozen? ⟨gA, i, none⟩ = false := fun i => hh.free i
  have q0 := kf.reads q0
  have q1 := kf.reads q1
  have v1 := kf.reads v1
  have M' : Hid (Made w.heap.size w w2') := M1.out.then_ (kf.low M1.out.1.size)
  have lwg : w.heap.size ≤ gA := by have := M1.out.1.size; omega
  simp only [List.drop_succ_cons, List.drop_zero]
  go_upto_region 4 with fail
  obtain ⟨w2, eW⟩ : ∃ W, W = (((((((((((w2'.setCell ⟨gA, 0, none⟩ (.int .i64 0)).setCell ⟨gA, 1, none⟩ (.int .i64 X)).setCell ⟨gA, 2, none⟩ (.int .i64 Y)).setCell ⟨gA, 3, none⟩ (.int .i64 0)).setCell ⟨gA, 4, none⟩ (.int .i64 0)).setCell ⟨gA, 5, none⟩ (.int .i64 0)).setCell ⟨gA, 6, none⟩ (.int .i64 0)).setCell ⟨gA, 7, none⟩ (.int .i64 0)).setCell ⟨gA, 8, none⟩ (.int .i64 1)).setCell ⟨gA, 9, none⟩ (.int .i64 R)).setCell ⟨gA, 10, none⟩ (.slice none 0 0)) := ⟨_, rfl⟩
  have HA : Has w2 gA 34 #[.int .i64 0, .int .i64 X, .int .i64 Y, .int .i64 0, .int .i64 0, .int .i64 0, .int .i64 0, .int .i64 0, .int .i64 1, .int .i64 R, .slice none 0 0] := by rw [eW]; exact hh.put11 _ _ _ _ _ _ _ _ _ _ _
  have q0 : w2.cell? ⟨w.heap.size + 1, 0, none⟩ = some (.int .i64 p2x) := by rw [eW, cell_put11 _ _ _ _ (by omega)]; exact q0
  have q1 : w2.cell? ⟨w.heap.size + 1, 1, none⟩ = some (.int .i64 p2y) := by rw [eW, cell_put11 _ _ _ _ (by omega)]; exact q1
  have v1 : w2.cell? ⟨w.heap.size + 1 + 1, 1, none⟩ = some (.int .u8 r1) := by rw [eW, cell_put11 _ _ _ _ (by omega)]; exact v1
  have M2 : Hid (Made w.heap.size w w2) := by unfold Hid; rw [eW]; exact M'.out.put11 lwg _ _ _ _ _ _ _ _ _ _ _
  rw [← eW]
  clear eW kf hh hg zf M' z0 z1 z2 z3 z4 z5 z6 z7 z8 z9 z10
  clear p0 p1 v0
  go_upto_region 4 with fail
  refine reg_float1 10 139 8 34 #[.int .i64 0, .int .i64 0, .int .i64 0, .int .i64 0, .int .i64 0, .int .i64 0, .int .i64 0, .int .i64 0, .int .i64 0, .int .i64 0, .slice none 0 0] _ (by kernel_rfl) (by kernel_rfl) (by kernel_rfl) rfl rfl alc_B ?_
  apply Exists.intro
  refine ⟨?a4, ?b4⟩
  case a4 =>
    intro T' hT fw hf
    have q0 := Class.reads hf q0
    have q1 := Class.reads hf q1
    have v1 := Class.reads hf v1
    simp only [List.take_succ_cons, List.take_zero]
    repeat (go_big_quiet_step ((go_at_call 17; with_reducible exact hf.made (vbring_is _ _ _ _ _ _ j3 j4 iM EX2.out EY2.out))))
    exact wpQuiet_nil rfl
  intro gB w3' kf hg hh
  have z0 := hh.at_ 0
  have z1 := hh.at_ 1
  have z2 := hh.at_ 2
  have z3 := hh.at_ 3
  have z4 := hh.at_ 4
  have z5 := hh.at_ 5
  have z6 := hh.at_ 6
  have z7 := hh.at_ 7
  have z8 := hh.at_ 8
  have z9 := hh.at_ 9
  have z10 := hh.at_ 10
  simp at z0 z1 z2 z3 z4 z5 z6 z7 z8 z9 z10
  have zf : ∀ i, w3'.frozen? ⟨gB, i, none⟩ = false := fun i => hh.free i
  have HA' : Has w3' gA 34 #[.int .i64 0, .int .i64 X, .int .i64 Y, .int .i64 0, .int .i64 0, .int .i64 0, .int .i64 0, .int .i64 0, .int .i64 1, .int .i64 R, .slice none 0 0] := HA.stays kf HA.here
  have M' : Hid (Made w.heap.size w w3') := M2.out.then_ (kf.low M2.out.1.size)
  have lwg : w.heap.size ≤ gB := by have := M2.out.1.size; omega
  have nAB : gA ≠ gB := by have := HA.here; omega
  simp only [List.drop_succ_cons, List.drop_zero]
  go_upto_region 5 with fail
  obtain ⟨w3, eW⟩ : ∃ W, W = (((((((((((w3'.setCell ⟨gB, 0, none⟩ (.int .i64 0)).setCell ⟨gB, 1, none⟩ (.int .i64 X2)).setCell ⟨gB, 2, none⟩ (.int .i64 Y2)).setCell ⟨gB, 3, none⟩ (.int .i64 0)).setCell ⟨gB, 4, none⟩ (.int .i64 0)).setCell ⟨gB, 5, none⟩ (.int .i64 0)).setCell ⟨gB, 6, none⟩ (.int .i64 0)).setCell ⟨gB, 7, none⟩ (.int .i64 0)).setCell ⟨gB, 8, none⟩ (.int .i64 1)).setCell ⟨gB, 9, none⟩ (.int .i64 R2)).setCell ⟨gB, 10, none⟩ (.slice none 0 0)) := ⟨_, rfl⟩
  have HB : Has w3 gB 34 #[.int .i64 0, .int .i64 X2, .int .i64 Y2, .int .i64 0, .int .i64 0, .int .i64 0, .int .i64 0, .int .i64 0, .int .i64 1, .int .i64 R2, .slice none 0 0] := by rw [eW]; exact hh.put11 _ _ _ _ _ _ _ _ _ _ _
  have HA : Has w3 gA 34 #[.int .i64 0, .int .i64 X, .int .i64 Y, .int .i64 0, .int .i64 0, .int .i64 0, .int .i64 0, .int .i64 0, .int .i64 1, .int .i64 R, .slice none 0 0] := by rw [eW]; exact has_put11 HA' nAB _ _ _ _ _ _ _ _ _ _ _
  have M3 : Hid (Made w.heap.size w w3) := by unfold Hid; rw [eW]; exact M'.out.put11 lwg _ _ _ _ _ _ _ _ _ _ _
  rw [← eW]
  clear eW kf hh hg zf M' z0 z1 z2 z3 z4 z5 z6 z7 z8 z9 z10 HA'
  clear q0 q1 v1
  obtain ⟨c0, c1, c2, c3, c4, c5, c6, c7, c8, c9, c10⟩ := HA.c11'
  obtain ⟨d0, d1, d2, d3, d4, d5, d6, d7, d8, d9, d10⟩ := HB.c11'
  have lgA := HA.here
  have lgB := HB.here
  clear HA HB
  go_wp2_with fail
  refine (HOf.out _ _ _ (HBa.out _) (HBb.out _)).mono ?_
  rintro e w10 ⟨po, cp, rfl, hpt, hfr, kf⟩
  have c0 := kf.reads (c0)
  have c1 := kf.reads (c1)
  have c2 := kf.reads (c2)
  have c3 := kf.reads (c3)
  have c4 := kf.reads (c4)
  have c5 := kf.reads (c5)
  have c6 := kf.reads (c6)
  have c7 := kf.reads (c7)
  have c8 := kf.reads (c8)
  have c9 := kf.reads (c9)
  have c10 := kf.reads (c10)
  have d0 := kf.reads (d0)
  have d1 := kf.reads (d1)
  have d2 := kf.reads (d2)
  have d3 := kf.reads (d3)
  have d4 := kf.reads (d4)
  have d5 := kf.reads (d5)
  have d6 := kf.reads (d6)
  have d7 := kf.reads (d7)
  have d8 := kf.reads (d8)
  have d9 := kf.reads (d9)
  have d10 := kf.reads (d10)
  have HPt := hid hpt
  have Mw10 : Hid (Made w.heap.size w w10) := M3.out.then_ (kf.low M3.out.1.size)
  have lgA : gA < w10.heap.size := World.block_lt_of_cell? _ _ c0
  have lgB : gB < w10.heap.size := World.block_lt_of_cell? _ _ d0
  clear kf hpt hfr
  go_wp2_with fail
  refine (HOg.out _ _ _ (HBb.out _) (HBa.out _)).mono ?_
  rintro e w11 ⟨po2, cp2, rfl, hpt, hfr, kf⟩
  have t0 := kf.reads (p := ⟨w10.heap.size, 0, none⟩) (x := .int .i64 nx) (by go_simp)
  have t1 := kf.reads (p := ⟨w10.heap.size, 1, none⟩) (x := .int .i64 ny) (by go_simp)
  have t2 := kf.reads (p := ⟨w10.heap.size, 2, none⟩) (x := .slice po l.length cp) (by go_simp)
  have c0 := kf.reads (cell_more c0)
  have c1 := kf.reads (cell_more c1)
  have c2 := kf.reads (cell_more c2)
  have c3 := kf.reads (cell_more c3)
  have c4 := kf.reads (cell_more c4)
  have c5 := kf.reads (cell_more c5)
  have c6 := kf.reads (cell_more c6)
  have c7 := kf.reads (cell_more c7)
  have c8 := kf.reads (cell_more c8)
  have c9 := kf.reads (cell_more c9)
  have c10 := kf.reads (cell_more c10)
  have d0 := kf.reads (cell_more d0)
  have d1 := kf.reads (cell_more d1)
  have d2 := kf.reads (cell_more d2)
  have d3 := kf.reads (cell_more d3)
  have d4 := kf.reads (cell_more d4)
  have d5 := kf.reads (cell_more d5)
  have d6 := kf.reads (cell_more d6)
  have d7 := kf.reads (cell_more d7)
  have d8 := kf.reads (cell_more d8)
  have d9 := kf.reads (cell_more d9)
  have d10 := kf.reads (cell_more d10)
  have HPt1 : Hid (PtsT w11 po l) := (HPt.out.kept ((Made.rfl_ _ _).cells (Nat.le_refl _) _ _)).kept kf
  have HPt2 := hid hpt
  have M11 : Hid (Made w.heap.size w w11) := Mw10.out.then_ ((made_box kf).low Mw10.out.1.size)
  have lt11 : w10.heap.size < w11.heap.size := World.block_lt_of_cell? _ _ t0
  have lgA : gA < w11.heap.size := World.block_lt_of_cell? _ _ c0
  have lgB : gB < w11.heap.size := World.block_lt_of_cell? _ _ d0
  clear kf hpt hfr
  go_wp2_with fail
  refine (vsub_is _ _ _ _ _ _ _ iX2 iY2 iX iY EDX.out EDY.out).mono ?_
  rintro e w12 ⟨rfl, kf⟩
  have s0 := kf.reads (p := ⟨w11.heap.size, 0, none⟩) (x := .int .i64 mx) (by go_simp)
  have s1 := kf.reads (p := ⟨w11.heap.size, 1, none⟩) (x := .int .i64 my) (by go_simp)
  have s2 := kf.reads (p := ⟨w11.heap.size, 2, none⟩) (x := .slice po2 l2.length cp2) (by go_simp)
  have t0 := kf.reads (cell_more t0)
  have t1 := kf.reads (cell_more t1)
  have t2 := kf.reads (cell_more t2)
  have c9 := kf.reads (cell_more c9)
  have d9 := kf.reads (cell_more d9)
  have HPt1 : Hid (PtsT w12 po l) := (HPt1.out.kept ((Made.rfl_ _ _).cells (Nat.le_refl _) _ _)).kept kf
  have HPt2 : Hid (PtsT w12 po2 l2) := (HPt2.out.kept ((Made.rfl_ _ _).cells (Nat.le_refl _) _ _)).kept kf
  have M12 : Hid (Made w.heap.size w w12) := M11.out.then_ ((made_box kf).low M11.out.1.size)
  clear kf c0 c1 c2 c3 c4 c5 c6 c7 c8 c10 d0 d1 d2 d3 d4 d5 d6 d7 d8 d10
  go_wp2_with fail
  refine (vlen_is _ _ _ _ idx idy EN.out).mono ?_
  rintro e w13 ⟨rfl, kf⟩
  have t0 := kf.reads (t0)
  have t1 := kf.reads (t1)
  have t2 := kf.reads (t2)
  have s0 := kf.reads (s0)
  have s1 := kf.reads (s1)
  have s2 := kf.reads (s2)
  have c9 := kf.reads (c9)
  have d9 := kf.reads (d9)
  have HPt1 : Hid (PtsT w13 po l) := HPt1.out.kept kf
  have HPt2 : Hid (PtsT w13 po2 l2) := HPt2.out.kept kf
  have M13 : Hid (Made w.heap.size w w13) := M12.out.then_ (kf.low M12.out.1.size)
  clear kf
  by_cases hc : R + R2 ≤ n
  · obtain ⟨h5, h6⟩ := HP.out.1 hc
    have hok : ok = false := by rw [← eok, h5]; rfl
    have his : is = false := by rw [← eis, h6]; rfl
    subst hok
    subst his
    have hlt : decide (n < R + R2) = false := decide_eq_false (by omega)
    clear HP et enx eny el eok eu emx emy el2 eis h5 h6
    go_wp2_with fail
    go_ret
    exact ⟨rfl, M13.out⟩
  obtain ⟨ux, uy, ax, ay, vx, vy, bx, b_y, g1, g2, h5, h6, h7⟩ := HP.out.2 (by omega)
  have hok : ok = true := by rw [← eok, h5]; rfl
  have his : is = true := by rw [← eis, h6]; rfl
  have e1 : ux = nx := by rw [← enx, h5]; rfl
  have e2 : uy = ny := by rw [← eny, h5]; rfl
  have e3 : vx = mx := by rw [← emx, h6]; rfl
  have e4 : vy = my := by rw [← emy, h6]; rfl
  have e5 : l = [⟨ax, ay, R + R2 - n, 0⟩] := by rw [← el, h5]; rfl
  have e6 : l2 = [⟨bx, b_y, R + R2 - n, 0⟩] := by rw [← el2, h6]; rfl
  subst hok; subst his; subst e1; subst e2; subst e3; subst e4; subst e5; subst e6
  have hlt : decide (n < R + R2) = true := decide_eq_true (by omega)
  obtain ⟨dep, ed⟩ : ∃ z, R + R2 - n = z := ⟨_, rfl⟩
  rw [ed] at HPt1 HPt2
  obtain ⟨ba, oa, ea, ha⟩ := HPt1.out (by simp)
  obtain ⟨bb, ob, eb, hb⟩ := HPt2.out (by simp)
  obtain ⟨x0, x1, x2_, x3⟩ := ha 0 _ rfl
  obtain ⟨y0, y1, y2_, y3⟩ := hb 0 _ rfl
  simp at x2_ x3 y2_ y3
  subst ea
  subst eb
  have ED := hid ed
  have H7 := hid h7
  have ivx : I64 vx := i64_rg g1
  have ivy : I64 vy := i64_rg g2
  simp only [List.length_cons, List.length_nil] at t2 s2
  clear HP et enx eny el eok eu emx emy el2 eis h5 h6 h7 ha hb x0 x1 y0 y1 HPt1 HPt2 HOf HOg
  go_upto_region 12 with fail
  refine reg_made (by kernel_rfl) (by kernel_rfl) ?_
  intro Ty hT fw hf
  have t2' := Class.reads hf t2
  have s2' := Class.reads hf s2
  have c9' := Class.reads hf c9
  have d9' := Class.reads hf d9
  have x2' := Class.reads hf x2_
  have x3' := Class.reads hf x3
  have y2' := Class.reads hf y2_
  repeat (go_big_quiet_step (fail))
  refine wpQuiet_nil ?_
  intro w14 h14
  have kf := hf.here h14
  have t0 := kf.reads (t0)
  have t1 := kf.reads (t1)
  have s0 := kf.reads (s0)
  have s1 := kf.reads (s1)
  have M14 : Hid (Made w.heap.size w w14) := M13.out.then_ (kf.low M13.out.1.size)
  clear kf h14 hf t2' s2' c9' d9' x2' x3' y2' t2 s2 c9 d9 x2_ x3 y2_ y3
  rcases H7.out with ⟨z1, z2, z3, z4, z5⟩ | ⟨z1, z2, z3⟩
  · subst z2; subst z3; subst z4; subst z5
    have gz : (n == 0) = true := by simp [z1]
    clear z1
    go_wp2_with fail
    go_ret
    exact ⟨rfl, M14.out⟩
  · have gz : (n == 0) = false := by simpa using z1
    have Z2 := hid z2
    have Z3 := hid z3
    clear z1 z2 z3
    go_upto_region 16 with fail
    refine reg_made (by kernel_rfl) (by kernel_rfl) ?_
    intro Ty hT fw hf
    have t0' := Class.reads hf t0
    have t1' := Class.reads hf t1
    have s0' := Class.reads hf s0
    have s1' := Class.reads hf s1
    repeat (go_big_quiet_step ((go_at_call 20; with_reducible exact hf.made (vneg_is _ _ _ _ _ ivx ivy Z2.out Z3.out))))
    refine wpQuiet_nil ?_
    intro w15 h15
    have M15 : Hid (Made w.heap.size w w15) := M14.out.then_ ((hf.here h15).low M14.out.1.size)
    clear h15 hf t0' t1' s0' s1'
    go_wp2_with fail
    go_ret
    exact ⟨rfl, M15.out⟩
end Go.Proofs.Ytckgpkbdckpcmaa.Fx
