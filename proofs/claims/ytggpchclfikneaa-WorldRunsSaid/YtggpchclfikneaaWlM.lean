/- The statements' own in, may, joins; world.New. -/
import Derived.Test.YtggpchclfikneaaWoR
import Derived.Deep.DeepCutAuto
import Derived.Deep.CutBlock
namespace Go.Proofs.Ytggpchclfikneaa.Fx
open Go.ChangeShapes Go.WideShapes Go.ChangeAt Go.RowKit
set_option linter.unusedVariables false

set_option maxRecDepth 100000 in
set_option maxHeartbeats 1000000 in
theorem lin_c (a m : Int) (r : Bool) (w : World) (h0 : 0 ≤ m) (h1 : m ≤ 4611686018427387904) (hr : r = true ↔ Inn a m) :
    Calls Try.prog 19 #[.int .i64 a, .int .i64 m] w fun e v => e = .returned (.bool r) ∧ w = v := by
  unfold Inn at hr
  obtain ⟨nm, en⟩ : ∃ z, -m = z := ⟨_, rfl⟩
  have hneg : IntKind.i64.wrap (-m) = nm := by rw [← en]; simp [IntKind.wrap, IntKind.bits, IntKind.signed]; omega
  by_cases hA : a ≤ m
  · have HR : Hid (r = decide (nm ≤ a)) := by unfold Hid; rw [Bool.eq_iff_iff, hr, decide_eq_true_iff, ← en]; exact ⟨fun h => h.1, fun h => ⟨h, hA⟩⟩
    clear hr en
    go_enter Try.func19, Try.ntmps19
    go_wp2_with fail
    go_ret
    exact ⟨by rw [HR.out]; rfl, rfl⟩
  · have HR : Hid (r = false) := Bool.eq_false_iff.2 fun h => hA (hr.1 h).2
    clear hr en
    go_enter Try.func19, Try.ntmps19
    go_wp2_with fail
    go_ret
    exact ⟨by rw [HR.out]; rfl, rfl⟩
set_option maxRecDepth 100000 in
set_option maxHeartbeats 8000000 in
theorem may_c (i x y vx vy an sp d K R : Int) (ao : Option Addr) (n c : Nat) (f : Cs) (r : Bool) (w : World) (hs : Sl w ao n f) (hi : BdI ⟨i, x, y, vx, vy, an, sp, d, K, R, ao, n, c, f⟩) (hr : r = true ↔ BodyP ⟨i, x, y, vx, vy, an, sp, d, K, R, ao, n, c, f⟩) :
    Calls Try.prog 9 #[bodyV i x y vx vy an sp d K R (.slice ao n c)] w fun e w' => e = .returned (.bool r) ∧ Made w.heap.size w w' := by
  obtain ⟨q0, h0⟩ := a_bool (Inn x 4503599627370496)
  obtain ⟨q1, h1⟩ := a_bool (Inn y 4503599627370496)
  obtain ⟨q2, h2⟩ := a_bool (Inn vx 17592186044416)
  obtain ⟨q3, h3⟩ := a_bool (Inn vy 17592186044416)
  obtain ⟨q4, h4⟩ := a_bool (Inn sp 1099511627776)
  obtain ⟨qs, hqs⟩ := a_bool (RightP K R n f)
  obtain ⟨fr, hfr⟩ : ∃ z, (q0 && q1 && q2 && q3 && q4) = z := ⟨_, rfl⟩
  obtain ⟨st, hst⟩ := a_bool (d ≠ 0 ∨ vx = 0 ∧ vy = 0 ∧ sp = 0)
  have HF := hid hfr
  have HST := hid hst
  have HR : Hid (r = true ↔ qs = true ∧ fr = true ∧ st = true ∧ (0 ≤ an ∧ an ≤ 4294967295) ∧ (0 ≤ d ∧ d ≤ 4398046511104)) := by
    unfold Hid
    rw [hr, ← hfr, hqs, hst]
    simp only [Bool.and_eq_true, h0, h1, h2, h3, h4]
    constructor
    · intro h; exact ⟨h.shape, ⟨⟨⟨⟨h.x, h.y⟩, h.vx⟩, h.vy⟩, h.sp⟩, (Decidable.em (d = 0)).elim (fun e => .inr (h.still e)) .inl, h.an, h.de⟩
    · rintro ⟨a0, ⟨⟨⟨⟨a1, a2⟩, a3⟩, a4⟩, a5⟩, a6, a7, a8⟩
      exact ⟨a0, a1, a2, a3, a4, a5, a7, a8, fun e => a6.elim (fun h => absurd e h) id⟩
  have H0 := hid (fun v => lin_c x 4503599627370496 q0 v (by omega) (by omega) h0)
  have H1 := hid (fun v => lin_c y 4503599627370496 q1 v (by omega) (by omega) h1)
  have H2 := hid (fun v => lin_c vx 17592186044416 q2 v (by omega) (by omega) h2)
  have H3 := hid (fun v => lin_c vy 17592186044416 q3 v (by omega) (by omega) h3)
  have H4 := hid (fun v => lin_c sp 1099511627776 q4 v (by omega) (by omega) h4)
  have HRt := hid (fun v (k : Made w.heap.size w v) => right_is K R ao n c f v (fun hn => by obtain ⟨b, off, e, hp⟩ := hs hn; exact ⟨b, off, e, hp.kept k⟩) hi.f qs hqs)
  obtain ⟨W, eW⟩ : ∃ W, W = w.alloc (.cells #[.int .i64 i, .int .i64 x, .int .i64 y, .int .i64 vx, .int .i64 vy, .int .i64 an, .int .i64 sp, .int .i64 d, .int .i64 K, .int .i64 R, .slice ao n c] 43) := ⟨_, rfl⟩
  have KW : Hid (Made w.heap.size w W) := by unfold Hid; rw [eW]; exact (Made.rfl_ _ _).cells (Nat.le_refl _) _ _
  have HB : Hid (Has W w.heap.size 43 #[.int .i64 i, .int .i64 x, .int .i64 y, .int .i64 vx, .int .i64 vy, .int .i64 an, .int .i64 sp, .int .i64 d, .int .i64 K, .int .i64 R, .slice ao n c]) := by unfold Hid; rw [eW]; exact has_new _ _ _
  obtain ⟨g0, eg⟩ : ∃ g, w.heap.size = g := ⟨_, rfl⟩
  rw [eg] at HB
  have b0 := HB.out.at_ 0
  have b1 := HB.out.at_ 1
  have b2 := HB.out.at_ 2
  have b3 := HB.out.at_ 3
  have b4 := HB.out.at_ 4
  have b5 := HB.out.at_ 5
  have b6 := HB.out.at_ 6
  have b7 := HB.out.at_ 7
  have b8 := HB.out.at_ 8
  have b9 := HB.out.at_ 9
  have b10 := HB.out.at_ 10
  simp at b0 b1 b2 b3 b4 b5 b6 b7 b8 b9 b10
  have l0 : g0 < W.heap.size := HB.out.here
  clear hr hfr hst hqs h0 h1 h2 h3 h4 hs hi
  go_enter Try.func9, Try.ntmps9
  go_upto_region 1 with fail
  rw [← eW]
  clear eW
  try rw [eg]
  go_cut [3] (fun s3 wx => s3 = .bool fr ∧ wx = W)
  case first =>
    go_wp2_with fail
    refine (H0.out _).mono ?_
    rintro e w1 ⟨rfl, rfl⟩
    cases q0 with
    | false =>
      go_wp2_with fail
      go_meet
      exact ⟨by rw [← HF.out]; rfl, rfl⟩
    | true =>
      go_wp2_with fail
      refine (H1.out _).mono ?_
      rintro e w2 ⟨rfl, rfl⟩
      cases q1 with
      | false =>
        go_wp2_with fail
        go_meet
        exact ⟨by rw [← HF.out]; rfl, rfl⟩
      | true =>
        go_wp2_with fail
        refine (H2.out _).mono ?_
        rintro e w3 ⟨rfl, rfl⟩
        cases q2 with
        | false =>
          go_wp2_with fail
          go_meet
          exact ⟨by rw [← HF.out]; rfl, rfl⟩
        | true =>
          go_wp2_with fail
          refine (H3.out _).mono ?_
          rintro e w4 ⟨rfl, rfl⟩
          cases q3 with
          | false =>
            go_wp2_with fail
            go_meet
            exact ⟨by rw [← HF.out]; rfl, rfl⟩
          | true =>
            go_wp2_with fail
            refine (H4.out _).mono ?_
            rintro e w5 ⟨rfl, rfl⟩
            go_wp2_with fail
            go_meet
            exact ⟨by rw [← HF.out]; rfl, rfl⟩
  obtain ⟨rfl, rfl⟩ := hcut
  go_upto_region 2 with fail
  go_cut [4] (fun s4 wx => s4 = .bool st ∧ wx = wc)
  case first =>
    by_cases hd : d = 0
    · have e0 : (d != 0) = false := by simp [hd]
      have HD := hid hd
      clear hd
      by_cases hx : vx = 0
      · have e1 : (vx == 0) = true := by simpa using hx
        have HX := hid hx
        clear hx
        by_cases hy : vy = 0
        · have e2 : (vy == 0) = true := by simpa using hy
          have HY := hid hy
          clear hy
          have HS : Hid (st = (sp == 0)) := by unfold Hid; rw [Bool.eq_iff_iff, HST.out, beq_iff_eq]; exact ⟨fun h => h.elim (fun h => absurd HD.out h) (fun h => h.2.2), fun h => .inr ⟨HX.out, HY.out, h⟩⟩
          go_wp2_with fail
          go_meet
          exact ⟨by rw [HS.out], rfl⟩
        · have e2 : (vy == 0) = false := by simpa using hy
          have HS : Hid (st = false) := Bool.eq_false_iff.2 fun h => (HST.out.1 h).elim (fun h => h HD.out) (fun h => hy h.2.1)
          clear hy
          go_wp2_with fail
          go_meet
          exact ⟨by rw [HS.out], rfl⟩
      · have e1 : (vx == 0) = false := by simpa using hx
        have HS : Hid (st = false) := Bool.eq_false_iff.2 fun h => (HST.out.1 h).elim (fun h => h HD.out) (fun h => hx h.1)
        clear hx
        go_wp2_with fail
        go_meet
        exact ⟨by rw [HS.out], rfl⟩
    · have e0 : (d != 0) = true := by simpa using hd
      have HS : Hid (st = true) := HST.out.2 (.inl hd)
      clear hd
      go_wp2_with fail
      go_meet
      exact ⟨by rw [HS.out], rfl⟩
  obtain ⟨rfl, rfl⟩ := hcut
  go_wp2_with fail
  refine (HRt.out _ KW.out).mono ?_
  rintro e w1 ⟨rfl, k1⟩
  have K1 := hid (KW.out.then_ (k1.low KW.out.1.size))
  have HB1 := hid (HB.out.stays k1 HB.out.here)
  clear k1 b0 b1 b2 b3 b4 b5 b6 b7 b8 b9 b10 l0 HB
  have b0 := HB1.out.at_ 0
  have b1 := HB1.out.at_ 1
  have b2 := HB1.out.at_ 2
  have b3 := HB1.out.at_ 3
  have b4 := HB1.out.at_ 4
  have b5 := HB1.out.at_ 5
  have b6 := HB1.out.at_ 6
  have b7 := HB1.out.at_ 7
  have b8 := HB1.out.at_ 8
  have b9 := HB1.out.at_ 9
  have b10 := HB1.out.at_ 10
  simp at b0 b1 b2 b3 b4 b5 b6 b7 b8 b9 b10
  have l0 : g0 < w1.heap.size := HB1.out.here
  cases qs with
  | false =>
    have HX : Hid (r = false) := Bool.eq_false_iff.2 fun h => by have := (HR.out.1 h).1; simp at this
    go_wp2_with fail
    go_ret
    exact ⟨by rw [HX.out]; rfl, by first | exact K1.out | exact eg ▸ K1.out⟩
  | true =>
    cases fr with
    | false =>
      have HX : Hid (r = false) := Bool.eq_false_iff.2 fun h => by have := (HR.out.1 h).2.1; simp at this
      go_wp2_with fail
      go_ret
      exact ⟨by rw [HX.out]; rfl, by first | exact K1.out | exact eg ▸ K1.out⟩
    | true =>
      cases st with
      | false =>
        have HX : Hid (r = false) := Bool.eq_false_iff.2 fun h => by have := (HR.out.1 h).2.2.1; simp at this
        go_wp2_with fail
        go_ret
        exact ⟨by rw [HX.out]; rfl, by first | exact K1.out | exact eg ▸ K1.out⟩
      | true =>
        by_cases z0 : 0 ≤ an
        · have zz0 := z0
          by_cases z1 : an ≤ 4294967295
          · have zz1 := z1
            by_cases z2 : 0 ≤ d
            · have zz2 := z2
              have HX : Hid (r = decide (d ≤ 4398046511104)) := by unfold Hid; rw [Bool.eq_iff_iff, HR.out, decide_eq_true_iff]; exact ⟨fun h => h.2.2.2.2.2, fun h => ⟨by simp, by simp, by simp, ⟨z0, z1⟩, z2, h⟩⟩
              go_wp2_with fail
              go_ret
              exact ⟨by rw [HX.out]; rfl, by first | exact K1.out | exact eg ▸ K1.out⟩
            · have HX : Hid (r = false) := Bool.eq_false_iff.2 fun h => z2 (HR.out.1 h).2.2.2.2.1
              go_wp2_with fail
              go_ret
              exact ⟨by rw [HX.out]; rfl, by first | exact K1.out | exact eg ▸ K1.out⟩
          · have HX : Hid (r = false) := Bool.eq_false_iff.2 fun h => z1 (HR.out.1 h).2.2.2.1.2
            go_wp2_with fail
            go_ret
            exact ⟨by rw [HX.out]; rfl, by first | exact K1.out | exact eg ▸ K1.out⟩
        · have HX : Hid (r = false) := Bool.eq_false_iff.2 fun h => z0 (HR.out.1 h).2.2.2.1.1
          go_wp2_with fail
          go_ret
          exact ⟨by rw [HX.out]; rfl, by first | exact K1.out | exact eg ▸ K1.out⟩
set_option maxRecDepth 100000 in
set_option maxHeartbeats 8000000 in
theorem joins_c (j : Jt) (r : Bool) (w : World) (hr : r = true ↔ JointP j) :
    Calls Try.prog 8 #[jtV j] w fun e w' => e = .returned (.bool r) ∧ Made w.heap.size w w' := by
  obtain ⟨id, a, b, ax, ay, tx, ty, ln⟩ := j
  obtain ⟨q0, h0⟩ := a_bool (Inn ax 274877906944)
  obtain ⟨q1, h1⟩ := a_bool (Inn ay 274877906944)
  obtain ⟨q2, h2⟩ := a_bool (Inn tx 274877906944)
  obtain ⟨q3, h3⟩ := a_bool (Inn ty 274877906944)
  have HR : Hid (r = true ↔ q0 = true ∧ q1 = true ∧ q2 = true ∧ q3 = true ∧ (0 ≤ ln ∧ ln ≤ 4503599627370496) ∧ 0 < a ∧ 0 < b ∧ a ≠ b) := by
    unfold Hid
    rw [hr, h0, h1, h2, h3]
    constructor
    · intro h; exact ⟨h.ax, h.ay, h.tx, h.ty, h.ln, by have := h.a; simp only [] at this; omega, by have := h.b; simp only [] at this; omega, h.ab⟩
    · rintro ⟨a0, a1, a2, a3, a4, a5, a6, a7⟩; exact ⟨a0, a1, a2, a3, a4, by show 1 ≤ a; omega, by show 1 ≤ b; omega, a7⟩
  have H0 := hid (fun v => lin_c ax 274877906944 q0 v (by omega) (by omega) h0)
  have H1 := hid (fun v => lin_c ay 274877906944 q1 v (by omega) (by omega) h1)
  have H2 := hid (fun v => lin_c tx 274877906944 q2 v (by omega) (by omega) h2)
  have H3 := hid (fun v => lin_c ty 274877906944 q3 v (by omega) (by omega) h3)
  obtain ⟨W, eW⟩ : ∃ W, W = w.alloc (.cells #[.int .i64 id, .int .i64 a, .int .i64 b, .int .i64 ax, .int .i64 ay, .int .i64 tx, .int .i64 ty, .int .i64 ln] 51) := ⟨_, rfl⟩
  have KW : Hid (Made w.heap.size w W) := by unfold Hid; rw [eW]; exact (Made.rfl_ _ _).cells (Nat.le_refl _) _ _
  have HB : Hid (Has W w.heap.size 51 #[.int .i64 id, .int .i64 a, .int .i64 b, .int .i64 ax, .int .i64 ay, .int .i64 tx, .int .i64 ty, .int .i64 ln]) := by unfold Hid; rw [eW]; exact has_new _ _ _
  obtain ⟨g0, eg⟩ : ∃ g, w.heap.size = g := ⟨_, rfl⟩
  rw [eg] at HB
  have b0 := HB.out.at_ 0
  have b1 := HB.out.at_ 1
  have b2 := HB.out.at_ 2
  have b3 := HB.out.at_ 3
  have b4 := HB.out.at_ 4
  have b5 := HB.out.at_ 5
  have b6 := HB.out.at_ 6
  have b7 := HB.out.at_ 7
  simp at b0 b1 b2 b3 b4 b5 b6 b7
  have l0 : g0 < W.heap.size := HB.out.here
  clear hr h0 h1 h2 h3
  go_enter Try.func8, Try.ntmps8
  go_upto_region 1 with fail
  rw [← eW]
  clear eW
  try rw [eg]
  go_wp2_with fail
  refine (H0.out _).mono ?_
  rintro e w1 ⟨rfl, rfl⟩
  cases q0 with
  | false =>
    have HX : Hid (r = false) := Bool.eq_false_iff.2 fun h => by have := (HR.out.1 h).1; simp at this
    go_wp2_with fail
    go_ret
    exact ⟨by rw [HX.out]; rfl, by first | exact KW.out | exact eg ▸ KW.out⟩
  | true =>
    go_wp2_with fail
    refine (H1.out _).mono ?_
    rintro e w2 ⟨rfl, rfl⟩
    cases q1 with
    | false =>
      have HX : Hid (r = false) := Bool.eq_false_iff.2 fun h => by have := (HR.out.1 h).2.1; simp at this
      go_wp2_with fail
      go_ret
      exact ⟨by rw [HX.out]; rfl, by first | exact KW.out | exact eg ▸ KW.out⟩
    | true =>
      go_wp2_with fail
      refine (H2.out _).mono ?_
      rintro e w3 ⟨rfl, rfl⟩
      cases q2 with
      | false =>
        have HX : Hid (r = false) := Bool.eq_false_iff.2 fun h => by have := (HR.out.1 h).2.2.1; simp at this
        go_wp2_with fail
        go_ret
        exact ⟨by rw [HX.out]; rfl, by first | exact KW.out | exact eg ▸ KW.out⟩
      | true =>
        go_wp2_with fail
        refine (H3.out _).mono ?_
        rintro e w4 ⟨rfl, rfl⟩
        cases q3 with
        | false =>
          have HX : Hid (r = false) := Bool.eq_false_iff.2 fun h => by have := (HR.out.1 h).2.2.2.1; simp at this
          go_wp2_with fail
          go_ret
          exact ⟨by rw [HX.out]; rfl, by first | exact KW.out | exact eg ▸ KW.out⟩
        | true =>
          by_cases z0 : 0 ≤ ln
          · have zz0 := z0
            by_cases z1 : ln ≤ 4503599627370496
            · have zz1 := z1
              by_cases z2 : 0 < a
              · have zz2 := z2
                by_cases z3 : 0 < b
                · have zz3 := z3
                  have HX : Hid (r = (a != b)) := by unfold Hid; rw [Bool.eq_iff_iff, HR.out]; simp [z0, z1, z2, z3]
                  go_wp2_with fail
                  go_ret
                  exact ⟨by rw [HX.out]; rfl, by first | exact KW.out | exact eg ▸ KW.out⟩
                · have HX : Hid (r = false) := Bool.eq_false_iff.2 fun h => z3 (HR.out.1 h).2.2.2.2.2.2.1
                  go_wp2_with fail
                  go_ret
                  exact ⟨by rw [HX.out]; rfl, by first | exact KW.out | exact eg ▸ KW.out⟩
              · have HX : Hid (r = false) := Bool.eq_false_iff.2 fun h => z2 (HR.out.1 h).2.2.2.2.2.1
                go_wp2_with fail
                go_ret
                exact ⟨by rw [HX.out]; rfl, by first | exact KW.out | exact eg ▸ KW.out⟩
            · have HX : Hid (r = false) := Bool.eq_false_iff.2 fun h => z1 (HR.out.1 h).2.2.2.2.1.2
              go_wp2_with fail
              go_ret
              exact ⟨by rw [HX.out]; rfl, by first | exact KW.out | exact eg ▸ KW.out⟩
          · have HX : Hid (r = false) := Bool.eq_false_iff.2 fun h => z0 (HR.out.1 h).2.2.2.2.1.1
            go_wp2_with fail
            go_ret
            exact ⟨by rw [HX.out]; rfl, by first | exact KW.out | exact eg ▸ KW.out⟩
abbrev wd0 : Value := .agg #[.int .i64 0, .int .i64 1, .int .i64 1, .int .i64 0, .int .i64 0, .slice none 0 0, .slice none 0 0, .slice none 0 0]
set_option maxRecDepth 100000 in
set_option maxHeartbeats 2000000 in
theorem new_c (w : World) : Calls Try.prog 5 #[] w fun e v => e = .returned wd0 ∧ Made w.heap.size w v := by
  go_enter Try.func5, Try.ntmps5
  go_wp2_with fail
  obtain ⟨W, eW⟩ : ∃ W, W = (w.alloc (.cells #[.int .i64 0, .int .i64 1, .int .i64 1, .int .i64 0, .int .i64 0, .slice none 0 0, .slice none 0 0, .slice none 0 0] 31)) := ⟨_, rfl⟩
  refine bodyPost_ret (v := wd0) (by simp [results, Try.results5, go_sem]) rfl ⟨rfl, ?_⟩
  exact (Made.rfl_ _ _).cells (Nat.le_refl _) _ _
end Go.Proofs.Ytggpchclfikneaa.Fx
