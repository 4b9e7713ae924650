/- Layer 16: FrameBends. -/
import Derived.Test.YtfkggnlefblniaaDoorFrG
import Derived.Test.YtfkggnlefblniaaDoorFrO
import Derived.Test.YtfkggnlefblniaaDoorFrJ
namespace Go.Proofs.YtfkggnlefblniaaDoor.Fx
open Go.ChangeShapes Go.WideShapes Go.ChangeAt Go.RowKit
set_option linter.unusedVariables false

theorem exec_append8 {o : Oper} {a : Act} {u u' : World} {s x : Operand} {t : TypeId} {v v' xv : Value} (ho : o.op = .call { callee := .builtin .append, args := #[s, x], argTypes := #[t, t] }) (hs : a.eval s = v) (hx : a.eval x = xv)
    (hr : (Builtin.append_ #[t, t] o.type #[v, xv]).run Tryd.prog u = .ok v' u') : (execOp a.eval o).run Tryd.prog u = .ok (.value v') u' := by
  unfold execOp
  simp only [ho, resolve, invoke, builtin, Sem.run_bind, Sem.run_pure, Result.andThen_ok, List.map_toArray, List.map_cons, List.map_nil, hs, hx, hr]
def alBe (Z M : Nat) (F1 F4 : Nat → Nat) (i : Nat) (v : World) (g : Nat) (e : MY.Ex) : Prop := OB v Z e.v M (if i = 1 then F1 else F4) ∧ (∃ g' c, e.v = .slice (some ⟨g', 0, none⟩) M c)
theorem alBe_lasts (Z M : Nat) (F1 F4 : Nat → Nat) : MY.Lasts (alBe Z M F1 F4) := fun i u v g e h hh k => ⟨OB.kept h.1 k, h.2⟩
theorem slice_form {W : World} {base size k : Nat} {e : TypeId} {v : Value} {xs : List Value} (h : W.ownsRow base e size v k xs) : ∃ ao c, v = .slice ao k c := by
  rcases h.2 with ⟨rfl, rfl⟩ | ⟨g, cap, cur, rfl, _⟩
  · exact ⟨none, 0, rfl⟩
  · exact ⟨_, _, rfl⟩
theorem OB.form {W : World} {base n : Nat} {v : Value} {f : Nat → Nat} (h : OB W base v n f) (hn : 0 < n) : ∃ g' c, v = .slice (some ⟨g', 0, none⟩) n c := by
  rcases h.2 with ⟨_, h0⟩ | ⟨g, cap, cur, rfl, _⟩
  · omega
  · exact ⟨_, _, rfl⟩
set_option maxRecDepth 100000 in
set_option maxHeartbeats 8000000 in
theorem fbends_walk {m c mask : Nat} {ao : Option Addr} {p : Nat → Nat} {X at_ : Int} {w : World} (hT : Tab w) (hA : ByP w ao m c p) (hmk : mask < 4294967296) :
    Calls Tryd.prog 5 #[.agg #[.int .i64 X, .slice ao m c], .int .i64 at_, .int .u32 (mask : Nat)] w fun e w' => e = .returned (.bool true) ∧ Below w.heap.size w w' := by
  obtain ⟨hA, hp, hmc, hmn⟩ := hA
  obtain ⟨W0, eW0⟩ : ∃ W, W = w.alloc (.cells #[Value.int .i64 X, Value.slice ao m c] 37) := ⟨_, rfl⟩
  obtain ⟨G0, eG0⟩ : ∃ G, w.heap.size = G := ⟨_, rfl⟩
  have K0 : Made w.heap.size w W0 := by rw [eW0]; exact (Made.rfl_ _ _).cells (Nat.le_refl _) _ _
  have P0 : Hid (Has W0 G0 37 #[.int .i64 X, .slice ao m c]) := by unfold Hid; rw [eW0, ← eG0]; exact has_new _ _ _
  have HP := hid hp
  have HA0 := hid (hA.kept K0); have HT0 := hid (hT.kept K0)
  have HK0 := hid K0
  clear hA hT hp K0
  go_enter Tryd.func5, Tryd.ntmps5
  go_upto_region 1 with fail
  rw [← eW0]
  clear eW0
  try rw [eG0]
  go_wp2_with fail
  refine (ffit_c HT0.out).mono ?_
  rintro e w1 ⟨rfl, hw1⟩
  have P1 := hid (P0.out.below hw1 P0.out.here)
  have HA1 := hid (HA0.out.bel hw1)
  have HT1 := hid (HT0.out.bel hw1)
  have HW1 : Hid (Below w.heap.size w w1) := HK0.out.1.trans (hw1.mono HK0.out.1.size)
  have z0 := P1.out.at_ 0
  have z1 := P1.out.at_ 1
  simp at z0 z1
  clear hw1 HA0 HT0 P0 HK0 eG0
  by_cases h1 : m > 500
  · go_wp2_with fail
    go_ret
    exact ⟨rfl, HW1.out⟩
  obtain ⟨N, eN⟩ : ∃ N, posF X = N := ⟨_, rfl⟩
  have hN1 : 0 ≤ N := by rw [← eN]; exact (posF_rg X).1
  have hN2 : N < 4611686018427387904 := by rw [← eN]; exact (posF_rg X).2
  have EN := hid eN
  clear eN
  obtain ⟨M, eM⟩ : ∃ M, m + 20 = M := ⟨_, rfl⟩
  have EM := hid eM
  obtain ⟨R, eR⟩ : ∃ R, recF p m N = R := ⟨_, rfl⟩
  have HRL : Hid (∀ i, R i < 256) := by unfold Hid; rw [← eR]; exact recF_lt HP.out m N
  have ER := hid eR
  have hm32 : m ≤ 4294967295 := by omega
  have mkb : Hid (∀ (G' : Nat → Option (Nat × MY.Ex)) (u : World), MY.Cm w1 (alBy w1.heap.size M R) G' u → Calls Tryd.prog 10 #[.int .i64 N, .slice ao m c] u fun e v => ∃ x, e = .returned x ∧ OB v w1.heap.size x M R ∧ Made u.heap.size u v) := fun G' u hu => by
    refine (fbytes_c HP.out (HT1.out.kept hu.1) (HA1.out.kept hu.1) hm32 (by omega) (by omega)).mono ?_
    rintro e v ⟨ao', c', rfl, hc', h1, h2⟩
    rw [EM.out] at h1 ⊢
    rw [ER.out] at h1
    exact ⟨_, rfl, h1.low hu.1.1.size, h2⟩
  have hM4 : 20 ≤ M := by omega
  have hMx : M ≤ 1000 := by omega
  clear eM eR
  go_upto_region 5 with fail
  refine MY.reg_mk (alBy w1.heap.size M R) 6 [0, 1, 2, 3, 4, 5] [0, 1, 2, 3, 4] [5] [] (fun i => []) (val := valBy) (by kernel_rfl) (by kernel_rfl) (fun p hp => absurd hp (by simp)) ?_
  refine MY.can_class (rest := [5]) [0, 1, 2, 3, 4] [] 74 (alBy_lasts _ _ _) (MY.any_class _) (by kernel_rfl) rfl (by kernel_rfl) (by kernel_rfl) ?_
  apply Exists.intro
  refine ⟨?r1, ?r2⟩
  case r1 =>
    intro Ty hTT fw hf _
    have HN := hid (fun t => hf.same (x := t) ((number_c (n := X) (w := fw t)).mono fun e w' h => by rw [EN.out] at h; exact h))
    have x0 := Class.reads hf z0
    have x1 := Class.reads hf z1
    change wpQuiet _ _ _ _ [_, _, _, _, _] _
    repeat (go_big_quiet_step ((go_at_call 9; with_reducible exact HN.out _)))
    exact wpQuiet_nil rfl
  refine MY.can_mk 5 26 _ rfl rfl rfl rfl ?m2 fun q2 e2 => ?n2
  case m2 =>
    intro G' u _ hu
    rw [show (execOp _ _).run Tryd.prog u = .ok (.enter 10 #[.int .i64 N, .slice ao m c]) u by kernel_rfl]
    show Calls _ _ _ _ _
    refine (mkb.out G' u hu).mono ?_
    rintro e v ⟨x, rfl, h1, h2⟩
    exact ⟨u.heap.size, ⟨v.heap.size, x⟩, rfl, hu.next (alBy_lasts _ _ _) h2 (Nat.le_refl _) h2.1.size (Nat.le_refl _) h1⟩
  rw [show valBy 5 q2 e2 = e2.v from rfl]
  simp only [Act.put, List.setIfInBounds_toArray, List.set_cons_succ, List.set_cons_zero]
  intro w3 hu
  have hO3 : OB w3 w1.heap.size e2.v M R := (hu.2.1 5 (q2, e2) (by unfold MY.upd; simp)).2.2.2
  have k3 := hu.1
  obtain ⟨ao3, c3, ev3, hc3, hc4, hsh⟩ := hO3.shape
  obtain ⟨g3, rfl, hg3, hg4, hg5⟩ := hsh (by omega)
  rw [ev3] at hO3 ⊢
  have HB3 := hid hO3.by_
  have HGG : Hid (G0 < g3) := Nat.lt_of_lt_of_le P1.out.here hg3
  have P3 := hid (P1.out.stays k3 P1.out.here)
  have HA3 := hid (HA1.out.kept k3)
  have HT3 := hid (HT1.out.kept k3)
  have HW3 : Hid (Below w.heap.size w w3) := HW1.out.trans (k3.1.mono HW1.out.size)
  unfold maxLen at hc4
  clear hu hO3 k3 ev3 hsh hg3 hg4 hg5 mkb HA1 HT1 P1 HW1 z0 z1
  simp only [List.drop_succ_cons, List.drop_zero]
  go_wp2_with fail
  refine NoPanic.normal ?_
  obtain ⟨A, eA⟩ : ∃ A : Nat, at_ % 65536 = (A : Int) := ⟨(at_ % 65536).toNat, by omega⟩
  have ha := (show bits .and .i64 at_ 65535 = at_ % 65536 from cand_low at_ 16 (by omega)).trans eA
  obtain ⟨L, eL⟩ : ∃ L, 8 * M = L := ⟨_, rfl⟩
  have hL : (8 : Int) * (M : Int) = (L : Int) := by omega
  have hL0 : 0 < L := by omega
  obtain ⟨K, eK⟩ : ∃ K, A % L = K := ⟨_, rfl⟩
  have ek2 : (A : Int) % (L : Int) = (K : Int) := by rw [← eK]; omega
  have ek3 : (A : Int).tmod (L : Int) = (K : Int) := by rw [Int.tmod_eq_emod_of_nonneg (by omega)]; exact ek2
  have hn0 : (L : Int) ≠ 0 := by omega
  have hnb : ((L : Int) == 0) = false := by simp; omega
  have hKL : K < L := by rw [← eK]; exact Nat.mod_lt _ hL0
  have HKL : Hid (K < 8 * (m + 20)) := by unfold Hid; have := EM.out; omega
  have hLx : L ≤ 8000 := by omega
  clear eA eK eL
  go_upto_region 7 with fail
  go_wp2_with fail
  refine (cbend_c (at_ := (K : Int)) HRL.out HB3.out (by omega) hmk (by omega) (by omega)).mono ?_
  rintro e w4 ⟨v4, rfl, hO, hM⟩
  obtain ⟨g4, c4, rfl⟩ := hO.form (by omega)
  have HB4 := hid hO.by_
  have hc4 : M ≤ c4 ∧ c4 ≤ maxLen := by
    obtain ⟨_, _, e0, q1, q2, _⟩ := hO.shape
    cases e0; exact ⟨q1, q2⟩
  have hc41 := hc4.1
  have HB34 := hid (HB3.out.kept hM)
  have P4 := hid (P3.out.stays hM P3.out.here)
  have HA4 := hid (HA3.out.kept hM)
  have HT4 := hid (HT3.out.kept hM)
  have HW4 : Hid (Below w.heap.size w w4) := HW3.out.trans (hM.1.mono HW3.out.size)
  obtain ⟨B, eB⟩ : ∃ B, bendB R (K : Int) mask 32 = B := ⟨_, rfl⟩
  have HBL : Hid (∀ i, B i < 256) := by unfold Hid; rw [← eB]; exact bendB_lt HRL.out _ _ _
  have EB := hid eB
  rw [eB] at HB4
  obtain ⟨XR, eXR⟩ : ∃ X, strB R M = X := ⟨_, rfl⟩
  obtain ⟨XB, eXB⟩ : ∃ X, strB B M = X := ⟨_, rfl⟩
  have HX : Hid (XB = XR ↔ ∀ i, i < M → B i = R i) := by unfold Hid; rw [← eXR, ← eXB]; exact strB_ext HBL.out HRL.out M
  have s1 : (convert 22 9 (.slice (some ⟨g4, 0, none⟩) M c4)).run Tryd.prog w4 = .ok (.string XB) w4 := by rw [← eXB]; exact conv_by HB4.out
  have s2 : (convert 22 9 (.slice (some ⟨g3, 0, none⟩) M c3)).run Tryd.prog w4 = .ok (.string XR) w4 := by rw [← eXR]; exact conv_by HB34.out
  clear hO hM eB eXR eXB hc4 HB3 HA3 HT3 P3 HW3
  by_cases hEq : XB = XR
  · subst hEq
    have hbb : (XB.toList == XB.toList) = true := by simp
    go_wp2_with fail
    go_ret
    exact ⟨rfl, HW4.out⟩
  have hbb : (XB.toList == XR.toList) = false := str_no hEq
  have HNE : Hid (¬ ∀ i, i < M → B i = R i) := fun h => hEq (HX.out.2 h)
  have z0 := P4.out.at_ 0
  have z1 := P4.out.at_ 1
  simp at z0 z1
  obtain ⟨R1, eR1⟩ : ∃ R1, recF p m 1 = R1 := ⟨_, rfl⟩
  have ER1 := hid eR1
  have HR1L : Hid (∀ i, R1 i < 256) := by unfold Hid; rw [← eR1]; exact recF_lt HP.out m 1
  have mk1 : Hid (∀ (G' : Nat → Option (Nat × MY.Ex)) (u : World), MY.Cm w4 (alBe w4.heap.size M B R1) G' u → ∃ v' u', (Builtin.append_ #[22, 22] 22 #[.slice none 0 0, .slice (some ⟨g4, 0, none⟩) M c4]).run Tryd.prog u = .ok v' u' ∧ OB u' w4.heap.size v' M B ∧ Made u.heap.size u u') := fun G' u hu => by
    obtain ⟨v', u', hr, hO, hM⟩ := append_copy (c := c4) 22 (HB4.out.kept hu.1) (by omega)
    exact ⟨v', u', hr, hO.low hu.1.1.size, hM⟩
  have mk4 : Hid (∀ (G' : Nat → Option (Nat × MY.Ex)) (u : World), MY.Cm w4 (alBe w4.heap.size M B R1) G' u → Calls Tryd.prog 10 #[.int .i64 1, .slice ao m c] u fun e v => ∃ x, e = .returned x ∧ OB v w4.heap.size x M R1 ∧ Made u.heap.size u v) := fun G' u hu => by
    refine (fbytes_c (n := 1) HP.out (HT4.out.kept hu.1) (HA4.out.kept hu.1) hm32 (by omega) (by omega)).mono ?_
    rintro e v ⟨ao', c', rfl, hc', h1, h2⟩
    rw [EM.out] at h1 ⊢
    rw [ER1.out] at h1
    exact ⟨_, rfl, h1.low hu.1.1.size, h2⟩
  clear eR1 HX hEq
  go_upto_region 10 with fail
  clear s1 s2
  refine MY.reg_mk (alBe w4.heap.size M B R1) 5 [0, 2, 3, 1, 4] [0, 2, 3] [1, 4] [] (fun i => []) (val := valBy) (by kernel_rfl) (by kernel_rfl) (fun p hp => absurd hp (by simp)) ?_
  refine MY.can_class (rest := [1, 4]) [0, 2, 3] [] 74 (alBe_lasts _ _ _ _) (MY.any_class _) (by kernel_rfl) rfl (by kernel_rfl) (by kernel_rfl) ?_
  apply Exists.intro
  refine ⟨?r3, ?r4⟩
  case r3 =>
    intro Ty hTT fw hf _
    have x1 := Class.reads hf z1
    change wpQuiet _ _ _ _ [_, _, _] _
    repeat (go_big_quiet_step (fail))
    exact wpQuiet_nil rfl
  refine MY.can_mk 1 43 _ rfl rfl rfl rfl ?m3 fun q5 e5 => ?n3
  case m3 =>
    intro G' u _ hu
    obtain ⟨v', u', hr, hO, hM⟩ := mk1.out G' u hu
    rw [exec_append8 rfl (v := .slice none 0 0) (xv := .slice (some ⟨g4, 0, none⟩) M c4) rfl rfl hr]
    exact ⟨u.heap.size, ⟨u'.heap.size, v'⟩, rfl, hu.next (alBe_lasts _ _ _ _) hM (Nat.le_refl _) hM.1.size (Nat.le_refl _) ⟨hO, hO.form (by omega)⟩⟩
  rw [show valBy 1 q5 e5 = e5.v from rfl]
  simp only [Act.put, List.setIfInBounds_toArray, List.set_cons_succ, List.set_cons_zero]
  refine MY.can_mk 4 46 _ rfl rfl rfl rfl ?m4 fun q6 e6 => ?n4
  case m4 =>
    intro G' u _ hu
    rw [show (execOp _ _).run Tryd.prog u = .ok (.enter 10 #[.int .i64 1, .slice ao m c]) u by kernel_rfl]
    show Calls _ _ _ _ _
    refine (mk4.out G' u hu).mono ?_
    rintro e v ⟨x, rfl, h1, h2⟩
    exact ⟨u.heap.size, ⟨v.heap.size, x⟩, rfl, hu.next (alBe_lasts _ _ _ _) h2 (Nat.le_refl _) h2.1.size (Nat.le_refl _) ⟨h1, h1.form (by omega)⟩⟩
  rw [show valBy 4 q6 e6 = e6.v from rfl]
  simp only [Act.put, List.setIfInBounds_toArray, List.set_cons_succ, List.set_cons_zero]
  intro w7 hu
  obtain ⟨hO5, g5, c5, ev5⟩ := (hu.2.1 1 (q5, e5) (by unfold MY.upd; simp)).2.2.2
  obtain ⟨hO6, g6, c6, ev6⟩ := (hu.2.1 4 (q6, e6) (by unfold MY.upd; simp)).2.2.2
  have hO5 : OB w7 w4.heap.size e5.v M B := hO5
  have hO6 : OB w7 w4.heap.size e6.v M R1 := hO6
  have k7 := hu.1
  rw [ev5] at hO5 ⊢
  rw [ev6] at hO6 ⊢
  obtain ⟨v8, w8, hr8, hO8, hg8, hz8⟩ := append_by (c := c6) 22 hO5 hO6.by_ (by omega) k7.1.size
  have hM8 : Made w4.heap.size w4 w8 := k7.app hg8 hz8 k7.1.size (fun b hb => (hO5.lt b hb).1)
  obtain ⟨g8, c8, rfl⟩ := hO8.form (by omega)
  have hc8 : M + M ≤ c8 ∧ c8 ≤ maxLen := by
    obtain ⟨_, _, e0, q1, q2, _⟩ := hO8.shape
    cases e0; exact ⟨q1, q2⟩
  have hc81 := hc8.1
  have hc82 := hc8.2
  unfold maxLen at hc82
  have HR8 := hid hr8
  have HB8 := hid hO8.by_
  have HT8 := hid (HT4.out.kept hM8)
  have HW8 : Hid (Below w.heap.size w w8) := HW4.out.trans (hM8.1.mono HW4.out.size)
  have HJL : Hid (∀ i, joinB B R1 M i < 256) := joinB_lt HBL.out HR1L.out M
  have HNO : Hid (¬ IsRec (joinB B R1 M) (M + M) 16777216) := bent_none (p := p) (m := m) (a := K) (mask := mask) (n := N) HP.out (by omega) hmk hN1 (by omega) HKL.out HJL.out
    (fun i hi => by rw [show joinB B R1 M i = B i by unfold joinB; rw [if_pos (by have := EM.out; omega)], ← EB.out, ER.out]) (fun h => HNE.out fun i hi => by have h2 := h i (by have := EM.out; omega); rw [ER.out, EB.out] at h2; exact h2)
  clear hu hO5 hO6 k7 ev5 ev6 hr8 hO8 hg8 hz8 hM8 hc8 mk1 mk4 z0 z1
  simp only [List.drop_succ_cons, List.drop_zero]
  go_wp2_with (at_builtin; refine Lib.wpList_append_run _ rfl _ _ _ _ rfl _ _ rfl rfl _ _ HR8.out ?_)
  refine NoPanic.normal ?_
  go_wp2_with fail
  refine (next_c (most := 16777216) HJL.out HT8.out HB8.out hc81 (by omega) (by omega) (by omega)).mono ?_
  rintro e w9 ⟨a9, v9, k9, q9, rfl, hq, ht, hf, hM⟩
  have hq1 : q9 = false := by cases q9 with
    | false => rfl
    | true => exact absurd (hq.1 rfl) HNO.out
  subst hq1
  obtain ⟨rfl, rfl, rfl⟩ := hf rfl
  obtain ⟨W10, eW10⟩ : ∃ W, W = w9.alloc (.cells #[Value.int .i64 0, Value.slice none 0 0] 28) := ⟨_, rfl⟩
  have K10 : Made w9.heap.size w9 W10 := by rw [eW10]; exact (Made.rfl_ _ _).cells (Nat.le_refl _) _ _
  have J10 := hM.then_ (K10.low hM.1.size)
  have HB10 := hid (HB8.out.kept J10)
  have HT10 := hid (HT8.out.kept J10)
  have HW10 : Hid (Below w.heap.size w W10) := HW8.out.trans (J10.1.mono HW8.out.size)
  clear hq ht hf hM K10 J10 HR8
  go_upto_region 12 with fail
  rw [← eW10]
  clear eW10
  go_wp2_with fail
  refine (all_c (most := 16777216) HJL.out HT10.out HB10.out hc81 (by omega) (by omega) (by omega) (by omega)).mono ?_
  rintro e w11 ⟨v11, xs, rfl, hxs, hrow, hrows, hsum, hBel⟩
  rw [recsF_no HNO.out] at hxs
  have hx0 : xs = [] := by simpa using hxs
  subst hx0
  obtain ⟨ao11, c11, rfl⟩ := slice_form hrow
  have HW11 : Hid (Below w.heap.size w w11) := HW10.out.trans (hBel.mono HW10.out.size)
  have e11 : sumE ([] : List Rc) = 0 := rfl
  rw [e11]
  clear hxs hrow hrows hsum hBel e11
  go_wp2_with fail
  go_ret
  exact ⟨rfl, HW11.out⟩
theorem fbends_i {x : Pr} {at_ mask : Int} {w : World} (hT : Tab w) (hx : PrI w x) (hm : (Lit.int .u32 mask).wf = true) :
    Calls Tryd.prog 5 #[.agg #[.int .i64 x.num, .slice x.ao x.m x.c], .int .i64 at_, .int .u32 mask] w fun e w' => e = .returned (.bool true) ∧ Below w.heap.size w w' := by
  have b := bounds_u32 hm
  have h := fbends_walk (mask := mask.toNat) (X := x.num) (at_ := at_) hT hx.2 (by omega)
  rwa [show ((mask.toNat : Nat) : Int) = mask by omega] at h
end Go.Proofs.YtfkggnlefblniaaDoor.Fx
