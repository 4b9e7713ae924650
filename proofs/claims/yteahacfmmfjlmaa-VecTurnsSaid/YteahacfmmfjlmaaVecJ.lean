/- VecTurns: the walk. -/
import Derived.Test.YteahacfmmfjlmaaVecF
import Derived.Test.YteahacfmmfjlmaaVecR
namespace Go.Proofs.Yteahacfmmfjlmaa.Fx
open Go.ChangeShapes Go.WideShapes Go.ChangeAt Go.RowKit
set_option linter.unusedVariables false

theorem addv_is (a b r : Int) (w : World) (ha : I64 a) (hb : I64 b) (e : addF a b = r) : Calls Try.prog 12 #[.int .i64 a, .int .i64 b] w fun e w' => e = .returned (.int .i64 r) ∧ w = w' := by subst e; exact add_c a b w ha hb
theorem turnOf_as (t c s : Int) (w : World) (h : I64 t) (ec : cs (stepF t) = c) (es : sn (stepF t) = s) : Calls Try.prog 28 #[.int .i64 t] w fun e w' => e = .returned (rotV c s) ∧ Made w.heap.size w w' := by subst ec; subst es; exact turnOf_c t w h
theorem th_bring {a : Int} (h : I64 a) : Th (bringF a (negF 4294967296000) 4294967296000) := by
  have := bring_around h (m := 4294967296000) (by omega) (by omega)
  rw [show negF 4294967296000 = -4294967296000 from by decide]
  exact ⟨this.1, this.2.1⟩
theorem zero_mul (a : Int) : mulF 0 a = 0 := by rw [mul_comm', mul_zero]
theorem one_mul {a : Int} (h : Rg a) : mulF 4294967296 a = a := by rw [mul_comm', mul_one h]
theorem sub_small {a b : Int} (ha : Rg a) (hb : Rg b) (h : Rg (a - b)) : subF a b = a - b := by
  unfold subF; rw [negR hb, addR ha (Rg_neg hb), show a + -b = a - b by omega, satR h]
theorem abs_small {a n : Int} (h0 : -n < a) (h1 : a < n) (hn : n ≤ 9223372036854775807) : absF a < n := by
  rw [absR (by unfold Rg; omega)]; split <;> omega
/-- all that the statement asks of the numbers -/
theorem turns_plain {A B C S : Int} (hA : Th A) (hB : Th B) (hC : Cn C) (hS : Cn S) (hn : 18446744056529682432 ≤ C * C + S * S ∧ C * C + S * S ≤ 18446744090889420800) :
    absF (subF (addF (mulF C (subF (mulF C A) (mulF S B))) (mulF S (addF (mulF S A) (mulF C B)))) A) < 8000 ∧
    absF (subF (subF (mulF C (addF (mulF S A) (mulF C B))) (mulF S (subF (mulF C A) (mulF S B)))) B) < 8000 ∧
    (-1048576 < lenF (subF (mulF C A) (mulF S B)) (addF (mulF S A) (mulF C B)) - lenF A B ∧ lenF (subF (mulF C A) (mulF S B)) (addF (mulF S A) (mulF C B)) - lenF A B < 1048576) := by
  obtain ⟨p0, p1⟩ := turn_sub hC hS hA hB (by omega)
  obtain ⟨q0, q1⟩ := turn_add hS hC hA hB (by omega)
  generalize subF (mulF C A) (mulF S B) = p at *
  generalize addF (mulF S A) (mulF C B) = q at *
  obtain ⟨c0, c1⟩ := turn_add (X := 8589934592000) hC hS (by omega) (by omega) (by omega) (a := p) (b := q)
  obtain ⟨d0, d1⟩ := turn_sub (X := 8589934592000) hC hS (by omega) (by omega) (by omega) (a := q) (b := p)
  generalize addF (mulF C p) (mulF S q) = c at *
  generalize subF (mulF C q) (mulF S p) = d at *
  have h1 := back_near hC hS hn hA p1 q1 c1
  have h2 := back_near (C := C) (S := -S) (a := B) (b := A) (p := q) (q := p) (c := d) hC (by unfold Cn at *; omega) (by rw [Int.neg_mul_neg]; exact hn) hB
    (by rw [Int.neg_mul]; omega) (by rw [Int.neg_mul]; omega) (by rw [Int.neg_mul]; omega)
  have h3 := len_near hC hS hn hA hB (p := p) (q := q) (by unfold Sm; omega) (by unfold Sm; omega) p1 q1
  unfold Th at hA hB
  refine ⟨?_, ?_, h3⟩
  · rw [sub_small (by unfold Rg; omega) (by unfold Rg; omega) (by unfold Rg; omega)]; exact abs_small (by omega) (by omega) (by omega)
  · rw [sub_small (by unfold Rg; omega) (by unfold Rg; omega) (by unfold Rg; omega)]; exact abs_small (by omega) (by omega) (by omega)
set_option maxRecDepth 100000 in
set_option maxHeartbeats 4000000 in
theorem vturns_walk (a b t : Int) (w : World) (ha : I64 a) (hb : I64 b) (ht : I64 t) :
    Calls Try.prog 5 #[vecV a b, .int .i64 t] w fun e w' => e = .returned (.bool true) ∧ Grown w w' := by
  obtain ⟨A, eA⟩ : ∃ A, bringF a (negF 4294967296000) 4294967296000 = A := ⟨_, rfl⟩
  have sA := th_bring ha
  rw [eA] at sA
  have rA := Sm_Rg (th_sm sA)
  have iA := i64_rg rA
  have iNA := i64_rg (Rg_neg rA)
  have EA := hid eA
  obtain ⟨B, eB⟩ : ∃ B, bringF b (negF 4294967296000) 4294967296000 = B := ⟨_, rfl⟩
  have sB := th_bring hb
  rw [eB] at sB
  have rB := Sm_Rg (th_sm sB)
  have iB := i64_rg rB
  have iNB := i64_rg (Rg_neg rB)
  have EB := hid eB
  have iM : I64 4294967296000 := by unfold I64; omega
  have i0 : I64 0 := by unfold I64; omega
  have i1 : I64 4294967296 := by unfold I64; omega
  have bk := stepF_bd t
  have hn := norm_near (stepF t) bk.1 bk.2
  have bC : Cn (cs (stepF t)) := cs_bd _
  have bS : Cn (sn (stepF t)) := sn_bd _
  obtain ⟨C, eC⟩ : ∃ C, cs (stepF t) = C := ⟨_, rfl⟩
  obtain ⟨S, eS⟩ : ∃ S, sn (stepF t) = S := ⟨_, rfl⟩
  rw [eC] at bC hn
  rw [eS] at bS hn
  have iC := i64_rg (Sm_Rg (cn_sm bC))
  have iS := i64_rg (Sm_Rg (cn_sm bS))
  obtain ⟨l1, l2, l3⟩ := turns_plain sA sB bC bS hn
  obtain ⟨p, ep⟩ : ∃ p, subF (mulF C A) (mulF S B) = p := ⟨_, rfl⟩
  obtain ⟨q, eq⟩ : ∃ q, addF (mulF S A) (mulF C B) = q := ⟨_, rfl⟩
  have ip := i64_sub (mulF C A) (mulF S B)
  have iq := i64_add (mulF S A) (mulF C B)
  rw [ep] at l1 l2 l3 ip
  rw [eq] at l1 l2 l3 iq
  obtain ⟨c, ec⟩ : ∃ c, addF (mulF C p) (mulF S q) = c := ⟨_, rfl⟩
  obtain ⟨d, ed⟩ : ∃ d, subF (mulF C q) (mulF S p) = d := ⟨_, rfl⟩
  have ic := i64_add (mulF C p) (mulF S q)
  have id := i64_sub (mulF C q) (mulF S p)
  rw [ec] at l1 ic
  rw [ed] at l2 id
  obtain ⟨U, eU⟩ : ∃ U, subF c A = U := ⟨_, rfl⟩
  obtain ⟨V, eV⟩ : ∃ V, subF d B = V := ⟨_, rfl⟩
  have iU := i64_sub c A
  have iV := i64_sub d B
  rw [eU] at l1 iU
  rw [eV] at l2 iV
  obtain ⟨X, eX⟩ : ∃ X, absF U = X := ⟨_, rfl⟩
  obtain ⟨Y, eY⟩ : ∃ Y, absF V = Y := ⟨_, rfl⟩
  rw [eX] at l1
  rw [eY] at l2
  have b1 : 0 ≤ lenF A B ∧ lenF A B < 281474976710656 := sqrt_bd _
  have b2 : 0 ≤ lenF p q ∧ lenF p q < 281474976710656 := sqrt_bd _
  obtain ⟨N, eN⟩ : ∃ N, lenF A B = N := ⟨_, rfl⟩
  obtain ⟨M, eM⟩ : ∃ M, lenF p q = M := ⟨_, rfl⟩
  rw [eM, eN] at l3
  rw [eN] at b1
  rw [eM] at b2
  have l4 := abs_small l3.1 l3.2 (by omega)
  obtain ⟨J, eJ⟩ : ∃ J, absF (M - N) = J := ⟨_, rfl⟩
  rw [eJ] at l4
  obtain ⟨N0, N1⟩ := b1
  obtain ⟨M0, M1⟩ := b2
  have iJ : I64 (M - N) := by unfold I64; omega
  have g1 : decide (X < 8000) = true := decide_eq_true l1
  have g2 : decide (Y < 8000) = true := decide_eq_true l2
  have g3 : decide (J < 1048576) = true := decide_eq_true l4
  have Q1 : Hid (subF (mulF 0 A) (mulF 4294967296 B) = -B) := hid (by rw [zero_mul, one_mul rB, sub_small (by unfold Rg; omega) rB (by unfold Rg at *; omega)]; omega)
  have Q2 : Hid (addF (mulF 4294967296 A) (mulF 0 B) = A) := hid (by rw [zero_mul, one_mul rA, add_zero rA])
  have Q3 : Hid (addF (mulF 0 (-B)) (mulF 4294967296 A) = A) := hid (by rw [zero_mul, one_mul rA, add_comm', add_zero rA])
  have Q4 : Hid (subF (mulF 0 A) (mulF 4294967296 (-B)) = B) := hid (by rw [zero_mul, one_mul (Rg_neg rB), sub_small (by unfold Rg; omega) (Rg_neg rB) (by unfold Rg at *; omega)]; omega)
  have NB : Hid (negF B = -B) := hid (negR rB)
  have EC := hid eC
  have ES := hid eS
  have Ep := hid ep
  have Eq := hid eq
  have Ec := hid ec
  have Ed := hid ed
  have EU := hid eU
  have EV := hid eV
  have EX := hid eX
  have EY := hid eY
  have EN := hid eN
  have EM := hid eM
  have EJ := hid eJ
  clear eA eB eC eS ep eq ec ed eU eV eX eY eN eM eJ l1 l2 l3 l4 sA sB rA rB bC bS hn bk
  go_enter Try.func5, Try.ntmps5
  go_wp2_with fail
  refine (vfit_c _).mono ?_
  rintro e w1 ⟨rfl, k1⟩
  have P1 := (has_new w 24 #[.int .i64 a, .int .i64 b]).stays k1 (by simp; try omega)
  have hw1 := hid (made_box k1)
  clear k1
  have c0 := P1.at_ 0
  have c1 := P1.at_ 1
  simp at c0 c1
  go_wp2_with fail
  refine (vbring_is a b 4294967296000 A B _ ha hb iM EA.out EB.out).mono ?_
  rintro e w2 ⟨rfl, k2⟩
  have P2 := P1.stays k2 P1.here
  have hw2 := hid (hw1.out.then_ (k2.low hw1.out.1.size))
  clear P1 k2 c0 c1
  have c0 := P2.at_ 0
  have c1 := P2.at_ 1
  have m0 := P2.free 0
  have m1 := P2.free 1
  simp at c0 c1 m0 m1
  go_wp2_with fail
  obtain ⟨W, eW⟩ : ∃ W, W = ((w2.setCell ⟨w.heap.size, 0, none⟩ (.int .i64 A)).setCell ⟨w.heap.size, 1, none⟩ (.int .i64 B)) := ⟨_, rfl⟩
  have z0 : W.cell? ⟨w.heap.size, 0, none⟩ = some (.int .i64 A) := by rw [eW]; go_simp
  have z1 : W.cell? ⟨w.heap.size, 1, none⟩ = some (.int .i64 B) := by rw [eW]; go_simp
  have hW : Hid (Made w.heap.size w W) := by rw [eW]; exact (hw2.out.put (by simp) _).put (by simp) _
  rw [← eW]
  clear eW P2 hw2 c0 c1 m0 m1
  refine (turnOf_as t C S _ ht EC.out ES.out).mono ?_
  rintro e w3 ⟨rfl, k3⟩
  have hW := hid (hW.out.then_ (k3.low hW.out.1.size))
  have z0 := k3.reads z0
  have z1 := k3.reads z1
  have sz : w.heap.size < w3.heap.size := World.block_lt_of_cell? _ _ z0
  clear k3
  go_wp2_with fail
  obtain ⟨W3, eW⟩ : ∃ W', W' = w3.alloc (.cells #[.int .i64 C, .int .i64 S] 39) := ⟨_, rfl⟩
  have z0 : W3.cell? ⟨w.heap.size, 0, none⟩ = some (.int .i64 A) := by rw [eW]; go_simp
  have z1 : W3.cell? ⟨w.heap.size, 1, none⟩ = some (.int .i64 B) := by rw [eW]; go_simp
  have r0 : W3.cell? ⟨w3.heap.size, 0, none⟩ = some (.int .i64 C) := by rw [eW]; go_simp
  have r1 : W3.cell? ⟨w3.heap.size, 1, none⟩ = some (.int .i64 S) := by rw [eW]; go_simp
  have hW : Hid (Made w.heap.size w W3) := by rw [eW]; exact hW.out.cells (Nat.le_of_lt sz) _ _
  rw [← eW]
  clear eW sz
  refine (vapply_is C S A B p q _ iC iS iA iB Ep.out Eq.out).mono ?_
  rintro e w4 ⟨rfl, k4⟩
  have hW := hid (hW.out.then_ (k4.low hW.out.1.size))
  have z0 := k4.reads z0
  have z1 := k4.reads z1
  have r0 := k4.reads r0
  have r1 := k4.reads r1
  have sz : w.heap.size < w4.heap.size := World.block_lt_of_cell? _ _ z0
  have sr : w3.heap.size < w4.heap.size := World.block_lt_of_cell? _ _ r0
  clear k4
  go_wp2_with fail
  obtain ⟨W4, eW⟩ : ∃ W', W' = w4.alloc (.cells #[.int .i64 p, .int .i64 q] 24) := ⟨_, rfl⟩
  have z0 : W4.cell? ⟨w.heap.size, 0, none⟩ = some (.int .i64 A) := by rw [eW]; go_simp
  have z1 : W4.cell? ⟨w.heap.size, 1, none⟩ = some (.int .i64 B) := by rw [eW]; go_simp
  have r0 : W4.cell? ⟨w3.heap.size, 0, none⟩ = some (.int .i64 C) := by rw [eW]; go_simp
  have r1 : W4.cell? ⟨w3.heap.size, 1, none⟩ = some (.int .i64 S) := by rw [eW]; go_simp
  have b0 : W4.cell? ⟨w4.heap.size, 0, none⟩ = some (.int .i64 p) := by rw [eW]; go_simp
  have b1 : W4.cell? ⟨w4.heap.size, 1, none⟩ = some (.int .i64 q) := by rw [eW]; go_simp
  have hW : Hid (Made w.heap.size w W4) := by rw [eW]; exact hW.out.cells (Nat.le_of_lt sz) _ _
  rw [← eW]
  clear eW sz sr
  refine reg_made (by kernel_rfl) (by kernel_rfl) ?_
  intro T hT f hf
  have uz0 := Class.reads hf z0
  have uz1 := Class.reads hf z1
  have ur0 := Class.reads hf r0
  have ur1 := Class.reads hf r1
  have ub0 := Class.reads hf b0
  have ub1 := Class.reads hf b1
  repeat (go_big_quiet_step ((first
    | (go_at_call 17; with_reducible exact hf.same (mul_c _ _ _ (by assumption) (by assumption)))
    | (go_at_call 14; with_reducible exact hf.same (sub_is (mulF C A) (mulF S B) p _ (i64_mul _ _) (i64_mul _ _) Ep.out))
    | (go_at_call 12; with_reducible exact hf.same (addv_is (mulF S A) (mulF C B) q _ (i64_mul _ _) (i64_mul _ _) Eq.out)))))
  refine wpQuiet_nil ?_
  intro w5 h5
  have k5 := hf.here h5
  have hW := hid (hW.out.then_ (k5.low hW.out.1.size))
  have z0 := k5.reads z0
  have z1 := k5.reads z1
  have r0 := k5.reads r0
  have r1 := k5.reads r1
  have b0 := k5.reads b0
  have b1 := k5.reads b1
  clear k5 hf h5 uz0 uz1 ur0 ur1 ub0 ub1
  go_wp2_with fail
  refine (vback_is C S p q c d _ iC iS ip iq Ec.out Ed.out).mono ?_
  rintro e w6 ⟨rfl, k6⟩
  have hW := hid (hW.out.then_ (k6.low hW.out.1.size))
  have z0 := k6.reads z0
  have z1 := k6.reads z1
  have r0 := k6.reads r0
  have r1 := k6.reads r1
  have b0 := k6.reads b0
  have b1 := k6.reads b1
  have sz : w.heap.size < w6.heap.size := World.block_lt_of_cell? _ _ z0
  have sr : w3.heap.size < w6.heap.size := World.block_lt_of_cell? _ _ r0
  have sb : w4.heap.size < w6.heap.size := World.block_lt_of_cell? _ _ b0
  clear k6
  go_wp2_with fail
  obtain ⟨W6, eW⟩ : ∃ W', W' = w6.alloc (.cells #[.int .i64 c, .int .i64 d] 24) := ⟨_, rfl⟩
  have z0 : W6.cell? ⟨w.heap.size, 0, none⟩ = some (.int .i64 A) := by rw [eW]; go_simp
  have z1 : W6.cell? ⟨w.heap.size, 1, none⟩ = some (.int .i64 B) := by rw [eW]; go_simp
  have r0 : W6.cell? ⟨w3.heap.size, 0, none⟩ = some (.int .i64 C) := by rw [eW]; go_simp
  have r1 : W6.cell? ⟨w3.heap.size, 1, none⟩ = some (.int .i64 S) := by rw [eW]; go_simp
  have b0 : W6.cell? ⟨w4.heap.size, 0, none⟩ = some (.int .i64 p) := by rw [eW]; go_simp
  have b1 : W6.cell? ⟨w4.heap.size, 1, none⟩ = some (.int .i64 q) := by rw [eW]; go_simp
  have c0 : W6.cell? ⟨w6.heap.size, 0, none⟩ = some (.int .i64 c) := by rw [eW]; go_simp
  have c1 : W6.cell? ⟨w6.heap.size, 1, none⟩ = some (.int .i64 d) := by rw [eW]; go_simp
  have hW : Hid (Made w.heap.size w W6) := by rw [eW]; exact hW.out.cells (Nat.le_of_lt sz) _ _
  rw [← eW]
  clear eW sz sr sb
  refine reg_made (by kernel_rfl) (by kernel_rfl) ?_
  intro T hT f hf
  have uz0 := Class.reads hf z0
  have uz1 := Class.reads hf z1
  have ur0 := Class.reads hf r0
  have ur1 := Class.reads hf r1
  have ub0 := Class.reads hf b0
  have ub1 := Class.reads hf b1
  have uc0 := Class.reads hf c0
  have uc1 := Class.reads hf c1
  repeat (go_big_quiet_step ((first
    | (go_at_call 17; with_reducible exact hf.same (mul_c _ _ _ (by assumption) (by assumption)))
    | (go_at_call 14; with_reducible exact hf.same (sub_is (mulF C q) (mulF S p) d _ (i64_mul _ _) (i64_mul _ _) Ed.out))
    | (go_at_call 12; with_reducible exact hf.same (addv_is (mulF C p) (mulF S q) c _ (i64_mul _ _) (i64_mul _ _) Ec.out)))))
  refine wpQuiet_nil ?_
  intro w7 h7
  have k7 := hf.here h7
  have hW := hid (hW.out.then_ (k7.low hW.out.1.size))
  have z0 := k7.reads z0
  have z1 := k7.reads z1
  have r0 := k7.reads r0
  have r1 := k7.reads r1
  have b0 := k7.reads b0
  have b1 := k7.reads b1
  have c0 := k7.reads c0
  have c1 := k7.reads c1
  clear k7 hf h7 uz0 uz1 ur0 ur1 ub0 ub1 uc0 uc1
  go_wp2_with fail
  refine (vsub_is c d A B U V _ ic id iA iB EU.out EV.out).mono ?_
  rintro e w8 ⟨rfl, k8⟩
  have hW := hid (hW.out.then_ (k8.low hW.out.1.size))
  have z0 := k8.reads z0
  have z1 := k8.reads z1
  have r0 := k8.reads r0
  have r1 := k8.reads r1
  have b0 := k8.reads b0
  have b1 := k8.reads b1
  have c0 := k8.reads c0
  have c1 := k8.reads c1
  have sz : w.heap.size < w8.heap.size := World.block_lt_of_cell? _ _ z0
  have sr : w3.heap.size < w8.heap.size := World.block_lt_of_cell? _ _ r0
  have sb : w4.heap.size < w8.heap.size := World.block_lt_of_cell? _ _ b0
  have sc : w6.heap.size < w8.heap.size := World.block_lt_of_cell? _ _ c0
  clear k8
  go_wp2_with fail
  obtain ⟨W8, eW⟩ : ∃ W', W' = w8.alloc (.cells #[.int .i64 U, .int .i64 V] 24) := ⟨_, rfl⟩
  have z0 : W8.cell? ⟨w.heap.size, 0, none⟩ = some (.int .i64 A) := by rw [eW]; go_simp
  have z1 : W8.cell? ⟨w.heap.size, 1, none⟩ = some (.int .i64 B) := by rw [eW]; go_simp
  have r0 : W8.cell? ⟨w3.heap.size, 0, none⟩ = some (.int .i64 C) := by rw [eW]; go_simp
  have r1 : W8.cell? ⟨w3.heap.size, 1, none⟩ = some (.int .i64 S) := by rw [eW]; go_simp
  have b0 : W8.cell? ⟨w4.heap.size, 0, none⟩ = some (.int .i64 p) := by rw [eW]; go_simp
  have b1 : W8.cell? ⟨w4.heap.size, 1, none⟩ = some (.int .i64 q) := by rw [eW]; go_simp
  have c0 : W8.cell? ⟨w6.heap.size, 0, none⟩ = some (.int .i64 c) := by rw [eW]; go_simp
  have c1 : W8.cell? ⟨w6.heap.size, 1, none⟩ = some (.int .i64 d) := by rw [eW]; go_simp
  have d0 : W8.cell? ⟨w8.heap.size, 0, none⟩ = some (.int .i64 U) := by rw [eW]; go_simp
  have d1 : W8.cell? ⟨w8.heap.size, 1, none⟩ = some (.int .i64 V) := by rw [eW]; go_simp
  have hW : Hid (Made w.heap.size w W8) := by rw [eW]; exact hW.out.cells (Nat.le_of_lt sz) _ _
  rw [← eW]
  clear eW sz sr sb sc
  refine (quarter_c _).mono ?_
  rintro e w9 ⟨rfl, k9⟩
  have hW := hid (hW.out.then_ (k9.low hW.out.1.size))
  have z0 := k9.reads z0
  have z1 := k9.reads z1
  have r0 := k9.reads r0
  have r1 := k9.reads r1
  have b0 := k9.reads b0
  have b1 := k9.reads b1
  have c0 := k9.reads c0
  have c1 := k9.reads c1
  have d0 := k9.reads d0
  have d1 := k9.reads d1
  have sz : w.heap.size < w9.heap.size := World.block_lt_of_cell? _ _ z0
  have sr : w3.heap.size < w9.heap.size := World.block_lt_of_cell? _ _ r0
  have sb : w4.heap.size < w9.heap.size := World.block_lt_of_cell? _ _ b0
  have sc : w6.heap.size < w9.heap.size := World.block_lt_of_cell? _ _ c0
  have sd : w8.heap.size < w9.heap.size := World.block_lt_of_cell? _ _ d0
  clear k9
  go_wp2_with fail
  obtain ⟨W9, eW⟩ : ∃ W', W' = w9.alloc (.cells #[.int .i64 0, .int .i64 4294967296] 39) := ⟨_, rfl⟩
  have z0 : W9.cell? ⟨w.heap.size, 0, none⟩ = some (.int .i64 A) := by rw [eW]; go_simp
  have z1 : W9.cell? ⟨w.heap.size, 1, none⟩ = some (.int .i64 B) := by rw [eW]; go_simp
  have r0 : W9.cell? ⟨w3.heap.size, 0, none⟩ = some (.int .i64 C) := by rw [eW]; go_simp
  have r1 : W9.cell? ⟨w3.heap.size, 1, none⟩ = some (.int .i64 S) := by rw [eW]; go_simp
  have b0 : W9.cell? ⟨w4.heap.size, 0, none⟩ = some (.int .i64 p) := by rw [eW]; go_simp
  have b1 : W9.cell? ⟨w4.heap.size, 1, none⟩ = some (.int .i64 q) := by rw [eW]; go_simp
  have c0 : W9.cell? ⟨w6.heap.size, 0, none⟩ = some (.int .i64 c) := by rw [eW]; go_simp
  have c1 : W9.cell? ⟨w6.heap.size, 1, none⟩ = some (.int .i64 d) := by rw [eW]; go_simp
  have d0 : W9.cell? ⟨w8.heap.size, 0, none⟩ = some (.int .i64 U) := by rw [eW]; go_simp
  have d1 : W9.cell? ⟨w8.heap.size, 1, none⟩ = some (.int .i64 V) := by rw [eW]; go_simp
  have q0 : W9.cell? ⟨w9.heap.size, 0, none⟩ = some (.int .i64 0) := by rw [eW]; go_simp
  have q1 : W9.cell? ⟨w9.heap.size, 1, none⟩ = some (.int .i64 4294967296) := by rw [eW]; go_simp
  have hW : Hid (Made w.heap.size w W9) := by rw [eW]; exact hW.out.cells (Nat.le_of_lt sz) _ _
  rw [← eW]
  clear eW sz sr sb sc sd
  refine reg_made (by kernel_rfl) (by kernel_rfl) ?_
  intro T hT f hf
  have uz0 := Class.reads hf z0
  have uz1 := Class.reads hf z1
  have ur0 := Class.reads hf r0
  have ur1 := Class.reads hf r1
  have ub0 := Class.reads hf b0
  have ub1 := Class.reads hf b1
  have uc0 := Class.reads hf c0
  have uc1 := Class.reads hf c1
  have ud0 := Class.reads hf d0
  have ud1 := Class.reads hf d1
  have uq0 := Class.reads hf q0
  have uq1 := Class.reads hf q1
  repeat (go_big_quiet_step ((first
    | (go_at_call 26; with_reducible exact hf.same (abs_is U X _ iU EX.out))
    | (go_at_call 26; with_reducible exact hf.same (abs_is V Y _ iV EY.out))
    | (go_at_call 26; with_reducible exact hf.same (abs_is (M - N) J _ iJ EJ.out))
    | (go_at_call 29; with_reducible exact hf.made (vapply_is 0 4294967296 A B (-B) A _ i0 i1 iA iB Q1.out Q2.out))
    | (go_at_call 20; with_reducible exact hf.made (vleft_is A B (-B) _ iA iB NB.out))
    | (go_at_call 30; with_reducible exact hf.made (vback_is 0 4294967296 (-B) A A B _ i0 i1 iNB iA Q3.out Q4.out))
    | (go_at_call 22; with_reducible exact hf.made (vlen_is p q M _ ip iq EM.out))
    | (go_at_call 22; with_reducible exact hf.made (vlen_is A B N _ iA iB EN.out)))))
  refine wpQuiet_nil ?_
  intro w10 h10
  have k10 := hf.here h10
  have hw := hid (hW.out.then_ (k10.low hW.out.1.size))
  clear k10 hf h10 hW z0 z1 r0 r1 b0 b1 c0 c1 d0 d1 q0 q1 uz0 uz1 ur0 ur1 ub0 ub1 uc0 uc1 ud0 ud1 uq0 uq1
  go_wp2_with fail
  go_ret
  exact ⟨by simp, hw.out.grown⟩
end Go.Proofs.Yteahacfmmfjlmaa.Fx
