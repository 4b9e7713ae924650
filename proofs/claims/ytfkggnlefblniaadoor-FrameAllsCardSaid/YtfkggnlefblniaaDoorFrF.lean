/- Layer 16: the statements' own record. -/
import Derived.Test.YtfkggnlefblniaaDoorFrE
import Derived.Test.YtfkggnlefblniaaDoorMkb
import Derived.Laws.IdiomStrings
namespace Go.Proofs.YtfkggnlefblniaaDoor.Fx
open Go.ChangeShapes Go.WideShapes Go.ChangeAt Go.RowKit
set_option linter.unusedVariables false

theorem byteZ_nat (x k : Nat) : byteZ (x : Int) k = x / 2 ^ (8 * k) % 256 := by
  unfold byteZ
  have e : (256 : Nat) ^ k = 2 ^ (8 * k) := by rw [Nat.pow_mul]
  have h : (x : Int) / 256 ^ k = ((x / 256 ^ k : Nat) : Int) := by rw [Int.natCast_ediv, Int.natCast_pow]; rfl
  rw [h, e]
  omega
theorem strB_data (f : Nat → Nat) : ∀ n i, i < n → (strB f n).data[i]? = some (UInt8.ofNat (f i))
  | 0, i, h => by omega
  | n + 1, i, h => by
    rw [strB_next]
    show ((strB f n).data.push (UInt8.ofNat (f n)))[i]? = _
    have hs : (strB f n).data.size = n := strB_size f n
    by_cases e : i = n
    · subst e
      rw [Array.getElem?_push, if_pos hs.symm]
    · rw [Array.getElem?_push, if_neg (by omega), strB_data f n i (by omega)]
/-- []byte(s): a new row, its end marked -/
theorem conv_str (w : World) (n : Nat) {f : Nat → Nat} (hf : ∀ i, f i < 256) : ∃ c W, (convert 9 22 (.string (strB f n))).run Tryd.prog w = .ok (.slice (some ⟨w.heap.size, 0, none⟩) n c) W ∧ n ≤ c ∧ By W (some ⟨w.heap.size, 0, none⟩) n f ∧ Below w.heap.size w W ∧ w.heap.size < W.heap.size := by
  have h := run_bytes_of_string (P := Tryd.prog) w 9 22 5 (strB f n) Tryd.underlying9 Tryd.underlying22 Tryd.underlying5
  rw [strB_size] at h
  refine ⟨_, _, h, grownCap_ge w n 0 5, By.new w.drew f n _ _ fun i hi => ?_, (⟨rfl, rfl, rfl, Nat.le_refl _, fun _ _ => rfl⟩ : Below w.heap.size w w.drew).trans (below_new w.drew _), by show w.heap.size < (w.heap.push _).size; simp⟩
  unfold bytesRow
  have hs : (strB f n).data.size = n := strB_size f n
  rw [Array.getElem?_append_left (by simp [hs]; exact hi), Array.getElem?_map, strB_data f n i hi]
  have := hf i
  simp [UInt8.toNat_ofNat']
  omega
def alSt (n : Nat) (F : Nat → Nat) (i : Nat) (v : World) (g : Nat) (e : MB.Ex) : Prop := ∃ c, e.v = .slice (some ⟨g, 0, none⟩) n c ∧ n ≤ c ∧ g < e.hi ∧ By v (some ⟨g, 0, none⟩) n F
theorem alSt_lasts (n : Nat) (F : Nat → Nat) : MB.Lasts (alSt n F) := fun i u v g e h hh k => by
  obtain ⟨c, e1, e2, e3, h4⟩ := h
  exact ⟨c, e1, e2, e3, h4.bel k⟩
def valSt (i g : Nat) (e : MB.Ex) : Value := e.v
/-- a record's text, in the statement's order -/
theorem laid_str {p : Nat → Nat} (hp : ∀ i, p i < 256) (m : Nat) (n : Int) :
    strB (byteZ (m : Nat)) 4 ++ strB (byteZ n) 8 = strB (headF m n) 12 ∧
    strB (headF m n) 12 ++ strB (byteZ (sumB (headF m n) 12 : Nat)) 4 ++ strB p m ++ strB (byteZ (sumB p m : Nat)) 4 = strB (recF p m n) (m + 20) := by
  constructor
  · rw [strB_app]
    exact strB_congr 12 fun i hi => by
      unfold headF joinB
      by_cases h : i < 4
      · rw [if_pos h, if_pos h, if_neg (by omega), Nat.sub_zero]
      · rw [if_neg h, if_neg h]
  · rw [strB_app, strB_app, strB_app, show 12 + 4 + m + 4 = m + 20 by omega]
    refine strB_congr _ fun i hi => ?_
    unfold recF joinB sealB
    by_cases h1 : i < 16
    · rw [if_pos (show i < 12 + 4 + m by omega), if_pos (show i < 12 + 4 by omega), if_pos h1]
      by_cases h2 : i < 12
      · rw [if_pos h2, if_pos h2]
      · rw [if_neg h2, if_neg h2, if_pos (by omega), byteZ_nat]
    · rw [if_neg h1]
      by_cases h2 : i - 16 < m
      · rw [if_pos (show i < 12 + 4 + m by omega), if_neg (show ¬ i < 12 + 4 by omega), if_pos h2]
      · rw [if_neg (show ¬ i < 12 + 4 + m by omega), if_neg h2, if_pos (show i - 16 < m + 4 by omega), byteZ_nat, show i - (12 + 4 + m) = i - 16 - m by omega, if_neg h1]
theorem exec_convert {P : Program} {o : Oper} {a : Act} {s d : TypeId} {x : Operand} (ho : o.op = .convert s d x) {v y : Value} (hx : a.eval x = v) {w w' : World} (hr : (convert s d v).run P w = .ok y w') : (execOp a.eval o).run P w = .ok (.value y) w' := by
  unfold execOp
  simp [ho, hx, hr]
set_option maxRecDepth 100000 in
set_option maxHeartbeats 8000000 in
theorem laid_c {m c : Nat} {ao : Option Addr} {p : Nat → Nat} {n : Int} {w : World} (hp : ∀ i, p i < 256) (hT : Tab w) (hB : By w ao m p) (hm : m ≤ 4294967295) (hn1 : -9223372036854775808 ≤ n) (hn2 : n ≤ 9223372036854775807) :
    Calls Tryd.prog 11 #[.int .i64 n, .slice ao m c] w fun e w' => e = .returned (.string (strB (recF p m n) (m + 20))) ∧ Below w.heap.size w w' := by
  have HP := hid hp; have HT := hid hT; have HB := hid hB
  have HL := hid (laid_str hp m n)
  obtain ⟨S1, eS1⟩ : ∃ S, sumB (headF m n) 12 = S := ⟨_, rfl⟩
  obtain ⟨S2, eS2⟩ : ∃ S, sumB p m = S := ⟨_, rfl⟩
  have lS1 : S1 < 4294967296 := by rw [← eS1]; exact sumB_lt (headF_lt _ _) 12
  have lS2 : S2 < 4294967296 := by rw [← eS2]; exact sumB_lt hp m
  obtain ⟨X1, eX1⟩ : ∃ X, strB (byteZ (m : Nat)) 4 = X := ⟨_, rfl⟩
  obtain ⟨X2, eX2⟩ : ∃ X, strB (byteZ n) 8 = X := ⟨_, rfl⟩
  obtain ⟨X3, eX3⟩ : ∃ X, strB (byteZ (S1 : Nat)) 4 = X := ⟨_, rfl⟩
  obtain ⟨X4, eX4⟩ : ∃ X, strB p m = X := ⟨_, rfl⟩
  obtain ⟨X5, eX5⟩ : ∃ X, strB (byteZ (S2 : Nat)) 4 = X := ⟨_, rfl⟩
  obtain ⟨XH, eXH⟩ : ∃ X, strB (headF m n) 12 = X := ⟨_, rfl⟩
  have l1 : X1.size = 4 := by rw [← eX1]; exact strB_size _ _
  have l2 : X2.size = 8 := by rw [← eX2]; exact strB_size _ _
  have l3 : X3.size = 4 := by rw [← eX3]; exact strB_size _ _
  have l4 : X4.size = m := by rw [← eX4]; exact strB_size _ _
  have l5 : X5.size = 4 := by rw [← eX5]; exact strB_size _ _
  have lH : XH.size = 12 := by rw [← eXH]; exact strB_size _ _
  rw [eS1, eS2, eX1, eX2, eX3, eX4, eX5, eXH] at HL
  have ES1 := hid eS1; have ES2 := hid eS2; have EX1 := hid eX1; have EX2 := hid eX2; have EX3 := hid eX3; have EX4 := hid eX4; have EX5 := hid eX5; have EXH := hid eXH
  have a1 : ¬ (9223372036854775807 < X1.size + X2.size) := by omega
  have hH : X1 ++ X2 = XH := HL.out.1
  obtain ⟨Y1, eY1⟩ : ∃ Y, XH ++ X3 = Y := ⟨_, rfl⟩
  obtain ⟨Y2, eY2⟩ : ∃ Y, Y1 ++ X4 = Y := ⟨_, rfl⟩
  obtain ⟨Y3, eY3⟩ : ∃ Y, Y2 ++ X5 = Y := ⟨_, rfl⟩
  have m1 : Y1.size = 16 := by rw [← eY1, ByteArray.size_append]; omega
  have m2 : Y2.size = m + 16 := by rw [← eY2, ByteArray.size_append]; omega
  have a2 : ¬ (9223372036854775807 < XH.size + X3.size) := by omega
  have a3 : ¬ (9223372036854775807 < Y1.size + X4.size) := by omega
  have a4 : ¬ (9223372036854775807 < Y2.size + X5.size) := by omega
  have HF : Hid (Y3 = strB (recF p m n) (m + 20)) := by
    unfold Hid
    rw [← HL.out.2, eY1, eY2, eY3]
  clear hp hT hB eS1 eS2 eX1 eX2 eX3 eX4 eX5 eXH HL l1 l2 l3 l4 l5 lH m1 m2
  go_enter Tryd.func11, Tryd.ntmps11
  go_wp2_with fail
  refine (num_c (m := 4) (X := (m : Nat)) (by omega) (by omega) (by omega)).mono ?_
  rintro e w1 ⟨rfl, hM⟩
  rw [EX1.out]
  have HM := hid hM
  clear hM
  go_wp2_with fail
  refine (num_c (m := 8) (X := n) (by omega) hn1 hn2).mono ?_
  rintro e w2 ⟨rfl, hM⟩
  rw [EX2.out]
  have HM2 := hid (HM.out.then_ (hM.low HM.out.1.size))
  have HT2 := hid (HT.out.kept HM2.out)
  have HB2 := hid (HB.out.kept HM2.out)
  clear hM HM HT HB
  go_upto_region 2 with fail
  refine MB.reg_mk (alSt 12 (headF m n)) 15 [0, 1, 7, 8, 10, 2, 3, 4, 5, 6, 9, 11, 12, 13, 14] [0, 1, 7, 8, 10, 3, 4, 5, 6, 9, 11, 12, 13, 14] [2] [] (fun i => if i = 3 then [2] else []) (val := valSt) (by kernel_rfl) (by kernel_rfl) (fun p hp => absurd hp (by simp)) ?_
  refine MB.can_class (rest := [2, 3, 4, 5, 6, 9, 11, 12, 13, 14]) [0, 1, 7, 8, 10] [] 27 (alSt_lasts _ _) (MB.any_class _) (by kernel_rfl) rfl (by kernel_rfl) (by kernel_rfl) ?_
  apply Exists.intro
  refine ⟨?r1, ?r2⟩
  case r1 =>
    intro Ty hTT fw hf _
    have hq8 : ∀ x, (convert 22 9 (.slice ao m c)).run Tryd.prog (fw x) = .ok (.string X4) (fw x) := fun x => by
      rw [← EX4.out]
      exact conv_by (HB2.out.bel (hf.1 x))
    change wpQuiet _ _ _ _ [_, _, _, _, _] _
    repeat (go_big_quiet_step (fail))
    exact wpQuiet_nil rfl
  refine MB.can_mk 2 14 _ rfl rfl rfl rfl ?m2 fun q2 e2 => ?n2
  case m2 =>
    intro G' u _ hu
    obtain ⟨cc, W, hr, hcc, hY, hBl, hlt⟩ := conv_str u 12 (headF_lt (m : Nat) n)
    rw [EXH.out] at hr
    rw [exec_convert rfl (v := .string XH) rfl hr]
    exact ⟨u.heap.size, ⟨W.heap.size, _⟩, rfl, hu.next (alSt_lasts _ _) hBl (Nat.le_refl _) (Nat.le_of_lt hlt) (Nat.le_refl _) ⟨cc, rfl, hcc, hlt, hY⟩⟩
  rw [show valSt 2 q2 e2 = e2.v from rfl]
  simp only [Act.put, List.setIfInBounds_toArray, List.set_cons_succ, List.set_cons_zero]
  refine MB.can_one 3 15 _ (.int .u32 (S1 : Nat)) [2] (alSt_lasts _ _) (by kernel_rfl) rfl rfl (of_decide_eq_true rfl) (by kernel_rfl) ?r3 ?r4
  case r3 =>
    intro Ty hTT fw hf hmm
    try simp only [List.getElem_toArray, List.getElem_cons_succ, List.getElem_cons_zero]
    have hm2 := fun x => (hmm 2 (by simp) (q2, e2) (by unfold MB.upd; simp) x).2.2.2
    obtain ⟨x0⟩ := hTT
    obtain ⟨cc, ev, hcc, hqe, _⟩ := hm2 x0
    have HC := hid (fun t => hf.same (x := t) ((csum_c (c := cc) (headF_lt (m : Nat) n) (HT2.out.bel (hf.1 t)) (show By (fw t) (some ⟨q2, 0, none⟩) 12 (headF m n) from (hm2 t).choose_spec.2.2.2) (by omega)).mono fun e w' h => by rw [ES1.out] at h; exact h))
    rw [ev]
    clear hmm hm2
    repeat (go_big_quiet_step ((go_at_call 21; with_reducible exact HC.out _)))
    exact wpQuiet_nil rfl
  simp only [Act.put, List.setIfInBounds_toArray, List.set_cons_succ, List.set_cons_zero]
  refine MB.can_class (rest := []) [4, 5, 6, 9, 11, 12, 13, 14] [] 27 (alSt_lasts _ _) (MB.any_class _) (by kernel_rfl) rfl (by kernel_rfl) (by kernel_rfl) ?_
  apply Exists.intro
  refine ⟨?r5, ?r6⟩
  case r5 =>
    intro Ty hTT fw hf _
    have HN1 : Hid (∀ t, Calls Tryd.prog 20 #[.int .i64 4, .int .i64 (S1 : Nat)] (fw t) fun e w'' => e = .returned (.string X3) ∧ ∃ x, w'' = fw x) := fun t => hf.made (x := t) ((num_c (m := 4) (X := (S1 : Nat)) (w := fw t) (by omega) (by omega) (by omega)).mono fun e w' h => by rw [EX3.out] at h; exact h)
    have HN2 : Hid (∀ t, Calls Tryd.prog 20 #[.int .i64 4, .int .i64 (S2 : Nat)] (fw t) fun e w'' => e = .returned (.string X5) ∧ ∃ x, w'' = fw x) := fun t => hf.made (x := t) ((num_c (m := 4) (X := (S2 : Nat)) (w := fw t) (by omega) (by omega) (by omega)).mono fun e w' h => by rw [EX5.out] at h; exact h)
    have HC := hid (fun t => hf.same (x := t) ((csum_c (c := c) HP.out (HT2.out.bel (hf.1 t)) (HB2.out.bel (hf.1 t)) (by omega)).mono fun e w' h => by rw [ES2.out] at h; exact h))
    change wpQuiet _ _ _ _ [_, _, _, _, _, _, _, _] _
    repeat (go_big_quiet_step ((first
      | (go_at_call 20; with_reducible first | exact HN1.out _ | exact HN2.out _)
      | (go_at_call 21; with_reducible exact HC.out _))))
    exact wpQuiet_nil rfl
  intro w9 hu
  have HM9 := hid (HM2.out.1.trans (hu.1.mono HM2.out.1.size))
  clear hu HM2
  simp only [List.drop_succ_cons, List.drop_zero]
  go_wp2_with fail
  refine NoPanic.normal ?_
  go_wp2_with fail
  go_ret
  rw [HF.out]
  exact ⟨rfl, HM9.out⟩
end Go.Proofs.YtfkggnlefblniaaDoor.Fx
