/- Package names: the number that digits write; what a text is the name of. -/
import Derived.Test.YtmdhlobonnikcaaDoorNmB
namespace Go.Proofs.YtmdhlobonnikcaaDoor.Fx
open Go.ChangeShapes Go.WideShapes Go.ChangeAt Go.RowKit
set_option linter.unusedVariables false

/-- the sign of byte i of a text, as the walk reads it -/
theorem str_at (s : ByteArray) (i : Nat) (w : World) (hi : i < s.size) : (Instr.index 9 (.string s) (.int .i64 (i : Nat))).run Tryd.prog w = .ok (.int .u8 (byT s i : Nat)) w := by
  have e : s[i] = s.data.toList.getD i 0 := by
    rw [List.getD_eq_getElem?_getD, Array.getElem?_toList, Array.getElem?_eq_getElem (show i < s.data.size from hi), Option.getD_some]
    rfl
  rw [run_index_string w 9 s .i64 (i : Nat) Tryd.underlying9]
  rw [dif_pos (⟨by omega, by omega⟩ : 0 ≤ ((i : Nat) : Int) ∧ ((i : Nat) : Int) < s.size)]
  unfold byT
  rw [← e]
  rfl
theorem or16 {x v : Nat} (hx : x < 1152921504606846976) (hv : v < 16) : bits .or .u64 ((x : Int) * 16) (v : Int) = ((x * 16 + v : Nat) : Int) := by
  have e : ((x : Int) * 16) = ((x * 16 : Nat) : Int) := by omega
  rw [e, u64_or_nat _ _ (by omega) (by omega)]
  have := Nat.two_pow_add_eq_or_of_lt (i := 4) (b := v) (by omega) x
  rw [show 2 ^ 4 * x = x * 16 by omega] at this
  rw [this]
theorem tup3 {a b : Nat} {k : IntKind} {q : Bool} (h : a = b) : Ending.returned (.tuple #[.int k (a : Nat), .bool q]) = .returned (.tuple #[.int k (b : Nat), .bool q]) := by rw [h]
/-- digits write a number in the range -/
def NumOk (f : Nat → Nat) : Prop := (∀ i, i < 16 → hexv (f i) < 16) ∧ numF f 16 ≤ 4611686018427387904
def NumR (f : Nat → Nat) (e : Ending) : Prop := ∃ n q, e = .returned (.tuple #[.int .i64 (n : Nat), .bool q]) ∧ (q = true → NumOk f ∧ n = numF f 16) ∧ (q = false → n = 0 ∧ ¬ NumOk f)
set_option maxRecDepth 100000 in
set_option maxHeartbeats 4000000 in
theorem number_c {s : ByteArray} {w : World} (hz : s.size = 16) (hT : TabN w) :
    Calls Tryd.prog 15 #[.string s] w fun e w' => NumR (byT s) e ∧ w = w' := by
  have HT := hid hT
  have hix := fun (i : Nat) (w : World) (hi : i < 16) => str_at s i w (by omega)
  have hlt := byT_lt s
  obtain ⟨f, ef⟩ : ∃ f, byT s = f := ⟨_, rfl⟩
  rw [ef] at hix hlt
  rw [ef]
  have HI := hid hix; have HL := hid hlt
  clear hix hlt ef hT
  go_enter Tryd.func15, Tryd.ntmps15
  go_wp2_with fail
  go_loopg [4, 5, 6, 7, 10] 16 (fun g x a b c i wx => ∃ k : Nat, k + g = 16 ∧ x = .int .u64 (numF f k : Nat) ∧ i = .int .i64 (k : Nat) ∧ Hid (∀ j, j < k → hexv (f j) < 16) ∧ Hid (w = wx))
  case atStart => exact ⟨0, by omega, rfl, rfl, fun j hj => absurd hj (by omega), rfl⟩
  case round =>
    obtain ⟨k, hk, rfl, rfl, HS, HW⟩ := hrel
    have hW := HW.out
    subst hW
    obtain ⟨x, ex⟩ : ∃ x, numF f k = x := ⟨_, rfl⟩
    have hx16 : x < 16 ^ k := by rw [← ex]; exact numF_lt k HS.out
    rw [ex]
    by_cases hlt : k < 16
    · have hi := HI.out k w hlt
      have hc := HL.out k
      obtain ⟨c, ec⟩ : ∃ c, f k = c := ⟨_, rfl⟩
      rw [ec] at hi hc
      have EC := hid ec; have EX := hid ex
      have lx : x < 1152921504606846976 := Nat.lt_of_lt_of_le hx16 (by
        have : 16 ^ k ≤ 16 ^ 15 := Nat.pow_le_pow_right (by omega) (by omega)
        exact this)
      clear ec ex hx16
      by_cases hv : hexv c < 16
      · have HV := value_c hc HT.out
        rw [if_pos hv, decide_eq_true hv] at HV
        have HV := hid HV
        obtain ⟨v, ev⟩ : ∃ v, hexv c = v := ⟨_, rfl⟩
        rw [ev] at HV hv
        go_upto_region 5 with fail
        go_wp2_with fail
        refine HV.out.mono ?_
        rintro e w1 ⟨rfl, rfl⟩
        have e1 := or16 lx hv
        obtain ⟨z, ez⟩ : ∃ z, x * 16 + v = z := ⟨_, rfl⟩
        rw [ez] at e1
        have HZ : Hid (numF f (k + 1) = z) := by
          unfold Hid
          show numF f k * 16 + hexv (f k) = z
          rw [EX.out, EC.out, ev, ez]
        have HS2 : Hid (∀ j, j < k + 1 → hexv (f j) < 16) := fun j hj => by
          by_cases e : j = k
          · rw [e, EC.out, ev]; exact hv
          · exact HS.out j (by omega)
        clear ez ev
        go_wp2_with fail
        go_roundg (16 - k - 1)
        case rel => exact ⟨k + 1, by omega, by rw [HZ.out], by go_num, HS2, rfl⟩
        case measure => omega
      · have HV := value_c hc HT.out
        rw [if_neg hv, decide_eq_false hv] at HV
        have HV := hid HV
        have HN : Hid (¬ NumOk f) := fun h => hv (by rw [← EC.out]; exact h.1 k hlt)
        clear hv
        go_upto_region 5 with fail
        go_wp2_with fail
        refine HV.out.mono ?_
        rintro e w1 ⟨rfl, rfl⟩
        go_wp2_with fail
        refine bodyPost_ret (v := .tuple #[.int .i64 0, .bool false]) (by simp [results, Tryd.results15, go_sem]) rfl ?_
        exact ⟨⟨0, false, rfl, (fun h => by cases h), fun _ => ⟨rfl, HN.out⟩⟩, rfl⟩
    · have e : k = 16 := by omega
      subst e
      have EX := hid ex
      clear ex
      by_cases hm : x ≤ 4611686018427387904
      · have e1 : decide (4611686018427387904 < (x : Int)) = false := decide_eq_false (by omega)
        have HM := hid hm
        go_wp2_with fail
        refine bodyPost_ret (v := .tuple #[.int .i64 (x : Nat), .bool true]) (by simp [results, Tryd.results15, go_sem]) rfl ?_
        exact ⟨⟨x, true, rfl, fun _ => ⟨⟨HS.out, by rw [EX.out]; exact HM.out⟩, EX.out.symm⟩, fun h => by cases h⟩, rfl⟩
      · have e1 : decide (4611686018427387904 < (x : Int)) = true := decide_eq_true (by omega)
        have HM := hid hm
        clear hm
        go_wp2_with fail
        refine bodyPost_ret (v := .tuple #[.int .i64 0, .bool false]) (by simp [results, Tryd.results15, go_sem]) rfl ?_
        exact ⟨⟨0, false, rfl, (fun h => by cases h), fun _ => ⟨rfl, fun h => HM.out (by rw [← EX.out]; exact h.2)⟩⟩, rfl⟩
/-- what a text is said to be the name of -/
def ParR (s : ByteArray) (e : Ending) : Prop := ∃ c n q, e = .returned (.tuple #[.int .u8 (c : Nat), .int .i64 (n : Nat), .bool q]) ∧ (q = true → NmOk c n ∧ s = nmB c n) ∧ (q = false → c = 0 ∧ n = 0 ∧ ∀ d m, NmOk d m → s ≠ nmB d m)
theorem NmOk.c {c n : Nat} (h : NmOk c n) : c < 256 := by have := h.1; omega
theorem NmOk.n {c n : Nat} (h : NmOk c n) : n < 16 ^ 16 := Nat.lt_of_le_of_lt h.2 (by decide)
theorem tail_at (s : ByteArray) (i : Nat) (hi : i + 1 < s.size) : byT (s.extract 1 s.size) i = byT s (1 + i) := by
  unfold byT
  rw [ByteArray.data_extract, List.getD_eq_getElem?_getD, List.getD_eq_getElem?_getD, Array.getElem?_toList, Array.getElem?_toList, Array.getElem?_extract, if_pos]
  show i < min s.size s.data.size - 1
  have : s.data.size = s.size := rfl
  omega
set_option maxRecDepth 100000 in
set_option maxHeartbeats 4000000 in
theorem parse_c {s : ByteArray} {w : World} (hz : s.size ≤ maxLen) (hT : TabN w) :
    Calls Tryd.prog 11 #[.string s] w fun e w' => ParR s e ∧ w = w' := by
  unfold maxLen at hz
  obtain ⟨n, en⟩ : ∃ n, s.size = n := ⟨_, rfl⟩
  have EN := hid en
  rw [en] at hz
  by_cases h17 : n = 17
  · subst h17
    have hx : ∀ w : World, (Instr.index 9 (.string s) (.int .i64 0)).run Tryd.prog w = .ok (.int .u8 (byT s 0 : Nat)) w := fun w => str_at s 0 w (by omega)
    have lc := byT_lt s 0
    obtain ⟨c, ec⟩ : ∃ c, byT s 0 = c := ⟨_, rfl⟩
    rw [ec] at hx lc
    have EC := hid ec
    obtain ⟨T, eT⟩ : ∃ T, s.extract 1 17 = T := ⟨_, rfl⟩
    have hT16 : T.size = 16 := by rw [← eT, ByteArray.size_extract, en]; rfl
    have HC := hid (number_c hT16 hT)
    have ET := hid eT
    clear hT hT16
    have HD : Hid (∀ i, i < 16 → byT T i = byT s (1 + i)) := fun i hi => by rw [← ET.out, ← tail_at s i (by omega), en]
    have HNo : Hid (∀ d m, NmOk d m → s = nmB d m → d = c ∧ NumOk (byT T) ∧ m = numF (byT T) 16) := fun d m hd e => by
      have h1 := nm_of hd.c e
      have h2 := nm_num e hd.c hd.n
      have h3 : numF (byT T) 16 = m := by rw [← h2]; exact numF_congr 16 HD.out
      refine ⟨by rw [← EC.out, h1.1], ⟨fun i hi => ?_, by rw [h3]; exact hd.2⟩, h3.symm⟩
      rw [HD.out i hi]
      exact nm_hex e hd.c i hi
    have HYes : Hid (NumOk (byT T) → s = nmB c (numF (byT T) 16)) := fun h => by
      have := nm_is en fun i hi => by rw [← HD.out i hi]; exact h.1 i hi
      rw [EC.out, numF_congr 16 (g := byT T) fun i hi => (HD.out i hi).symm] at this
      exact this
    by_cases hk : c = 99 ∨ c = 106
    · have HK := hid hk
      rcases hk with hk | hk
      · subst hk
        go_enter Tryd.func11, Tryd.ntmps11
        go_wp2_with fail
        refine HC.out.mono ?_
        rintro e w1 ⟨⟨m, q, rfl, hq1, hq2⟩, rfl⟩
        cases q with
        | false =>
          have H2 := hid (hq2 rfl)
          clear hq1 hq2
          go_wp2_with fail
          refine bodyPost_ret (v := .tuple #[.int .u8 0, .int .i64 0, .bool false]) (by simp [results, Tryd.results11, go_sem]) rfl ?_
          exact ⟨⟨0, 0, false, rfl, (fun h => by cases h), fun _ => ⟨rfl, rfl, fun d m hd e => H2.out.2 (HNo.out d m hd e).2.1⟩⟩, rfl⟩
        | true =>
          have H1 := hid (hq1 rfl)
          clear hq1 hq2
          go_wp2_with fail
          refine bodyPost_ret (v := .tuple #[.int .u8 99, .int .i64 (m : Nat), .bool true]) (by simp [results, Tryd.results11, go_sem]) rfl ?_
          exact ⟨⟨99, m, true, rfl, (fun _ => ⟨⟨.inl rfl, by rw [H1.out.2]; exact H1.out.1.2⟩, by rw [H1.out.2]; exact HYes.out H1.out.1⟩), fun h => by cases h⟩, rfl⟩
      · subst hk
        go_enter Tryd.func11, Tryd.ntmps11
        go_wp2_with fail
        refine HC.out.mono ?_
        rintro e w1 ⟨⟨m, q, rfl, hq1, hq2⟩, rfl⟩
        cases q with
        | false =>
          have H2 := hid (hq2 rfl)
          clear hq1 hq2
          go_wp2_with fail
          refine bodyPost_ret (v := .tuple #[.int .u8 0, .int .i64 0, .bool false]) (by simp [results, Tryd.results11, go_sem]) rfl ?_
          exact ⟨⟨0, 0, false, rfl, (fun h => by cases h), fun _ => ⟨rfl, rfl, fun d m hd e => H2.out.2 (HNo.out d m hd e).2.1⟩⟩, rfl⟩
        | true =>
          have H1 := hid (hq1 rfl)
          clear hq1 hq2
          go_wp2_with fail
          refine bodyPost_ret (v := .tuple #[.int .u8 106, .int .i64 (m : Nat), .bool true]) (by simp [results, Tryd.results11, go_sem]) rfl ?_
          exact ⟨⟨106, m, true, rfl, (fun _ => ⟨⟨.inr rfl, by rw [H1.out.2]; exact H1.out.1.2⟩, by rw [H1.out.2]; exact HYes.out H1.out.1⟩), fun h => by cases h⟩, rfl⟩
    · have e0 : ((c : Int) != 99) = true := by simp; omega
      have e1 : ((c : Int) != 106) = true := by simp; omega
      have HK := hid hk
      clear hk ec eT
      go_enter Tryd.func11, Tryd.ntmps11
      go_wp2_with fail
      refine bodyPost_ret (v := .tuple #[.int .u8 0, .int .i64 0, .bool false]) (by simp [results, Tryd.results11, go_sem]) rfl ?_
      exact ⟨⟨0, 0, false, rfl, (fun h => by cases h), fun _ => ⟨rfl, rfl, fun d m hd e => HK.out (by rw [← (HNo.out d m hd e).1]; exact hd.1)⟩⟩, rfl⟩
  · have e0 : ((n : Int) != 17) = true := by simp; omega
    have HN := hid h17
    clear h17 hT
    go_enter Tryd.func11, Tryd.ntmps11
    go_wp2_with fail
    refine bodyPost_ret (v := .tuple #[.int .u8 0, .int .i64 0, .bool false]) (by simp [results, Tryd.results11, go_sem]) rfl ?_
    refine ⟨⟨0, 0, false, rfl, (fun h => by cases h), fun _ => ⟨rfl, rfl, fun d m hd e => ?_⟩⟩, rfl⟩
    have := congrArg ByteArray.size e
    rw [EN.out, nmB_size] at this
    exact HN.out this
end Go.Proofs.YtmdhlobonnikcaaDoor.Fx
