/- OrK OrL Open -/
import Derived.Test.YtfncelifflebbaaGreatQ3
import Derived.Test.YtfncelifflebbaaGreatQ26
import Derived.Deep.SlicePairs

/- The statement's right: pushes and pulls. -/

namespace Go.Proofs.YtfncelifflebbaaGreat.Fx
open Go.ChangeShapes Go.WideShapes Go.ChangeAt Go.RowKit
set_option linter.unusedVariables false

set_option maxRecDepth 100000 in
set_option maxHeartbeats 32000000 in
theorem lright5 (q cb : Bool) (id a b x y vx vy an sp de ln k r : Int) (ao : Option Addr) (n c : Nat)  (w : World) (hb : cb = true ↔ k = 0 ∧ r = 0 ∧ n = 0 ∧ de = 0 ∧ an = 0) (hq : q = true ↔ cb = true ∧ 0 < id ∧ a = 0 ∧ b = 0 ∧ x = 0 ∧ y = 0 ∧ ln = 0 ∧ (-4611686018427387904 ≤ vx ∧ vx ≤ 4611686018427387904) ∧ (-4611686018427387904 ≤ vy ∧ vy ≤ 4611686018427387904) ∧ -4611686018427387904 ≤ sp ∧ sp ≤ 4611686018427387904) :
    Calls Tryz.prog 11 #[.agg #[.int .i64 5, .int .i64 id, .int .i64 a, .int .i64 b, .int .i64 x, .int .i64 y, .int .i64 vx, .int .i64 vy, .int .i64 an, .int .i64 sp, .int .i64 de, .int .i64 ln, .int .i64 k, .int .i64 r, .slice ao n c]] w fun e v => e = .returned (.bool q) ∧ Made w.heap.size w v := by
  have HR := hid hq
  clear hq
  have HBr := hid (fun v => bare_c cb 5 id a b x y vx vy an sp de ln k r ao n c v hb)
  clear hb
  obtain ⟨W, eW⟩ : ∃ W, W = w.alloc (.cells #[.int .i64 5, .int .i64 id, .int .i64 a, .int .i64 b, .int .i64 x, .int .i64 y, .int .i64 vx, .int .i64 vy, .int .i64 an, .int .i64 sp, .int .i64 de, .int .i64 ln, .int .i64 k, .int .i64 r, .slice ao n c] 29) := ⟨_, rfl⟩
  have KW : Hid (Made w.heap.size w W) := by unfold Hid; rw [eW]; exact (Made.rfl_ _ _).cells (Nat.le_refl _) _ _
  have HB : Hid (Has W w.heap.size 29 #[.int .i64 5, .int .i64 id, .int .i64 a, .int .i64 b, .int .i64 x, .int .i64 y, .int .i64 vx, .int .i64 vy, .int .i64 an, .int .i64 sp, .int .i64 de, .int .i64 ln, .int .i64 k, .int .i64 r, .slice ao n c]) := by unfold Hid; rw [eW]; exact has_new _ _ _
  obtain ⟨g1, eg1⟩ : ∃ g, w.heap.size = g := ⟨_, rfl⟩
  rw [eg1] at HB
  obtain ⟨W1, eW1⟩ : ∃ V, V = W.alloc (.cells #[.int .i64 0, .int .i64 0] 24) := ⟨_, rfl⟩
  have kk1 : Made W.heap.size W W1 := by rw [eW1]; exact (Made.rfl_ _ _).cells (Nat.le_refl _) _ _
  have HV1 : Hid (Has W1 W.heap.size 24 #[.int .i64 0, .int .i64 0]) := by unfold Hid; rw [eW1]; exact has_new _ _ _
  have K1 := hid (KW.out.then_ (kk1.low KW.out.1.size))
  have HB1 := hid (HB.out.stays kk1 HB.out.here)
  have b0 := HB.out.at_ 0
  have b1 := HB.out.at_ 1
  have b2 := HB.out.at_ 2
  have b3 := HB.out.at_ 3
  have b4 := HB.out.at_ 4
  have b5 := HB.out.at_ 5
  have b6 := HB.out.at_ 6
  have b7 := HB.out.at_ 7
  have b8 := HB.out.at_ 8
  have b9 := HB.out.at_ 9
  have b10 := HB.out.at_ 10
  have b11 := HB.out.at_ 11
  have b12 := HB.out.at_ 12
  have b13 := HB.out.at_ 13
  have b14 := HB.out.at_ 14
  simp at b0 b1 b2 b3 b4 b5 b6 b7 b8 b9 b10 b11 b12 b13 b14
  have l1 : g1 < W.heap.size := HB.out.here
  obtain ⟨g2, eg2⟩ : ∃ g, W.heap.size = g := ⟨_, rfl⟩
  rw [eg2] at HV1
  clear kk1
  go_enter Tryz.func11, Tryz.ntmps11
  go_upto_region 1 with fail
  rw [← eW]
  clear eW
  try rw [eg1]
  go_upto_region 2 with fail
  rw [← eW1]
  clear eW1 b0 b1 b2 b3 b4 b5 b6 b7 b8 b9 b10 b11 b12 b13 b14 l1
  try rw [eg2]
  clear eg2
  have b0 := HB1.out.at_ 0
  have b1 := HB1.out.at_ 1
  have b2 := HB1.out.at_ 2
  have b3 := HB1.out.at_ 3
  have b4 := HB1.out.at_ 4
  have b5 := HB1.out.at_ 5
  have b6 := HB1.out.at_ 6
  have b7 := HB1.out.at_ 7
  have b8 := HB1.out.at_ 8
  have b9 := HB1.out.at_ 9
  have b10 := HB1.out.at_ 10
  have b11 := HB1.out.at_ 11
  have b12 := HB1.out.at_ 12
  have b13 := HB1.out.at_ 13
  have b14 := HB1.out.at_ 14
  simp at b0 b1 b2 b3 b4 b5 b6 b7 b8 b9 b10 b11 b12 b13 b14
  have l1 : g1 < W1.heap.size := HB1.out.here
  go_wp2_with fail
  refine (HBr.out _).mono ?_
  rintro e w2 ⟨rfl, k2⟩
  have K2 := hid (K1.out.then_ (k2.low K1.out.1.size))
  have HB2 := hid (HB1.out.stays k2 HB1.out.here)
  have HV2 := hid (HV1.out.stays k2 HV1.out.here)
  clear k2 b0 b1 b2 b3 b4 b5 b6 b7 b8 b9 b10 b11 b12 b13 b14 l1
  have b0 := HB2.out.at_ 0
  have b1 := HB2.out.at_ 1
  have b2 := HB2.out.at_ 2
  have b3 := HB2.out.at_ 3
  have b4 := HB2.out.at_ 4
  have b5 := HB2.out.at_ 5
  have b6 := HB2.out.at_ 6
  have b7 := HB2.out.at_ 7
  have b8 := HB2.out.at_ 8
  have b9 := HB2.out.at_ 9
  have b10 := HB2.out.at_ 10
  have b11 := HB2.out.at_ 11
  have b12 := HB2.out.at_ 12
  have b13 := HB2.out.at_ 13
  have b14 := HB2.out.at_ 14
  simp at b0 b1 b2 b3 b4 b5 b6 b7 b8 b9 b10 b11 b12 b13 b14
  have l1 : g1 < w2.heap.size := HB2.out.here
  cases cb with
  | false =>
    have e : q = false := Bool.eq_false_iff.2 fun h => by have := (HR.out.1 h).1; simp at this
    subst e
    go_wp2_with fail
    go_ret
    exact ⟨by first | rfl | trivial, by first | exact K2.out | exact eg1 ▸ K2.out⟩
  | true =>
  have HR : Hid (q = true ↔ 0 < id ∧ a = 0 ∧ b = 0 ∧ x = 0 ∧ y = 0 ∧ ln = 0 ∧ (-4611686018427387904 ≤ vx ∧ vx ≤ 4611686018427387904) ∧ (-4611686018427387904 ≤ vy ∧ vy ≤ 4611686018427387904) ∧ -4611686018427387904 ≤ sp ∧ sp ≤ 4611686018427387904) := by unfold Hid; have h := HR.out; simpa using h
  have v0 := HV2.out.at_ 0
  have v1 := HV2.out.at_ 1
  simp at v0 v1
  have l2 : g2 < w2.heap.size := HV2.out.here
  by_cases h0 : 0 < id
  case neg =>
    have e : q = false := Bool.eq_false_iff.2 fun h => by have hh := HR.out.1 h; omega
    have q_id : decide (0 < id) = false := by simpa using h0
    subst e
    clear h0
    go_wp2_with fail
    go_ret
    exact ⟨by first | rfl | trivial, by first | exact K2.out | exact eg1 ▸ K2.out⟩
  have q_id : decide (0 < id) = true := by simpa using h0
  by_cases h1 : a = 0
  case neg =>
    have e : q = false := Bool.eq_false_iff.2 fun h => by have hh := HR.out.1 h; omega
    have q_a : (a == 0) = false := by simpa using h1
    subst e
    clear h1 h0
    go_wp2_with fail
    go_ret
    exact ⟨by first | rfl | trivial, by first | exact K2.out | exact eg1 ▸ K2.out⟩
  have q_a : (a == 0) = true := by simpa using h1
  by_cases h2 : b = 0
  case neg =>
    have e : q = false := Bool.eq_false_iff.2 fun h => by have hh := HR.out.1 h; omega
    have q_b : (b == 0) = false := by simpa using h2
    subst e
    clear h2 h0 h1
    go_wp2_with fail
    go_ret
    exact ⟨by first | rfl | trivial, by first | exact K2.out | exact eg1 ▸ K2.out⟩
  have q_b : (b == 0) = true := by simpa using h2
  by_cases h3 : x = 0 ∧ y = 0
  case neg =>
    have e : q = false := Bool.eq_false_iff.2 fun h => by have hh := HR.out.1 h; omega
    have q_x := veql x y 0 0 false (iff_of_false (by simp) h3)
    subst e
    clear h3 h0 h1 h2
    go_wp2_with fail
    go_ret
    exact ⟨by first | rfl | trivial, by first | exact K2.out | exact eg1 ▸ K2.out⟩
  have q_x := veql x y 0 0 true (iff_of_true rfl h3)
  by_cases h4 : ln = 0
  case neg =>
    have e : q = false := Bool.eq_false_iff.2 fun h => by have hh := HR.out.1 h; omega
    have q_ln : (ln == 0) = false := by simpa using h4
    subst e
    clear h4 h0 h1 h2 h3
    go_wp2_with fail
    go_ret
    exact ⟨by first | rfl | trivial, by first | exact K2.out | exact eg1 ▸ K2.out⟩
  have q_ln : (ln == 0) = true := by simpa using h4
  have HG := hid eg1
  have HH := hid (And.intro h0 (And.intro h1 (And.intro h2 (And.intro h3 h4))))
  clear eg1 h0 h1 h2 h3 h4
  go_wp2_with fail
  all_goals
    first
    | (exfalso; omega)
    | (go_ret
       refine ⟨congrArg (fun tt => Ending.returned (Value.bool tt)) (Bool.eq_iff_iff.2 ⟨fun hb => HR.out.2 (by have hc := HH.out; first | (simp at hb; done) | (simp at hb; (try simp only [true_and]); omega)), fun hq => ?_⟩), by first | exact K2.out | exact HG.out ▸ K2.out⟩
       have hh := HR.out.1 hq
       first | (exfalso; omega) | (simp; omega))
set_option maxRecDepth 100000 in
set_option maxHeartbeats 32000000 in
theorem lright6 (q cb : Bool) (id a b x y vx vy an sp de ln k r : Int) (ao : Option Addr) (n c : Nat)  (w : World) (hb : cb = true ↔ k = 0 ∧ r = 0 ∧ n = 0 ∧ de = 0 ∧ an = 0) (M m : Int) (eM : max vx vy = M) (em : min vx vy = m) (hq : q = true ↔ cb = true ∧ id = 0 ∧ a = 0 ∧ b = 0 ∧ x = 0 ∧ y = 0 ∧ sp = 0 ∧ ln = 0 ∧ M ≤ 17592186044416 ∧ -17592186044416 ≤ m) :
    Calls Tryz.prog 11 #[.agg #[.int .i64 6, .int .i64 id, .int .i64 a, .int .i64 b, .int .i64 x, .int .i64 y, .int .i64 vx, .int .i64 vy, .int .i64 an, .int .i64 sp, .int .i64 de, .int .i64 ln, .int .i64 k, .int .i64 r, .slice ao n c]] w fun e v => e = .returned (.bool q) ∧ Made w.heap.size w v := by
  have HR := hid hq
  clear hq
  have HBr := hid (fun v => bare_c cb 6 id a b x y vx vy an sp de ln k r ao n c v hb)
  clear hb
  obtain ⟨W, eW⟩ : ∃ W, W = w.alloc (.cells #[.int .i64 6, .int .i64 id, .int .i64 a, .int .i64 b, .int .i64 x, .int .i64 y, .int .i64 vx, .int .i64 vy, .int .i64 an, .int .i64 sp, .int .i64 de, .int .i64 ln, .int .i64 k, .int .i64 r, .slice ao n c] 29) := ⟨_, rfl⟩
  have KW : Hid (Made w.heap.size w W) := by unfold Hid; rw [eW]; exact (Made.rfl_ _ _).cells (Nat.le_refl _) _ _
  have HB : Hid (Has W w.heap.size 29 #[.int .i64 6, .int .i64 id, .int .i64 a, .int .i64 b, .int .i64 x, .int .i64 y, .int .i64 vx, .int .i64 vy, .int .i64 an, .int .i64 sp, .int .i64 de, .int .i64 ln, .int .i64 k, .int .i64 r, .slice ao n c]) := by unfold Hid; rw [eW]; exact has_new _ _ _
  obtain ⟨g1, eg1⟩ : ∃ g, w.heap.size = g := ⟨_, rfl⟩
  rw [eg1] at HB
  obtain ⟨W1, eW1⟩ : ∃ V, V = W.alloc (.cells #[.int .i64 0, .int .i64 0] 24) := ⟨_, rfl⟩
  have kk1 : Made W.heap.size W W1 := by rw [eW1]; exact (Made.rfl_ _ _).cells (Nat.le_refl _) _ _
  have HV1 : Hid (Has W1 W.heap.size 24 #[.int .i64 0, .int .i64 0]) := by unfold Hid; rw [eW1]; exact has_new _ _ _
  have K1 := hid (KW.out.then_ (kk1.low KW.out.1.size))
  have HB1 := hid (HB.out.stays kk1 HB.out.here)
  have b0 := HB.out.at_ 0
  have b1 := HB.out.at_ 1
  have b2 := HB.out.at_ 2
  have b3 := HB.out.at_ 3
  have b4 := HB.out.at_ 4
  have b5 := HB.out.at_ 5
  have b6 := HB.out.at_ 6
  have b7 := HB.out.at_ 7
  have b8 := HB.out.at_ 8
  have b9 := HB.out.at_ 9
  have b10 := HB.out.at_ 10
  have b11 := HB.out.at_ 11
  have b12 := HB.out.at_ 12
  have b13 := HB.out.at_ 13
  have b14 := HB.out.at_ 14
  simp at b0 b1 b2 b3 b4 b5 b6 b7 b8 b9 b10 b11 b12 b13 b14
  have l1 : g1 < W.heap.size := HB.out.here
  obtain ⟨g2, eg2⟩ : ∃ g, W.heap.size = g := ⟨_, rfl⟩
  rw [eg2] at HV1
  clear kk1
  go_enter Tryz.func11, Tryz.ntmps11
  go_upto_region 1 with fail
  rw [← eW]
  clear eW
  try rw [eg1]
  go_upto_region 2 with fail
  rw [← eW1]
  clear eW1 b0 b1 b2 b3 b4 b5 b6 b7 b8 b9 b10 b11 b12 b13 b14 l1
  try rw [eg2]
  clear eg2
  have b0 := HB1.out.at_ 0
  have b1 := HB1.out.at_ 1
  have b2 := HB1.out.at_ 2
  have b3 := HB1.out.at_ 3
  have b4 := HB1.out.at_ 4
  have b5 := HB1.out.at_ 5
  have b6 := HB1.out.at_ 6
  have b7 := HB1.out.at_ 7
  have b8 := HB1.out.at_ 8
  have b9 := HB1.out.at_ 9
  have b10 := HB1.out.at_ 10
  have b11 := HB1.out.at_ 11
  have b12 := HB1.out.at_ 12
  have b13 := HB1.out.at_ 13
  have b14 := HB1.out.at_ 14
  simp at b0 b1 b2 b3 b4 b5 b6 b7 b8 b9 b10 b11 b12 b13 b14
  have l1 : g1 < W1.heap.size := HB1.out.here
  go_wp2_with fail
  refine (HBr.out _).mono ?_
  rintro e w2 ⟨rfl, k2⟩
  have K2 := hid (K1.out.then_ (k2.low K1.out.1.size))
  have HB2 := hid (HB1.out.stays k2 HB1.out.here)
  have HV2 := hid (HV1.out.stays k2 HV1.out.here)
  clear k2 b0 b1 b2 b3 b4 b5 b6 b7 b8 b9 b10 b11 b12 b13 b14 l1
  have b0 := HB2.out.at_ 0
  have b1 := HB2.out.at_ 1
  have b2 := HB2.out.at_ 2
  have b3 := HB2.out.at_ 3
  have b4 := HB2.out.at_ 4
  have b5 := HB2.out.at_ 5
  have b6 := HB2.out.at_ 6
  have b7 := HB2.out.at_ 7
  have b8 := HB2.out.at_ 8
  have b9 := HB2.out.at_ 9
  have b10 := HB2.out.at_ 10
  have b11 := HB2.out.at_ 11
  have b12 := HB2.out.at_ 12
  have b13 := HB2.out.at_ 13
  have b14 := HB2.out.at_ 14
  simp at b0 b1 b2 b3 b4 b5 b6 b7 b8 b9 b10 b11 b12 b13 b14
  have l1 : g1 < w2.heap.size := HB2.out.here
  cases cb with
  | false =>
    have e : q = false := Bool.eq_false_iff.2 fun h => by have := (HR.out.1 h).1; simp at this
    subst e
    go_wp2_with fail
    go_ret
    exact ⟨by first | rfl | trivial, by first | exact K2.out | exact eg1 ▸ K2.out⟩
  | true =>
  have HR : Hid (q = true ↔ id = 0 ∧ a = 0 ∧ b = 0 ∧ x = 0 ∧ y = 0 ∧ sp = 0 ∧ ln = 0 ∧ M ≤ 17592186044416 ∧ -17592186044416 ≤ m) := by unfold Hid; have h := HR.out; simpa using h
  have v0 := HV2.out.at_ 0
  have v1 := HV2.out.at_ 1
  simp at v0 v1
  have l2 : g2 < w2.heap.size := HV2.out.here
  by_cases h0 : id = 0
  case neg =>
    have e : q = false := Bool.eq_false_iff.2 fun h => by have hh := HR.out.1 h; omega
    have q_id : (id == 0) = false := by simpa using h0
    subst e
    clear h0
    go_wp2_with fail
    go_ret
    exact ⟨by first | rfl | trivial, by first | exact K2.out | exact eg1 ▸ K2.out⟩
  have q_id : (id == 0) = true := by simpa using h0
  by_cases h1 : a = 0
  case neg =>
    have e : q = false := Bool.eq_false_iff.2 fun h => by have hh := HR.out.1 h; omega
    have q_a : (a == 0) = false := by simpa using h1
    subst e
    clear h1 h0
    go_wp2_with fail
    go_ret
    exact ⟨by first | rfl | trivial, by first | exact K2.out | exact eg1 ▸ K2.out⟩
  have q_a : (a == 0) = true := by simpa using h1
  by_cases h2 : b = 0
  case neg =>
    have e : q = false := Bool.eq_false_iff.2 fun h => by have hh := HR.out.1 h; omega
    have q_b : (b == 0) = false := by simpa using h2
    subst e
    clear h2 h0 h1
    go_wp2_with fail
    go_ret
    exact ⟨by first | rfl | trivial, by first | exact K2.out | exact eg1 ▸ K2.out⟩
  have q_b : (b == 0) = true := by simpa using h2
  by_cases h3 : x = 0 ∧ y = 0
  case neg =>
    have e : q = false := Bool.eq_false_iff.2 fun h => by have hh := HR.out.1 h; omega
    have q_x := veql x y 0 0 false (iff_of_false (by simp) h3)
    subst e
    clear h3 h0 h1 h2
    go_wp2_with fail
    go_ret
    exact ⟨by first | rfl | trivial, by first | exact K2.out | exact eg1 ▸ K2.out⟩
  have q_x := veql x y 0 0 true (iff_of_true rfl h3)
  by_cases h4 : sp = 0
  case neg =>
    have e : q = false := Bool.eq_false_iff.2 fun h => by have hh := HR.out.1 h; omega
    have q_sp : (sp == 0) = false := by simpa using h4
    subst e
    clear h4 h0 h1 h2 h3
    go_wp2_with fail
    go_ret
    exact ⟨by first | rfl | trivial, by first | exact K2.out | exact eg1 ▸ K2.out⟩
  have q_sp : (sp == 0) = true := by simpa using h4
  by_cases h5 : ln = 0
  case neg =>
    have e : q = false := Bool.eq_false_iff.2 fun h => by have hh := HR.out.1 h; omega
    have q_ln : (ln == 0) = false := by simpa using h5
    subst e
    clear h5 h0 h1 h2 h3 h4
    go_wp2_with fail
    go_ret
    exact ⟨by first | rfl | trivial, by first | exact K2.out | exact eg1 ▸ K2.out⟩
  have q_ln : (ln == 0) = true := by simpa using h5
  by_cases h6 : M ≤ 17592186044416
  case neg =>
    have e : q = false := Bool.eq_false_iff.2 fun h => by have hh := HR.out.1 h; omega
    have q_M : decide (M ≤ 17592186044416) = false := by simpa using h6
    subst e
    clear h6 h0 h1 h2 h3 h4 h5
    go_wp2_with fail
    go_ret
    exact ⟨by first | rfl | trivial, by first | exact K2.out | exact eg1 ▸ K2.out⟩
  have q_M : decide (M ≤ 17592186044416) = true := by simpa using h6
  by_cases h7 : -17592186044416 ≤ m
  case neg =>
    have e : q = false := Bool.eq_false_iff.2 fun h => by have hh := HR.out.1 h; omega
    have q_m : decide (-17592186044416 ≤ m) = false := by simpa using h7
    subst e
    clear h7 h0 h1 h2 h3 h4 h5 h6
    go_wp2_with fail
    go_ret
    exact ⟨by first | rfl | trivial, by first | exact K2.out | exact eg1 ▸ K2.out⟩
  have q_m : decide (-17592186044416 ≤ m) = true := by simpa using h7
  have e : q = true := HR.out.2 (by omega)
  subst e
  clear h0 h1 h2 h3 h4 h5 h6 h7
  go_wp2_with fail
  go_ret
  exact ⟨by first | rfl | trivial, by first | exact K2.out | exact eg1 ▸ K2.out⟩
set_option maxRecDepth 100000 in
set_option maxHeartbeats 16000000 in
theorem lright0 (kd id a b x y vx vy an sp de ln k r : Int) (ao : Option Addr) (n c : Nat) (w : World) (h1 : (kd == 1) = false) (h2 : (kd == 2) = false) (h3 : (kd == 3) = false) (h4 : (kd == 4) = false) (h5 : (kd == 5) = false) (h6 : (kd == 6) = false) :
    Calls Tryz.prog 11 #[.agg #[.int .i64 kd, .int .i64 id, .int .i64 a, .int .i64 b, .int .i64 x, .int .i64 y, .int .i64 vx, .int .i64 vy, .int .i64 an, .int .i64 sp, .int .i64 de, .int .i64 ln, .int .i64 k, .int .i64 r, .slice ao n c]] w fun e v => e = .returned (.bool false) ∧ Made w.heap.size w v := by
  obtain ⟨W, eW⟩ : ∃ W, W = w.alloc (.cells #[.int .i64 kd, .int .i64 id, .int .i64 a, .int .i64 b, .int .i64 x, .int .i64 y, .int .i64 vx, .int .i64 vy, .int .i64 an, .int .i64 sp, .int .i64 de, .int .i64 ln, .int .i64 k, .int .i64 r, .slice ao n c] 29) := ⟨_, rfl⟩
  have KW : Hid (Made w.heap.size w W) := by unfold Hid; rw [eW]; exact (Made.rfl_ _ _).cells (Nat.le_refl _) _ _
  have HB : Hid (Has W w.heap.size 29 #[.int .i64 kd, .int .i64 id, .int .i64 a, .int .i64 b, .int .i64 x, .int .i64 y, .int .i64 vx, .int .i64 vy, .int .i64 an, .int .i64 sp, .int .i64 de, .int .i64 ln, .int .i64 k, .int .i64 r, .slice ao n c]) := by unfold Hid; rw [eW]; exact has_new _ _ _
  obtain ⟨g1, eg1⟩ : ∃ g, w.heap.size = g := ⟨_, rfl⟩
  rw [eg1] at HB
  have b0 := HB.out.at_ 0
  have b1 := HB.out.at_ 1
  have b2 := HB.out.at_ 2
  have b3 := HB.out.at_ 3
  have b4 := HB.out.at_ 4
  have b5 := HB.out.at_ 5
  have b6 := HB.out.at_ 6
  have b7 := HB.out.at_ 7
  have b8 := HB.out.at_ 8
  have b9 := HB.out.at_ 9
  have b10 := HB.out.at_ 10
  have b11 := HB.out.at_ 11
  have b12 := HB.out.at_ 12
  have b13 := HB.out.at_ 13
  have b14 := HB.out.at_ 14
  simp at b0 b1 b2 b3 b4 b5 b6 b7 b8 b9 b10 b11 b12 b13 b14
  have l1 : g1 < W.heap.size := HB.out.here
  have K1 : Made w.heap.size w (W.alloc (.cells #[.int .i64 0, .int .i64 0] 24)) := KW.out.cells KW.out.1.size _ _
  have HK1 := hid K1
  clear K1
  go_enter Tryz.func11, Tryz.ntmps11
  go_upto_region 1 with fail
  rw [← eW]
  clear eW
  try rw [eg1]
  have HEG := hid eg1
  clear eg1
  go_wp2_with fail
  go_ret
  exact ⟨by first | rfl | trivial, by first | exact HK1.out | exact HEG.out ▸ HK1.out⟩
end Go.Proofs.YtfncelifflebbaaGreat.Fx


/- The statement's right: every order. -/


namespace Go.Proofs.YtfncelifflebbaaGreat.Fx
open Go.ChangeShapes Go.WideShapes Go.ChangeAt Go.RowKit
set_option linter.unusedVariables false

set_option maxHeartbeats 4000000 in
theorem lright_c (q : Bool) (o : Or) {w : World} (hi : OrI o) (hs : Sl w o.ao o.n o.f) (hq : q = true ↔ OrderP o) : Calls Tryz.prog 11 #[orV o] w fun e v => e = .returned (.bool q) ∧ Made w.heap.size w v := by
  have hb := hi.body
  have hj := hi.joint
  obtain ⟨kd, id, a, b, x, y, vx, vy, an, sp, de, ln, k, r, ao, n, c, f⟩ := o
  obtain ⟨cb, hcb⟩ := a_bool (k = 0 ∧ r = 0 ∧ n = 0 ∧ de = 0 ∧ an = 0)
  simp only [] at hs
  by_cases h1 : kd = 1
  · subst h1
    obtain ⟨cc, hcc⟩ := a_bool (BodyP (⟨0, x, y, vx, vy, an, sp, de, k, r, ao, n, c, f⟩ : Bd))
    exact lright1 q cc id a b x y vx vy an sp de ln k r ao n c f w hs hb hcc (by rw [hq, hcc]; simp [OrderP, bodyOr])
  by_cases h2 : kd = 2
  · subst h2
    exact lright2 q cb id a b x y vx vy an sp de ln k r ao n c w hcb (by rw [hq, hcb]; simp [OrderP, BareO]; omega)
  by_cases h4 : kd = 4
  · subst h4
    exact lright4 q cb id a b x y vx vy an sp de ln k r ao n c w hcb (by rw [hq, hcb]; simp [OrderP, BareO]; omega)
  by_cases h3 : kd = 3
  · subst h3
    obtain ⟨cc, hcc⟩ := a_bool (JointP (⟨0, a, b, x, y, vx, vy, ln⟩ : Jt))
    exact lright3 q cb cc id a b x y vx vy an sp de ln k r ao n c w hcb hj hcc (by rw [hq, hcb, hcc]; simp [OrderP, BareO, jointOr])
  by_cases h5 : kd = 5
  · subst h5
    exact lright5 q cb id a b x y vx vy an sp de ln k r ao n c w hcb (by rw [hq, hcb]; simp [OrderP, BareO, Inn]; omega)
  by_cases h6 : kd = 6
  · subst h6
    exact lright6 q cb id a b x y vx vy an sp de ln k r ao n c w hcb _ _ rfl rfl (by rw [hq, hcb]; simp [OrderP, BareO, Inn]; omega)
  have e : q = false := Bool.eq_false_iff.2 fun h => by have := hq.1 h; simp [OrderP, h1, h2, h3, h4, h5, h6] at this
  subst e
  exact lright0 kd id a b x y vx vy an sp de ln k r ao n c w (by simpa using h1) (by simpa using h2) (by simpa using h3) (by simpa using h4) (by simpa using h5) (by simpa using h6)
end Go.Proofs.YtfncelifflebbaaGreat.Fx


/- What a slice of vectors that came in holds. -/


namespace Go.Proofs.YtfncelifflebbaaGreat.Fx
open Go.ChangeShapes Go.WideShapes Go.ChangeAt Go.RowKit Go.Deep
set_option linter.unusedVariables false

section
variable {H : Type} {enc : TypeId × Value → H} {w : World} {base : Nat} {spare : Nat → Bool} {held : Bool}
/-- a slice of vectors that came in -/
theorem open_pts {fuel : Nat} {v : Value} {y : DataW H × List MemPlace} (h : DataW.trod enc Tryz.prog w base spare held fuel 25 [v] = some y) :
    ∃ ao len cap f, v = .slice ao len cap ∧ Sl w ao len f ∧ Cin f len := by
  rcases open_slice_pairs Tryz.underlying25 Tryz.underlying24 (by kernel_rfl) rfl rfl (by kernel_rfl) (by kernel_rfl) h with ⟨hcs, _⟩ | ⟨a, len, cap, m, n, V0, V1, D0, D1, P0, P1, hcs, _, _, _, hm, _, hf⟩
  · simp at hcs
    exact ⟨none, 0, 0, fun _ => (0, 0), hcs, fun h => absurd h (by omega), fun i hi => absurd hi (by omega)⟩
  · simp at hcs
    have hlm : len ≤ m := by rw [hm]; split <;> omega
    obtain ⟨f, hc⟩ := choose_lt (α := Int × Int) (n := len) (p := fun i x => (w.cell? (a.add (i * 2)) = some (.int .i64 x.1) ∧ w.cell? (a.add (i * 2 + 1)) = some (.int .i64 x.2)) ∧ I64 x.1 ∧ I64 x.2) (fun i hi => by
      obtain ⟨c0, c1, t0, t1⟩ := hf i (by omega)
      obtain ⟨x, ex, _, wx⟩ := DataW.trod_int Tryz.underlying22 t0
      obtain ⟨z, ez, _, wz⟩ := DataW.trod_int Tryz.underlying22 t1
      simp at ex ez
      rw [ex] at c0
      rw [ez] at c1
      exact ⟨(x, z), ⟨c0, c1⟩, I64_wf wx, I64_wf wz⟩)
    refine ⟨some a, len, cap, f, hcs, fun h0 => ?_, fun i hi => (hc i hi).2⟩
    obtain ⟨b, off, spot⟩ := a
    have hspot : spot = none := by simpa [Addr.add] using World.cell?_spot (hc 0 h0).1.1
    subst hspot
    refine ⟨b, off, rfl, fun i hi => ?_⟩
    have := (hc i hi).1
    rw [Addr.add_lit, Addr.add_lit] at this
    exact ⟨this.1, by rw [Nat.add_assoc]; exact this.2⟩
end
end Go.Proofs.YtfncelifflebbaaGreat.Fx

