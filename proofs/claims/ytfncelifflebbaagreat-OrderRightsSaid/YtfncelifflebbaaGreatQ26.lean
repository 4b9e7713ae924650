/- OrI OrJ -/
import Derived.Test.YtfncelifflebbaaGreatQ14
import Derived.WalkLawsBesides

/- The statement's bare and right. -/


namespace Go.Proofs.YtfncelifflebbaaGreat.Fx
open Go.ChangeShapes Go.WideShapes Go.ChangeAt Go.RowKit
set_option linter.unusedVariables false

set_option maxRecDepth 100000 in
set_option maxHeartbeats 16000000 in
theorem bare_c (q : Bool) (kd id a b x y vx vy an sp de ln k r : Int) (ao : Option Addr) (n c : Nat) (w : World) (hq : q = true ↔ k = 0 ∧ r = 0 ∧ n = 0 ∧ de = 0 ∧ an = 0) :
    Calls Tryz.prog 38 #[.agg #[.int .i64 kd, .int .i64 id, .int .i64 a, .int .i64 b, .int .i64 x, .int .i64 y, .int .i64 vx, .int .i64 vy, .int .i64 an, .int .i64 sp, .int .i64 de, .int .i64 ln, .int .i64 k, .int .i64 r, .slice ao n c]] w fun e v => e = .returned (.bool q) ∧ Made w.heap.size w v := by
  have HR := hid hq
  clear hq
  obtain ⟨W, eW⟩ : ∃ W, W = w.alloc (.cells #[.int .i64 kd, .int .i64 id, .int .i64 a, .int .i64 b, .int .i64 x, .int .i64 y, .int .i64 vx, .int .i64 vy, .int .i64 an, .int .i64 sp, .int .i64 de, .int .i64 ln, .int .i64 k, .int .i64 r, .slice ao n c] 29) := ⟨_, rfl⟩
  have KW : Hid (Made w.heap.size w W) := by unfold Hid; rw [eW]; exact (Made.rfl_ _ _).cells (Nat.le_refl _) _ _
  have HB : Hid (Has W w.heap.size 29 #[.int .i64 kd, .int .i64 id, .int .i64 a, .int .i64 b, .int .i64 x, .int .i64 y, .int .i64 vx, .int .i64 vy, .int .i64 an, .int .i64 sp, .int .i64 de, .int .i64 ln, .int .i64 k, .int .i64 r, .slice ao n c]) := by unfold Hid; rw [eW]; exact has_new _ _ _
  obtain ⟨g1, eg1⟩ : ∃ g, w.heap.size = g := ⟨_, rfl⟩
  rw [eg1] at HB
  have b0 := HB.out.at_ 0
  have b1 := HB.out.at_ 1
  have b2 := HB.out.at_ 2
  have b3 := HB.out.at_ 3
  have b4 := HB.out.at_ 4
  have b5 := HB.out.at_ 5
  have b6 := HB.out.at_ 6
  have b7 := HB.out.at_ 7
  have b8 := HB.out.at_ 8
  have b9 := HB.out.at_ 9
  have b10 := HB.out.at_ 10
  have b11 := HB.out.at_ 11
  have b12 := HB.out.at_ 12
  have b13 := HB.out.at_ 13
  have b14 := HB.out.at_ 14
  simp at b0 b1 b2 b3 b4 b5 b6 b7 b8 b9 b10 b11 b12 b13 b14
  have l1 : g1 < W.heap.size := HB.out.here
  go_enter Tryz.func38, Tryz.ntmps38
  go_upto_region 1 with fail
  rw [← eW]
  clear eW
  try rw [eg1]
  by_cases h0 : k = 0
  case neg =>
    have e : q = false := Bool.eq_false_iff.2 fun h => by have hh := HR.out.1 h; omega
    have q_k : (k == 0) = false := by simpa using h0
    subst e
    clear h0
    go_wp2_with fail
    go_ret
    exact ⟨by first | rfl | trivial, by first | exact KW.out | exact eg1 ▸ KW.out⟩
  have q_k : (k == 0) = true := by simpa using h0
  by_cases h1 : r = 0
  case neg =>
    have e : q = false := Bool.eq_false_iff.2 fun h => by have hh := HR.out.1 h; omega
    have q_r : (r == 0) = false := by simpa using h1
    subst e
    clear h1 h0
    go_wp2_with fail
    go_ret
    exact ⟨by first | rfl | trivial, by first | exact KW.out | exact eg1 ▸ KW.out⟩
  have q_r : (r == 0) = true := by simpa using h1
  by_cases h2 : n = 0
  case neg =>
    have e : q = false := Bool.eq_false_iff.2 fun h => by have hh := HR.out.1 h; omega
    have q_n : ((n : Int) == 0) = false := by simp; omega
    subst e
    clear h2 h0 h1
    go_wp2_with fail
    go_ret
    exact ⟨by first | rfl | trivial, by first | exact KW.out | exact eg1 ▸ KW.out⟩
  have q_n : ((n : Int) == 0) = true := by rw [h2]; rfl
  by_cases h3 : de = 0
  case neg =>
    have e : q = false := Bool.eq_false_iff.2 fun h => by have hh := HR.out.1 h; omega
    have q_de : (de == 0) = false := by simpa using h3
    subst e
    clear h3 h0 h1 h2
    go_wp2_with fail
    go_ret
    exact ⟨by first | rfl | trivial, by first | exact KW.out | exact eg1 ▸ KW.out⟩
  have q_de : (de == 0) = true := by simpa using h3
  by_cases h4 : an = 0
  case neg =>
    have e : q = false := Bool.eq_false_iff.2 fun h => by have hh := HR.out.1 h; omega
    have q_an : (an == 0) = false := by simpa using h4
    subst e
    clear h4 h0 h1 h2 h3
    go_wp2_with fail
    go_ret
    exact ⟨by first | rfl | trivial, by first | exact KW.out | exact eg1 ▸ KW.out⟩
  have q_an : (an == 0) = true := by simpa using h4
  have e : q = true := HR.out.2 (by omega)
  subst e
  clear h0 h1 h2 h3 h4
  go_wp2_with fail
  go_ret
  exact ⟨by first | rfl | trivial, by first | exact KW.out | exact eg1 ▸ KW.out⟩
set_option maxRecDepth 100000 in
set_option maxHeartbeats 32000000 in
theorem lright2 (q cb : Bool) (id a b x y vx vy an sp de ln k r : Int) (ao : Option Addr) (n c : Nat)  (w : World) (hb : cb = true ↔ k = 0 ∧ r = 0 ∧ n = 0 ∧ de = 0 ∧ an = 0) (hq : q = true ↔ cb = true ∧ 0 < id ∧ a = 0 ∧ b = 0 ∧ x = 0 ∧ y = 0 ∧ vx = 0 ∧ vy = 0 ∧ sp = 0 ∧ ln = 0) :
    Calls Tryz.prog 11 #[.agg #[.int .i64 2, .int .i64 id, .int .i64 a, .int .i64 b, .int .i64 x, .int .i64 y, .int .i64 vx, .int .i64 vy, .int .i64 an, .int .i64 sp, .int .i64 de, .int .i64 ln, .int .i64 k, .int .i64 r, .slice ao n c]] w fun e v => e = .returned (.bool q) ∧ Made w.heap.size w v := by
  have HR := hid hq
  clear hq
  have HBr := hid (fun v => bare_c cb 2 id a b x y vx vy an sp de ln k r ao n c v hb)
  clear hb
  obtain ⟨W, eW⟩ : ∃ W, W = w.alloc (.cells #[.int .i64 2, .int .i64 id, .int .i64 a, .int .i64 b, .int .i64 x, .int .i64 y, .int .i64 vx, .int .i64 vy, .int .i64 an, .int .i64 sp, .int .i64 de, .int .i64 ln, .int .i64 k, .int .i64 r, .slice ao n c] 29) := ⟨_, rfl⟩
  have KW : Hid (Made w.heap.size w W) := by unfold Hid; rw [eW]; exact (Made.rfl_ _ _).cells (Nat.le_refl _) _ _
  have HB : Hid (Has W w.heap.size 29 #[.int .i64 2, .int .i64 id, .int .i64 a, .int .i64 b, .int .i64 x, .int .i64 y, .int .i64 vx, .int .i64 vy, .int .i64 an, .int .i64 sp, .int .i64 de, .int .i64 ln, .int .i64 k, .int .i64 r, .slice ao n c]) := by unfold Hid; rw [eW]; exact has_new _ _ _
  obtain ⟨g1, eg1⟩ : ∃ g, w.heap.size = g := ⟨_, rfl⟩
  rw [eg1] at HB
  obtain ⟨W1, eW1⟩ : ∃ V, V = W.alloc (.cells #[.int .i64 0, .int .i64 0] 24) := ⟨_, rfl⟩
  have kk1 : Made W.heap.size W W1 := by rw [eW1]; exact (Made.rfl_ _ _).cells (Nat.le_refl _) _ _
  have HV1 : Hid (Has W1 W.heap.size 24 #[.int .i64 0, .int .i64 0]) := by unfold Hid; rw [eW1]; exact has_new _ _ _
  have K1 := hid (KW.out.then_ (kk1.low KW.out.1.size))
  have HB1 := hid (HB.out.stays kk1 HB.out.here)
  have b0 := HB.out.at_ 0
  have b1 := HB.out.at_ 1
  have b2 := HB.out.at_ 2
  have b3 := HB.out.at_ 3
  have b4 := HB.out.at_ 4
  have b5 := HB.out.at_ 5
  have b6 := HB.out.at_ 6
  have b7 := HB.out.at_ 7
  have b8 := HB.out.at_ 8
  have b9 := HB.out.at_ 9
  have b10 := HB.out.at_ 10
  have b11 := HB.out.at_ 11
  have b12 := HB.out.at_ 12
  have b13 := HB.out.at_ 13
  have b14 := HB.out.at_ 14
  simp at b0 b1 b2 b3 b4 b5 b6 b7 b8 b9 b10 b11 b12 b13 b14
  have l1 : g1 < W.heap.size := HB.out.here
  obtain ⟨g2, eg2⟩ : ∃ g, W.heap.size = g := ⟨_, rfl⟩
  rw [eg2] at HV1
  clear kk1
  go_enter Tryz.func11, Tryz.ntmps11
  go_upto_region 1 with fail
  rw [← eW]
  clear eW
  try rw [eg1]
  go_upto_region 2 with fail
  rw [← eW1]
  clear eW1 b0 b1 b2 b3 b4 b5 b6 b7 b8 b9 b10 b11 b12 b13 b14 l1
  try rw [eg2]
  clear eg2
  have b0 := HB1.out.at_ 0
  have b1 := HB1.out.at_ 1
  have b2 := HB1.out.at_ 2
  have b3 := HB1.out.at_ 3
  have b4 := HB1.out.at_ 4
  have b5 := HB1.out.at_ 5
  have b6 := HB1.out.at_ 6
  have b7 := HB1.out.at_ 7
  have b8 := HB1.out.at_ 8
  have b9 := HB1.out.at_ 9
  have b10 := HB1.out.at_ 10
  have b11 := HB1.out.at_ 11
  have b12 := HB1.out.at_ 12
  have b13 := HB1.out.at_ 13
  have b14 := HB1.out.at_ 14
  simp at b0 b1 b2 b3 b4 b5 b6 b7 b8 b9 b10 b11 b12 b13 b14
  have l1 : g1 < W1.heap.size := HB1.out.here
  go_wp2_with fail
  refine (HBr.out _).mono ?_
  rintro e w2 ⟨rfl, k2⟩
  have K2 := hid (K1.out.then_ (k2.low K1.out.1.size))
  have HB2 := hid (HB1.out.stays k2 HB1.out.here)
  have HV2 := hid (HV1.out.stays k2 HV1.out.here)
  clear k2 b0 b1 b2 b3 b4 b5 b6 b7 b8 b9 b10 b11 b12 b13 b14 l1
  have b0 := HB2.out.at_ 0
  have b1 := HB2.out.at_ 1
  have b2 := HB2.out.at_ 2
  have b3 := HB2.out.at_ 3
  have b4 := HB2.out.at_ 4
  have b5 := HB2.out.at_ 5
  have b6 := HB2.out.at_ 6
  have b7 := HB2.out.at_ 7
  have b8 := HB2.out.at_ 8
  have b9 := HB2.out.at_ 9
  have b10 := HB2.out.at_ 10
  have b11 := HB2.out.at_ 11
  have b12 := HB2.out.at_ 12
  have b13 := HB2.out.at_ 13
  have b14 := HB2.out.at_ 14
  simp at b0 b1 b2 b3 b4 b5 b6 b7 b8 b9 b10 b11 b12 b13 b14
  have l1 : g1 < w2.heap.size := HB2.out.here
  cases cb with
  | false =>
    have e : q = false := Bool.eq_false_iff.2 fun h => by have := (HR.out.1 h).1; simp at this
    subst e
    go_wp2_with fail
    go_ret
    exact ⟨by first | rfl | trivial, by first | exact K2.out | exact eg1 ▸ K2.out⟩
  | true =>
  have HR : Hid (q = true ↔ 0 < id ∧ a = 0 ∧ b = 0 ∧ x = 0 ∧ y = 0 ∧ vx = 0 ∧ vy = 0 ∧ sp = 0 ∧ ln = 0) := by unfold Hid; have h := HR.out; simpa using h
  have v0 := HV2.out.at_ 0
  have v1 := HV2.out.at_ 1
  simp at v0 v1
  have l2 : g2 < w2.heap.size := HV2.out.here
  by_cases h0 : 0 < id
  case neg =>
    have e : q = false := Bool.eq_false_iff.2 fun h => by have hh := HR.out.1 h; omega
    have q_id : decide (0 < id) = false := by simpa using h0
    subst e
    clear h0
    go_wp2_with fail
    go_ret
    exact ⟨by first | rfl | trivial, by first | exact K2.out | exact eg1 ▸ K2.out⟩
  have q_id : decide (0 < id) = true := by simpa using h0
  by_cases h1 : a = 0
  case neg =>
    have e : q = false := Bool.eq_false_iff.2 fun h => by have hh := HR.out.1 h; omega
    have q_a : (a == 0) = false := by simpa using h1
    subst e
    clear h1 h0
    go_wp2_with fail
    go_ret
    exact ⟨by first | rfl | trivial, by first | exact K2.out | exact eg1 ▸ K2.out⟩
  have q_a : (a == 0) = true := by simpa using h1
  by_cases h2 : b = 0
  case neg =>
    have e : q = false := Bool.eq_false_iff.2 fun h => by have hh := HR.out.1 h; omega
    have q_b : (b == 0) = false := by simpa using h2
    subst e
    clear h2 h0 h1
    go_wp2_with fail
    go_ret
    exact ⟨by first | rfl | trivial, by first | exact K2.out | exact eg1 ▸ K2.out⟩
  have q_b : (b == 0) = true := by simpa using h2
  by_cases h3 : x = 0 ∧ y = 0
  case neg =>
    have e : q = false := Bool.eq_false_iff.2 fun h => by have hh := HR.out.1 h; omega
    have q_x := veql x y 0 0 false (iff_of_false (by simp) h3)
    subst e
    clear h3 h0 h1 h2
    go_wp2_with fail
    go_ret
    exact ⟨by first | rfl | trivial, by first | exact K2.out | exact eg1 ▸ K2.out⟩
  have q_x := veql x y 0 0 true (iff_of_true rfl h3)
  by_cases h4 : vx = 0 ∧ vy = 0
  case neg =>
    have e : q = false := Bool.eq_false_iff.2 fun h => by have hh := HR.out.1 h; omega
    have q_vx := veql vx vy 0 0 false (iff_of_false (by simp) h4)
    subst e
    clear h4 h0 h1 h2 h3
    go_wp2_with fail
    go_ret
    exact ⟨by first | rfl | trivial, by first | exact K2.out | exact eg1 ▸ K2.out⟩
  have q_vx := veql vx vy 0 0 true (iff_of_true rfl h4)
  by_cases h5 : sp = 0
  case neg =>
    have e : q = false := Bool.eq_false_iff.2 fun h => by have hh := HR.out.1 h; omega
    have q_sp : (sp == 0) = false := by simpa using h5
    subst e
    clear h5 h0 h1 h2 h3 h4
    go_wp2_with fail
    go_ret
    exact ⟨by first | rfl | trivial, by first | exact K2.out | exact eg1 ▸ K2.out⟩
  have q_sp : (sp == 0) = true := by simpa using h5
  by_cases h6 : ln = 0
  case neg =>
    have e : q = false := Bool.eq_false_iff.2 fun h => by have hh := HR.out.1 h; omega
    have q_ln : (ln == 0) = false := by simpa using h6
    subst e
    clear h6 h0 h1 h2 h3 h4 h5
    go_wp2_with fail
    go_ret
    exact ⟨by first | rfl | trivial, by first | exact K2.out | exact eg1 ▸ K2.out⟩
  have q_ln : (ln == 0) = true := by simpa using h6
  have e : q = true := HR.out.2 (by omega)
  subst e
  clear h0 h1 h2 h3 h4 h5 h6
  go_wp2_with fail
  go_ret
  exact ⟨by first | rfl | trivial, by first | exact K2.out | exact eg1 ▸ K2.out⟩
set_option maxRecDepth 100000 in
set_option maxHeartbeats 32000000 in
theorem lright4 (q cb : Bool) (id a b x y vx vy an sp de ln k r : Int) (ao : Option Addr) (n c : Nat)  (w : World) (hb : cb = true ↔ k = 0 ∧ r = 0 ∧ n = 0 ∧ de = 0 ∧ an = 0) (hq : q = true ↔ cb = true ∧ 0 < id ∧ a = 0 ∧ b = 0 ∧ x = 0 ∧ y = 0 ∧ vx = 0 ∧ vy = 0 ∧ sp = 0 ∧ ln = 0) :
    Calls Tryz.prog 11 #[.agg #[.int .i64 4, .int .i64 id, .int .i64 a, .int .i64 b, .int .i64 x, .int .i64 y, .int .i64 vx, .int .i64 vy, .int .i64 an, .int .i64 sp, .int .i64 de, .int .i64 ln, .int .i64 k, .int .i64 r, .slice ao n c]] w fun e v => e = .returned (.bool q) ∧ Made w.heap.size w v := by
  have HR := hid hq
  clear hq
  have HBr := hid (fun v => bare_c cb 4 id a b x y vx vy an sp de ln k r ao n c v hb)
  clear hb
  obtain ⟨W, eW⟩ : ∃ W, W = w.alloc (.cells #[.int .i64 4, .int .i64 id, .int .i64 a, .int .i64 b, .int .i64 x, .int .i64 y, .int .i64 vx, .int .i64 vy, .int .i64 an, .int .i64 sp, .int .i64 de, .int .i64 ln, .int .i64 k, .int .i64 r, .slice ao n c] 29) := ⟨_, rfl⟩
  have KW : Hid (Made w.heap.size w W) := by unfold Hid; rw [eW]; exact (Made.rfl_ _ _).cells (Nat.le_refl _) _ _
  have HB : Hid (Has W w.heap.size 29 #[.int .i64 4, .int .i64 id, .int .i64 a, .int .i64 b, .int .i64 x, .int .i64 y, .int .i64 vx, .int .i64 vy, .int .i64 an, .int .i64 sp, .int .i64 de, .int .i64 ln, .int .i64 k, .int .i64 r, .slice ao n c]) := by unfold Hid; rw [eW]; exact has_new _ _ _
  obtain ⟨g1, eg1⟩ : ∃ g, w.heap.size = g := ⟨_, rfl⟩
  rw [eg1] at HB
  obtain ⟨W1, eW1⟩ : ∃ V, V = W.alloc (.cells #[.int .i64 0, .int .i64 0] 24) := ⟨_, rfl⟩
  have kk1 : Made W.heap.size W W1 := by rw [eW1]; exact (Made.rfl_ _ _).cells (Nat.le_refl _) _ _
  have HV1 : Hid (Has W1 W.heap.size 24 #[.int .i64 0, .int .i64 0]) := by unfold Hid; rw [eW1]; exact has_new _ _ _
  have K1 := hid (KW.out.then_ (kk1.low KW.out.1.size))
  have HB1 := hid (HB.out.stays kk1 HB.out.here)
  have b0 := HB.out.at_ 0
  have b1 := HB.out.at_ 1
  have b2 := HB.out.at_ 2
  have b3 := HB.out.at_ 3
  have b4 := HB.out.at_ 4
  have b5 := HB.out.at_ 5
  have b6 := HB.out.at_ 6
  have b7 := HB.out.at_ 7
  have b8 := HB.out.at_ 8
  have b9 := HB.out.at_ 9
  have b10 := HB.out.at_ 10
  have b11 := HB.out.at_ 11
  have b12 := HB.out.at_ 12
  have b13 := HB.out.at_ 13
  have b14 := HB.out.at_ 14
  simp at b0 b1 b2 b3 b4 b5 b6 b7 b8 b9 b10 b11 b12 b13 b14
  have l1 : g1 < W.heap.size := HB.out.here
  obtain ⟨g2, eg2⟩ : ∃ g, W.heap.size = g := ⟨_, rfl⟩
  rw [eg2] at HV1
  clear kk1
  go_enter Tryz.func11, Tryz.ntmps11
  go_upto_region 1 with fail
  rw [← eW]
  clear eW
  try rw [eg1]
  go_upto_region 2 with fail
  rw [← eW1]
  clear eW1 b0 b1 b2 b3 b4 b5 b6 b7 b8 b9 b10 b11 b12 b13 b14 l1
  try rw [eg2]
  clear eg2
  have b0 := HB1.out.at_ 0
  have b1 := HB1.out.at_ 1
  have b2 := HB1.out.at_ 2
  have b3 := HB1.out.at_ 3
  have b4 := HB1.out.at_ 4
  have b5 := HB1.out.at_ 5
  have b6 := HB1.out.at_ 6
  have b7 := HB1.out.at_ 7
  have b8 := HB1.out.at_ 8
  have b9 := HB1.out.at_ 9
  have b10 := HB1.out.at_ 10
  have b11 := HB1.out.at_ 11
  have b12 := HB1.out.at_ 12
  have b13 := HB1.out.at_ 13
  have b14 := HB1.out.at_ 14
  simp at b0 b1 b2 b3 b4 b5 b6 b7 b8 b9 b10 b11 b12 b13 b14
  have l1 : g1 < W1.heap.size := HB1.out.here
  go_wp2_with fail
  refine (HBr.out _).mono ?_
  rintro e w2 ⟨rfl, k2⟩
  have K2 := hid (K1.out.then_ (k2.low K1.out.1.size))
  have HB2 := hid (HB1.out.stays k2 HB1.out.here)
  have HV2 := hid (HV1.out.stays k2 HV1.out.here)
  clear k2 b0 b1 b2 b3 b4 b5 b6 b7 b8 b9 b10 b11 b12 b13 b14 l1
  have b0 := HB2.out.at_ 0
  have b1 := HB2.out.at_ 1
  have b2 := HB2.out.at_ 2
  have b3 := HB2.out.at_ 3
  have b4 := HB2.out.at_ 4
  have b5 := HB2.out.at_ 5
  have b6 := HB2.out.at_ 6
  have b7 := HB2.out.at_ 7
  have b8 := HB2.out.at_ 8
  have b9 := HB2.out.at_ 9
  have b10 := HB2.out.at_ 10
  have b11 := HB2.out.at_ 11
  have b12 := HB2.out.at_ 12
  have b13 := HB2.out.at_ 13
  have b14 := HB2.out.at_ 14
  simp at b0 b1 b2 b3 b4 b5 b6 b7 b8 b9 b10 b11 b12 b13 b14
  have l1 : g1 < w2.heap.size := HB2.out.here
  cases cb with
  | false =>
    have e : q = false := Bool.eq_false_iff.2 fun h => by have := (HR.out.1 h).1; simp at this
    subst e
    go_wp2_with fail
    go_ret
    exact ⟨by first | rfl | trivial, by first | exact K2.out | exact eg1 ▸ K2.out⟩
  | true =>
  have HR : Hid (q = true ↔ 0 < id ∧ a = 0 ∧ b = 0 ∧ x = 0 ∧ y = 0 ∧ vx = 0 ∧ vy = 0 ∧ sp = 0 ∧ ln = 0) := by unfold Hid; have h := HR.out; simpa using h
  have v0 := HV2.out.at_ 0
  have v1 := HV2.out.at_ 1
  simp at v0 v1
  have l2 : g2 < w2.heap.size := HV2.out.here
  by_cases h0 : 0 < id
  case neg =>
    have e : q = false := Bool.eq_false_iff.2 fun h => by have hh := HR.out.1 h; omega
    have q_id : decide (0 < id) = false := by simpa using h0
    subst e
    clear h0
    go_wp2_with fail
    go_ret
    exact ⟨by first | rfl | trivial, by first | exact K2.out | exact eg1 ▸ K2.out⟩
  have q_id : decide (0 < id) = true := by simpa using h0
  by_cases h1 : a = 0
  case neg =>
    have e : q = false := Bool.eq_false_iff.2 fun h => by have hh := HR.out.1 h; omega
    have q_a : (a == 0) = false := by simpa using h1
    subst e
    clear h1 h0
    go_wp2_with fail
    go_ret
    exact ⟨by first | rfl | trivial, by first | exact K2.out | exact eg1 ▸ K2.out⟩
  have q_a : (a == 0) = true := by simpa using h1
  by_cases h2 : b = 0
  case neg =>
    have e : q = false := Bool.eq_false_iff.2 fun h => by have hh := HR.out.1 h; omega
    have q_b : (b == 0) = false := by simpa using h2
    subst e
    clear h2 h0 h1
    go_wp2_with fail
    go_ret
    exact ⟨by first | rfl | trivial, by first | exact K2.out | exact eg1 ▸ K2.out⟩
  have q_b : (b == 0) = true := by simpa using h2
  by_cases h3 : x = 0 ∧ y = 0
  case neg =>
    have e : q = false := Bool.eq_false_iff.2 fun h => by have hh := HR.out.1 h; omega
    have q_x := veql x y 0 0 false (iff_of_false (by simp) h3)
    subst e
    clear h3 h0 h1 h2
    go_wp2_with fail
    go_ret
    exact ⟨by first | rfl | trivial, by first | exact K2.out | exact eg1 ▸ K2.out⟩
  have q_x := veql x y 0 0 true (iff_of_true rfl h3)
  by_cases h4 : vx = 0 ∧ vy = 0
  case neg =>
    have e : q = false := Bool.eq_false_iff.2 fun h => by have hh := HR.out.1 h; omega
    have q_vx := veql vx vy 0 0 false (iff_of_false (by simp) h4)
    subst e
    clear h4 h0 h1 h2 h3
    go_wp2_with fail
    go_ret
    exact ⟨by first | rfl | trivial, by first | exact K2.out | exact eg1 ▸ K2.out⟩
  have q_vx := veql vx vy 0 0 true (iff_of_true rfl h4)
  by_cases h5 : sp = 0
  case neg =>
    have e : q = false := Bool.eq_false_iff.2 fun h => by have hh := HR.out.1 h; omega
    have q_sp : (sp == 0) = false := by simpa using h5
    subst e
    clear h5 h0 h1 h2 h3 h4
    go_wp2_with fail
    go_ret
    exact ⟨by first | rfl | trivial, by first | exact K2.out | exact eg1 ▸ K2.out⟩
  have q_sp : (sp == 0) = true := by simpa using h5
  by_cases h6 : ln = 0
  case neg =>
    have e : q = false := Bool.eq_false_iff.2 fun h => by have hh := HR.out.1 h; omega
    have q_ln : (ln == 0) = false := by simpa using h6
    subst e
    clear h6 h0 h1 h2 h3 h4 h5
    go_wp2_with fail
    go_ret
    exact ⟨by first | rfl | trivial, by first | exact K2.out | exact eg1 ▸ K2.out⟩
  have q_ln : (ln == 0) = true := by simpa using h6
  have e : q = true := HR.out.2 (by omega)
  subst e
  clear h0 h1 h2 h3 h4 h5 h6
  go_wp2_with fail
  go_ret
  exact ⟨by first | rfl | trivial, by first | exact K2.out | exact eg1 ▸ K2.out⟩
end Go.Proofs.YtfncelifflebbaaGreat.Fx


/- The statement's right: the other kinds. -/

namespace Go.Proofs.YtfncelifflebbaaGreat.Fx
open Go.ChangeShapes Go.WideShapes Go.ChangeAt Go.RowKit
set_option linter.unusedVariables false

set_option maxRecDepth 100000 in
set_option maxHeartbeats 32000000 in
theorem lright1 (q cc : Bool) (id a b x y vx vy an sp de ln k r : Int) (ao : Option Addr) (n c : Nat) (f : Cs) (w : World) (hs : Sl w ao n f) (hi : BdI ⟨0, x, y, vx, vy, an, sp, de, k, r, ao, n, c, f⟩) (hc : cc = true ↔ BodyP ⟨0, x, y, vx, vy, an, sp, de, k, r, ao, n, c, f⟩) (hq : q = true ↔ id = 0 ∧ a = 0 ∧ b = 0 ∧ ln = 0 ∧ cc = true) :
    Calls Tryz.prog 11 #[.agg #[.int .i64 1, .int .i64 id, .int .i64 a, .int .i64 b, .int .i64 x, .int .i64 y, .int .i64 vx, .int .i64 vy, .int .i64 an, .int .i64 sp, .int .i64 de, .int .i64 ln, .int .i64 k, .int .i64 r, .slice ao n c]] w fun e v => e = .returned (.bool q) ∧ Made w.heap.size w v := by
  have HR := hid hq
  clear hq
  have HS : Hid (∀ v, Made w.heap.size w v → Sl v ao n f) := fun v k hn => by obtain ⟨b, off, e, hp⟩ := hs hn; exact ⟨b, off, e, hp.kept k⟩
  have HRB := hid (fun v (k' : Made w.heap.size w v) => rbody_c 0 x y vx vy an sp de k r ao n c f cc v (HS.out v k') hi hc)
  clear hs hi hc
  obtain ⟨W, eW⟩ : ∃ W, W = w.alloc (.cells #[.int .i64 1, .int .i64 id, .int .i64 a, .int .i64 b, .int .i64 x, .int .i64 y, .int .i64 vx, .int .i64 vy, .int .i64 an, .int .i64 sp, .int .i64 de, .int .i64 ln, .int .i64 k, .int .i64 r, .slice ao n c] 29) := ⟨_, rfl⟩
  have KW : Hid (Made w.heap.size w W) := by unfold Hid; rw [eW]; exact (Made.rfl_ _ _).cells (Nat.le_refl _) _ _
  have HB : Hid (Has W w.heap.size 29 #[.int .i64 1, .int .i64 id, .int .i64 a, .int .i64 b, .int .i64 x, .int .i64 y, .int .i64 vx, .int .i64 vy, .int .i64 an, .int .i64 sp, .int .i64 de, .int .i64 ln, .int .i64 k, .int .i64 r, .slice ao n c]) := by unfold Hid; rw [eW]; exact has_new _ _ _
  obtain ⟨g1, eg1⟩ : ∃ g, w.heap.size = g := ⟨_, rfl⟩
  rw [eg1] at HB
  obtain ⟨W1, eW1⟩ : ∃ V, V = W.alloc (.cells #[.int .i64 0, .int .i64 0] 24) := ⟨_, rfl⟩
  have kk1 : Made W.heap.size W W1 := by rw [eW1]; exact (Made.rfl_ _ _).cells (Nat.le_refl _) _ _
  have HV1 : Hid (Has W1 W.heap.size 24 #[.int .i64 0, .int .i64 0]) := by unfold Hid; rw [eW1]; exact has_new _ _ _
  have K1 := hid (KW.out.then_ (kk1.low KW.out.1.size))
  have HB1 := hid (HB.out.stays kk1 HB.out.here)
  have b0 := HB.out.at_ 0
  have b1 := HB.out.at_ 1
  have b2 := HB.out.at_ 2
  have b3 := HB.out.at_ 3
  have b4 := HB.out.at_ 4
  have b5 := HB.out.at_ 5
  have b6 := HB.out.at_ 6
  have b7 := HB.out.at_ 7
  have b8 := HB.out.at_ 8
  have b9 := HB.out.at_ 9
  have b10 := HB.out.at_ 10
  have b11 := HB.out.at_ 11
  have b12 := HB.out.at_ 12
  have b13 := HB.out.at_ 13
  have b14 := HB.out.at_ 14
  simp at b0 b1 b2 b3 b4 b5 b6 b7 b8 b9 b10 b11 b12 b13 b14
  have l1 : g1 < W.heap.size := HB.out.here
  obtain ⟨g2, eg2⟩ : ∃ g, W.heap.size = g := ⟨_, rfl⟩
  rw [eg2] at HV1
  clear kk1
  go_enter Tryz.func11, Tryz.ntmps11
  go_upto_region 1 with fail
  rw [← eW]
  clear eW
  try rw [eg1]
  go_upto_region 2 with fail
  rw [← eW1]
  clear eW1 b0 b1 b2 b3 b4 b5 b6 b7 b8 b9 b10 b11 b12 b13 b14 l1
  try rw [eg2]
  clear eg2
  have b0 := HB1.out.at_ 0
  have b1 := HB1.out.at_ 1
  have b2 := HB1.out.at_ 2
  have b3 := HB1.out.at_ 3
  have b4 := HB1.out.at_ 4
  have b5 := HB1.out.at_ 5
  have b6 := HB1.out.at_ 6
  have b7 := HB1.out.at_ 7
  have b8 := HB1.out.at_ 8
  have b9 := HB1.out.at_ 9
  have b10 := HB1.out.at_ 10
  have b11 := HB1.out.at_ 11
  have b12 := HB1.out.at_ 12
  have b13 := HB1.out.at_ 13
  have b14 := HB1.out.at_ 14
  simp at b0 b1 b2 b3 b4 b5 b6 b7 b8 b9 b10 b11 b12 b13 b14
  have l1 : g1 < W1.heap.size := HB1.out.here
  obtain ⟨W2, eW2⟩ : ∃ V, V = W1.alloc (.cells #[.int .i64 0, .int .i64 x, .int .i64 y, .int .i64 vx, .int .i64 vy, .int .i64 an, .int .i64 sp, .int .i64 de, .int .i64 k, .int .i64 r, .slice ao n c] 35) := ⟨_, rfl⟩
  have kk2 : Made W1.heap.size W1 W2 := by rw [eW2]; exact (Made.rfl_ _ _).cells (Nat.le_refl _) _ _
  have HD2 : Hid (Has W2 W1.heap.size 35 #[.int .i64 0, .int .i64 x, .int .i64 y, .int .i64 vx, .int .i64 vy, .int .i64 an, .int .i64 sp, .int .i64 de, .int .i64 k, .int .i64 r, .slice ao n c]) := by unfold Hid; rw [eW2]; exact has_new _ _ _
  have K2 := hid (K1.out.then_ (kk2.low K1.out.1.size))
  have HB2 := hid (HB1.out.stays kk2 HB1.out.here)
  have HV2 := hid (HV1.out.stays kk2 HV1.out.here)
  obtain ⟨g3, eg3⟩ : ∃ g, W1.heap.size = g := ⟨_, rfl⟩
  rw [eg3] at HD2
  clear kk2
  go_upto_region 5 with fail
  rw [← eW2]
  clear eW2 b0 b1 b2 b3 b4 b5 b6 b7 b8 b9 b10 b11 b12 b13 b14 l1
  try rw [eg3]
  clear eg3
  have b0 := HB2.out.at_ 0
  have b1 := HB2.out.at_ 1
  have b2 := HB2.out.at_ 2
  have b3 := HB2.out.at_ 3
  have b4 := HB2.out.at_ 4
  have b5 := HB2.out.at_ 5
  have b6 := HB2.out.at_ 6
  have b7 := HB2.out.at_ 7
  have b8 := HB2.out.at_ 8
  have b9 := HB2.out.at_ 9
  have b10 := HB2.out.at_ 10
  have b11 := HB2.out.at_ 11
  have b12 := HB2.out.at_ 12
  have b13 := HB2.out.at_ 13
  have b14 := HB2.out.at_ 14
  simp at b0 b1 b2 b3 b4 b5 b6 b7 b8 b9 b10 b11 b12 b13 b14
  have l1 : g1 < W2.heap.size := HB2.out.here
  have d0 := HD2.out.at_ 0
  have d1 := HD2.out.at_ 1
  have d2 := HD2.out.at_ 2
  have d3 := HD2.out.at_ 3
  have d4 := HD2.out.at_ 4
  have d5 := HD2.out.at_ 5
  have d6 := HD2.out.at_ 6
  have d7 := HD2.out.at_ 7
  have d8 := HD2.out.at_ 8
  have d9 := HD2.out.at_ 9
  have d10 := HD2.out.at_ 10
  simp at d0 d1 d2 d3 d4 d5 d6 d7 d8 d9 d10
  have l3 : g3 < W2.heap.size := HD2.out.here
  have v0 := HV2.out.at_ 0
  have v1 := HV2.out.at_ 1
  simp at v0 v1
  have l2 : g2 < W2.heap.size := HV2.out.here
  by_cases h0 : id = 0
  case neg =>
    have e : q = false := Bool.eq_false_iff.2 fun h => by have hh := HR.out.1 h; omega
    have q_id : (id == 0) = false := by simpa using h0
    subst e
    clear h0
    go_wp2_with fail
    go_ret
    exact ⟨by first | rfl | trivial, by first | exact K2.out | exact eg1 ▸ K2.out⟩
  have q_id : (id == 0) = true := by simpa using h0
  by_cases h1 : a = 0
  case neg =>
    have e : q = false := Bool.eq_false_iff.2 fun h => by have hh := HR.out.1 h; omega
    have q_a : (a == 0) = false := by simpa using h1
    subst e
    clear h1 h0
    go_wp2_with fail
    go_ret
    exact ⟨by first | rfl | trivial, by first | exact K2.out | exact eg1 ▸ K2.out⟩
  have q_a : (a == 0) = true := by simpa using h1
  by_cases h2 : b = 0
  case neg =>
    have e : q = false := Bool.eq_false_iff.2 fun h => by have hh := HR.out.1 h; omega
    have q_b : (b == 0) = false := by simpa using h2
    subst e
    clear h2 h0 h1
    go_wp2_with fail
    go_ret
    exact ⟨by first | rfl | trivial, by first | exact K2.out | exact eg1 ▸ K2.out⟩
  have q_b : (b == 0) = true := by simpa using h2
  by_cases h3 : ln = 0
  case neg =>
    have e : q = false := Bool.eq_false_iff.2 fun h => by have hh := HR.out.1 h; omega
    have q_ln : (ln == 0) = false := by simpa using h3
    subst e
    clear h3 h0 h1 h2
    go_wp2_with fail
    go_ret
    exact ⟨by first | rfl | trivial, by first | exact K2.out | exact eg1 ▸ K2.out⟩
  have q_ln : (ln == 0) = true := by simpa using h3
  have HR2 : Hid (q = true ↔ cc = true) := by
    have h := HR.out
    unfold Hid
    rw [h]
    cases cc <;> simp <;> omega
  clear h0 h1 h2 h3
  go_wp2_with fail
  refine (HRB.out _ (by first | exact K2.out | exact eg1 ▸ K2.out)).mono ?_
  rintro e w9 ⟨rfl, k9⟩
  have K9 := hid (K2.out.then_ (k9.low K2.out.1.size))
  clear k9
  have e : q = cc := by have h := HR2.out; cases q <;> cases cc <;> simp at h ⊢
  subst e
  go_wp2_with fail
  go_ret
  exact ⟨by first | rfl | trivial, by first | exact K9.out | exact eg1 ▸ K9.out⟩
set_option maxRecDepth 100000 in
set_option maxHeartbeats 32000000 in
theorem lright3 (q cb cc : Bool) (id a b x y vx vy an sp de ln k r : Int) (ao : Option Addr) (n c : Nat)  (w : World) (hb : cb = true ↔ k = 0 ∧ r = 0 ∧ n = 0 ∧ de = 0 ∧ an = 0) (hi : JtI ⟨0, a, b, x, y, vx, vy, ln⟩) (hc : cc = true ↔ JointP ⟨0, a, b, x, y, vx, vy, ln⟩) (hq : q = true ↔ cb = true ∧ id = 0 ∧ sp = 0 ∧ cc = true) :
    Calls Tryz.prog 11 #[.agg #[.int .i64 3, .int .i64 id, .int .i64 a, .int .i64 b, .int .i64 x, .int .i64 y, .int .i64 vx, .int .i64 vy, .int .i64 an, .int .i64 sp, .int .i64 de, .int .i64 ln, .int .i64 k, .int .i64 r, .slice ao n c]] w fun e v => e = .returned (.bool q) ∧ Made w.heap.size w v := by
  have HR := hid hq
  clear hq
  have HBr := hid (fun v => bare_c cb 3 id a b x y vx vy an sp de ln k r ao n c v hb)
  clear hb
  have HRB := hid (fun v => rjoint_c ⟨0, a, b, x, y, vx, vy, ln⟩ cc v hi hc)
  clear hi hc
  obtain ⟨W, eW⟩ : ∃ W, W = w.alloc (.cells #[.int .i64 3, .int .i64 id, .int .i64 a, .int .i64 b, .int .i64 x, .int .i64 y, .int .i64 vx, .int .i64 vy, .int .i64 an, .int .i64 sp, .int .i64 de, .int .i64 ln, .int .i64 k, .int .i64 r, .slice ao n c] 29) := ⟨_, rfl⟩
  have KW : Hid (Made w.heap.size w W) := by unfold Hid; rw [eW]; exact (Made.rfl_ _ _).cells (Nat.le_refl _) _ _
  have HB : Hid (Has W w.heap.size 29 #[.int .i64 3, .int .i64 id, .int .i64 a, .int .i64 b, .int .i64 x, .int .i64 y, .int .i64 vx, .int .i64 vy, .int .i64 an, .int .i64 sp, .int .i64 de, .int .i64 ln, .int .i64 k, .int .i64 r, .slice ao n c]) := by unfold Hid; rw [eW]; exact has_new _ _ _
  obtain ⟨g1, eg1⟩ : ∃ g, w.heap.size = g := ⟨_, rfl⟩
  rw [eg1] at HB
  obtain ⟨W1, eW1⟩ : ∃ V, V = W.alloc (.cells #[.int .i64 0, .int .i64 0] 24) := ⟨_, rfl⟩
  have kk1 : Made W.heap.size W W1 := by rw [eW1]; exact (Made.rfl_ _ _).cells (Nat.le_refl _) _ _
  have HV1 : Hid (Has W1 W.heap.size 24 #[.int .i64 0, .int .i64 0]) := by unfold Hid; rw [eW1]; exact has_new _ _ _
  have K1 := hid (KW.out.then_ (kk1.low KW.out.1.size))
  have HB1 := hid (HB.out.stays kk1 HB.out.here)
  have b0 := HB.out.at_ 0
  have b1 := HB.out.at_ 1
  have b2 := HB.out.at_ 2
  have b3 := HB.out.at_ 3
  have b4 := HB.out.at_ 4
  have b5 := HB.out.at_ 5
  have b6 := HB.out.at_ 6
  have b7 := HB.out.at_ 7
  have b8 := HB.out.at_ 8
  have b9 := HB.out.at_ 9
  have b10 := HB.out.at_ 10
  have b11 := HB.out.at_ 11
  have b12 := HB.out.at_ 12
  have b13 := HB.out.at_ 13
  have b14 := HB.out.at_ 14
  simp at b0 b1 b2 b3 b4 b5 b6 b7 b8 b9 b10 b11 b12 b13 b14
  have l1 : g1 < W.heap.size := HB.out.here
  obtain ⟨g2, eg2⟩ : ∃ g, W.heap.size = g := ⟨_, rfl⟩
  rw [eg2] at HV1
  clear kk1
  go_enter Tryz.func11, Tryz.ntmps11
  go_upto_region 1 with fail
  rw [← eW]
  clear eW
  try rw [eg1]
  go_upto_region 2 with fail
  rw [← eW1]
  clear eW1 b0 b1 b2 b3 b4 b5 b6 b7 b8 b9 b10 b11 b12 b13 b14 l1
  try rw [eg2]
  clear eg2
  have b0 := HB1.out.at_ 0
  have b1 := HB1.out.at_ 1
  have b2 := HB1.out.at_ 2
  have b3 := HB1.out.at_ 3
  have b4 := HB1.out.at_ 4
  have b5 := HB1.out.at_ 5
  have b6 := HB1.out.at_ 6
  have b7 := HB1.out.at_ 7
  have b8 := HB1.out.at_ 8
  have b9 := HB1.out.at_ 9
  have b10 := HB1.out.at_ 10
  have b11 := HB1.out.at_ 11
  have b12 := HB1.out.at_ 12
  have b13 := HB1.out.at_ 13
  have b14 := HB1.out.at_ 14
  simp at b0 b1 b2 b3 b4 b5 b6 b7 b8 b9 b10 b11 b12 b13 b14
  have l1 : g1 < W1.heap.size := HB1.out.here
  go_wp2_with fail
  refine (HBr.out _).mono ?_
  rintro e w2 ⟨rfl, k2⟩
  have K2 := hid (K1.out.then_ (k2.low K1.out.1.size))
  have HB2 := hid (HB1.out.stays k2 HB1.out.here)
  have HV2 := hid (HV1.out.stays k2 HV1.out.here)
  clear k2 b0 b1 b2 b3 b4 b5 b6 b7 b8 b9 b10 b11 b12 b13 b14 l1
  have b0 := HB2.out.at_ 0
  have b1 := HB2.out.at_ 1
  have b2 := HB2.out.at_ 2
  have b3 := HB2.out.at_ 3
  have b4 := HB2.out.at_ 4
  have b5 := HB2.out.at_ 5
  have b6 := HB2.out.at_ 6
  have b7 := HB2.out.at_ 7
  have b8 := HB2.out.at_ 8
  have b9 := HB2.out.at_ 9
  have b10 := HB2.out.at_ 10
  have b11 := HB2.out.at_ 11
  have b12 := HB2.out.at_ 12
  have b13 := HB2.out.at_ 13
  have b14 := HB2.out.at_ 14
  simp at b0 b1 b2 b3 b4 b5 b6 b7 b8 b9 b10 b11 b12 b13 b14
  have l1 : g1 < w2.heap.size := HB2.out.here
  cases cb with
  | false =>
    have e : q = false := Bool.eq_false_iff.2 fun h => by have := (HR.out.1 h).1; simp at this
    subst e
    go_wp2_with fail
    go_ret
    exact ⟨by first | rfl | trivial, by first | exact K2.out | exact eg1 ▸ K2.out⟩
  | true =>
  have HR : Hid (q = true ↔ id = 0 ∧ sp = 0 ∧ cc = true) := by unfold Hid; have h := HR.out; simpa using h
  have v0 := HV2.out.at_ 0
  have v1 := HV2.out.at_ 1
  simp at v0 v1
  have l2 : g2 < w2.heap.size := HV2.out.here
  by_cases h0 : id = 0
  case neg =>
    have e : q = false := Bool.eq_false_iff.2 fun h => by have hh := HR.out.1 h; omega
    have q_id : (id == 0) = false := by simpa using h0
    subst e
    clear h0
    go_wp2_with fail
    go_ret
    exact ⟨by first | rfl | trivial, by first | exact K2.out | exact eg1 ▸ K2.out⟩
  have q_id : (id == 0) = true := by simpa using h0
  by_cases h1 : sp = 0
  case neg =>
    have e : q = false := Bool.eq_false_iff.2 fun h => by have hh := HR.out.1 h; omega
    have q_sp : (sp == 0) = false := by simpa using h1
    subst e
    clear h1 h0
    go_wp2_with fail
    go_ret
    exact ⟨by first | rfl | trivial, by first | exact K2.out | exact eg1 ▸ K2.out⟩
  have q_sp : (sp == 0) = true := by simpa using h1
  have HR2 : Hid (q = true ↔ cc = true) := by
    have h := HR.out
    unfold Hid
    rw [h]
    cases cc <;> simp <;> omega
  clear h0 h1
  go_wp2_with fail
  refine (HRB.out _).mono ?_
  rintro e w9 ⟨rfl, k9⟩
  have K9 := hid (K2.out.then_ (k9.low K2.out.1.size))
  clear k9
  have e : q = cc := by have h := HR2.out; cases q <;> cases cc <;> simp at h ⊢
  subst e
  go_wp2_with fail
  go_ret
  exact ⟨by first | rfl | trivial, by first | exact K9.out | exact eg1 ▸ K9.out⟩
end Go.Proofs.YtfncelifflebbaaGreat.Fx

