/- OrG -/
import Derived.Test.YtfncelifflebbaaGreatV32
import Derived.Test.YtfncelifflebbaaGreatV41
import Derived.Test.YtfncelifflebbaaGreatV42

/- order.used, order.fits. -/



namespace Go.Proofs.YtfncelifflebbaaGreat.Fx
open Go.ChangeShapes Go.WideShapes Go.ChangeAt Go.RowKit
set_option linter.unusedVariables false

theorem used_c (o : Or) (w : World) : Calls Tryz.prog 35 #[orV o] w fun e v => e = .returned (orV (usedOr o)) ∧ Made w.heap.size w v := by
  obtain ⟨kd, id, a, b, x, y, vx, vy, an, sp, de, ln, k, r, ao, n, c, f⟩ := o
  by_cases h1 : kd = 1
  · subst h1
    refine (used1 id a b x y vx vy an sp de ln k r ao n c w).mono fun e v ⟨a, b⟩ => ⟨?_, b⟩
    rw [a]; simp [usedOr]
  by_cases h2 : kd = 2
  · subst h2
    refine (used2 id a b x y vx vy an sp de ln k r ao n c w).mono fun e v ⟨a, b⟩ => ⟨?_, b⟩
    rw [a]; simp [usedOr, Or.kind]
  by_cases h4 : kd = 4
  · subst h4
    refine (used4 id a b x y vx vy an sp de ln k r ao n c w).mono fun e v ⟨a, b⟩ => ⟨?_, b⟩
    rw [a]; simp [usedOr, Or.kind]
  by_cases h3 : kd = 3
  · subst h3
    refine (used3 id a b x y vx vy an sp de ln k r ao n c w).mono fun e v ⟨a, b⟩ => ⟨?_, b⟩
    rw [a]; simp [usedOr]
  by_cases h5 : kd = 5
  · subst h5
    refine (used5 id a b x y vx vy an sp de ln k r ao n c w).mono fun e v ⟨a, b⟩ => ⟨?_, b⟩
    rw [a]; simp [usedOr]
  by_cases h6 : kd = 6
  · subst h6
    refine (used6 id a b x y vx vy an sp de ln k r ao n c w).mono fun e v ⟨a, b⟩ => ⟨?_, b⟩
    rw [a]; simp [usedOr]
  refine (used0 kd id a b x y vx vy an sp de ln k r ao n c w (by simpa using h1) (by simpa using h2) (by simpa using h3) (by simpa using h4) (by simpa using h5) (by simpa using h6)).mono fun e v ⟨a, b⟩ => ⟨?_, b⟩
  rw [a]; simp [usedOr, Or.kind, h1, h2, h3, h4, h5, h6]
def FitP (o : Or) : Prop :=
  (o.kd = 1 ∧ BodyP (bodyOr o)) ∨ ((o.kd = 2 ∨ o.kd = 4) ∧ 1 ≤ o.id) ∨ (o.kd = 3 ∧ JointP (jointOr o)) ∨
  (o.kd = 5 ∧ 1 ≤ o.id ∧ (Inn o.vx 4611686018427387904 ∧ Inn o.vy 4611686018427387904) ∧ Inn o.sp 4611686018427387904) ∨
  (o.kd = 6 ∧ Inn o.vx 17592186044416 ∧ Inn o.vy 17592186044416)
theorem bring_in {a m : Int} (ha : I64 a) (h0 : 0 ≤ m) (h1 : m ≤ 9223372036854775807) : a = bringF a (-m) m ↔ Inn a m := by
  have h := bring_inn ha (lo := -m) (hi := m) (by omega) (by omega) h1
  rw [beq_iff_eq] at h
  exact h
set_option maxRecDepth 100000 in
set_option maxHeartbeats 16000000 in
theorem fits1 (q : Bool) (id a b x y vx vy an sp de ln k r : Int) (ao : Option Addr) (n c : Nat) (f : Cs) (w : World) (hs : Sl w ao n f) (hi : BdI ⟨0, x, y, vx, vy, an, sp, de, k, r, ao, n, c, f⟩) (hq : q = true ↔ BodyP ⟨0, x, y, vx, vy, an, sp, de, k, r, ao, n, c, f⟩) :
    Calls Tryz.prog 36 #[.agg #[.int .i64 1, .int .i64 id, .int .i64 a, .int .i64 b, .int .i64 x, .int .i64 y, .int .i64 vx, .int .i64 vy, .int .i64 an, .int .i64 sp, .int .i64 de, .int .i64 ln, .int .i64 k, .int .i64 r, .slice ao n c]] w fun e v => e = .returned (.bool q) ∧ Made w.heap.size w v := by
  have HS : Hid (∀ v, Made w.heap.size w v → Sl v ao n f) := fun v k hn => by obtain ⟨b, off, e, hp⟩ := hs hn; exact ⟨b, off, e, hp.kept k⟩
  have HRB := hid (fun v (k' : Made w.heap.size w v) => rbody_c 0 x y vx vy an sp de k r ao n c f q v (HS.out v k') hi hq)
  have HOB := hid (fun v => obody_c 1 id a b x y vx vy an sp de ln k r ao n c v)
  clear hs hi hq
  obtain ⟨W, eW⟩ : ∃ W, W = w.alloc (.cells #[.int .i64 1, .int .i64 id, .int .i64 a, .int .i64 b, .int .i64 x, .int .i64 y, .int .i64 vx, .int .i64 vy, .int .i64 an, .int .i64 sp, .int .i64 de, .int .i64 ln, .int .i64 k, .int .i64 r, .slice ao n c] 29) := ⟨_, rfl⟩
  have KW : Hid (Made w.heap.size w W) := by unfold Hid; rw [eW]; exact (Made.rfl_ _ _).cells (Nat.le_refl _) _ _
  have HB : Hid (Has W w.heap.size 29 #[.int .i64 1, .int .i64 id, .int .i64 a, .int .i64 b, .int .i64 x, .int .i64 y, .int .i64 vx, .int .i64 vy, .int .i64 an, .int .i64 sp, .int .i64 de, .int .i64 ln, .int .i64 k, .int .i64 r, .slice ao n c]) := by unfold Hid; rw [eW]; exact has_new _ _ _
  obtain ⟨g1, eg1⟩ : ∃ g, w.heap.size = g := ⟨_, rfl⟩
  rw [eg1] at HB
  have b0 := HB.out.at_ 0
  have b1 := HB.out.at_ 1
  have b2 := HB.out.at_ 2
  have b3 := HB.out.at_ 3
  have b4 := HB.out.at_ 4
  have b5 := HB.out.at_ 5
  have b6 := HB.out.at_ 6
  have b7 := HB.out.at_ 7
  have b8 := HB.out.at_ 8
  have b9 := HB.out.at_ 9
  have b10 := HB.out.at_ 10
  have b11 := HB.out.at_ 11
  have b12 := HB.out.at_ 12
  have b13 := HB.out.at_ 13
  have b14 := HB.out.at_ 14
  simp at b0 b1 b2 b3 b4 b5 b6 b7 b8 b9 b10 b11 b12 b13 b14
  have l1 : g1 < W.heap.size := HB.out.here
  go_enter Tryz.func36, Tryz.ntmps36
  go_upto_region 1 with fail
  rw [← eW]
  clear eW
  try rw [eg1]
  go_wp2_with fail
  refine (HOB.out _).mono ?_
  rintro e w1 ⟨rfl, k1⟩
  have K1 := hid (KW.out.then_ (k1.low KW.out.1.size))
  clear k1 b0 b1 b2 b3 b4 b5 b6 b7 b8 b9 b10 b11 b12 b13 b14 l1
  go_wp2_with fail
  refine (HRB.out _ (by first | exact K1.out | exact eg1 ▸ K1.out)).mono ?_
  rintro e w2 ⟨rfl, k2⟩
  have K2 := hid (K1.out.then_ (k2.low K1.out.1.size))
  clear k2
  go_wp2_with fail
  go_ret
  exact ⟨by first | rfl | trivial, by first | exact K2.out | exact eg1 ▸ K2.out⟩
set_option maxRecDepth 100000 in
set_option maxHeartbeats 16000000 in
theorem fits3 (q : Bool) (id a b x y vx vy an sp de ln k r : Int) (ao : Option Addr) (n c : Nat)  (w : World) (hi : JtI ⟨0, a, b, x, y, vx, vy, ln⟩) (hq : q = true ↔ JointP ⟨0, a, b, x, y, vx, vy, ln⟩) :
    Calls Tryz.prog 36 #[.agg #[.int .i64 3, .int .i64 id, .int .i64 a, .int .i64 b, .int .i64 x, .int .i64 y, .int .i64 vx, .int .i64 vy, .int .i64 an, .int .i64 sp, .int .i64 de, .int .i64 ln, .int .i64 k, .int .i64 r, .slice ao n c]] w fun e v => e = .returned (.bool q) ∧ Made w.heap.size w v := by
  have HRB := hid (fun v => rjoint_c ⟨0, a, b, x, y, vx, vy, ln⟩ q v hi hq)
  have HOB := hid (fun v => ojoint_c 3 id a b x y vx vy an sp de ln k r ao n c v)
  clear hi hq
  obtain ⟨W, eW⟩ : ∃ W, W = w.alloc (.cells #[.int .i64 3, .int .i64 id, .int .i64 a, .int .i64 b, .int .i64 x, .int .i64 y, .int .i64 vx, .int .i64 vy, .int .i64 an, .int .i64 sp, .int .i64 de, .int .i64 ln, .int .i64 k, .int .i64 r, .slice ao n c] 29) := ⟨_, rfl⟩
  have KW : Hid (Made w.heap.size w W) := by unfold Hid; rw [eW]; exact (Made.rfl_ _ _).cells (Nat.le_refl _) _ _
  have HB : Hid (Has W w.heap.size 29 #[.int .i64 3, .int .i64 id, .int .i64 a, .int .i64 b, .int .i64 x, .int .i64 y, .int .i64 vx, .int .i64 vy, .int .i64 an, .int .i64 sp, .int .i64 de, .int .i64 ln, .int .i64 k, .int .i64 r, .slice ao n c]) := by unfold Hid; rw [eW]; exact has_new _ _ _
  obtain ⟨g1, eg1⟩ : ∃ g, w.heap.size = g := ⟨_, rfl⟩
  rw [eg1] at HB
  have b0 := HB.out.at_ 0
  have b1 := HB.out.at_ 1
  have b2 := HB.out.at_ 2
  have b3 := HB.out.at_ 3
  have b4 := HB.out.at_ 4
  have b5 := HB.out.at_ 5
  have b6 := HB.out.at_ 6
  have b7 := HB.out.at_ 7
  have b8 := HB.out.at_ 8
  have b9 := HB.out.at_ 9
  have b10 := HB.out.at_ 10
  have b11 := HB.out.at_ 11
  have b12 := HB.out.at_ 12
  have b13 := HB.out.at_ 13
  have b14 := HB.out.at_ 14
  simp at b0 b1 b2 b3 b4 b5 b6 b7 b8 b9 b10 b11 b12 b13 b14
  have l1 : g1 < W.heap.size := HB.out.here
  go_enter Tryz.func36, Tryz.ntmps36
  go_upto_region 1 with fail
  rw [← eW]
  clear eW
  try rw [eg1]
  go_wp2_with fail
  refine (HOB.out _).mono ?_
  rintro e w1 ⟨rfl, k1⟩
  have K1 := hid (KW.out.then_ (k1.low KW.out.1.size))
  clear k1 b0 b1 b2 b3 b4 b5 b6 b7 b8 b9 b10 b11 b12 b13 b14 l1
  go_wp2_with fail
  refine (HRB.out _).mono ?_
  rintro e w2 ⟨rfl, k2⟩
  have K2 := hid (K1.out.then_ (k2.low K1.out.1.size))
  clear k2
  go_wp2_with fail
  go_ret
  exact ⟨by first | rfl | trivial, by first | exact K2.out | exact eg1 ▸ K2.out⟩
set_option maxRecDepth 100000 in
set_option maxHeartbeats 16000000 in
theorem fits2 (q : Bool) (id a b x y vx vy an sp de ln k r : Int) (ao : Option Addr) (n c : Nat)  (w : World) (hq : decide (1 ≤ id) = q) :
    Calls Tryz.prog 36 #[.agg #[.int .i64 2, .int .i64 id, .int .i64 a, .int .i64 b, .int .i64 x, .int .i64 y, .int .i64 vx, .int .i64 vy, .int .i64 an, .int .i64 sp, .int .i64 de, .int .i64 ln, .int .i64 k, .int .i64 r, .slice ao n c]] w fun e v => e = .returned (.bool q) ∧ Made w.heap.size w v := by
  obtain ⟨W, eW⟩ : ∃ W, W = w.alloc (.cells #[.int .i64 2, .int .i64 id, .int .i64 a, .int .i64 b, .int .i64 x, .int .i64 y, .int .i64 vx, .int .i64 vy, .int .i64 an, .int .i64 sp, .int .i64 de, .int .i64 ln, .int .i64 k, .int .i64 r, .slice ao n c] 29) := ⟨_, rfl⟩
  have KW : Hid (Made w.heap.size w W) := by unfold Hid; rw [eW]; exact (Made.rfl_ _ _).cells (Nat.le_refl _) _ _
  have HB : Hid (Has W w.heap.size 29 #[.int .i64 2, .int .i64 id, .int .i64 a, .int .i64 b, .int .i64 x, .int .i64 y, .int .i64 vx, .int .i64 vy, .int .i64 an, .int .i64 sp, .int .i64 de, .int .i64 ln, .int .i64 k, .int .i64 r, .slice ao n c]) := by unfold Hid; rw [eW]; exact has_new _ _ _
  obtain ⟨g1, eg1⟩ : ∃ g, w.heap.size = g := ⟨_, rfl⟩
  rw [eg1] at HB
  have b0 := HB.out.at_ 0
  have b1 := HB.out.at_ 1
  have b2 := HB.out.at_ 2
  have b3 := HB.out.at_ 3
  have b4 := HB.out.at_ 4
  have b5 := HB.out.at_ 5
  have b6 := HB.out.at_ 6
  have b7 := HB.out.at_ 7
  have b8 := HB.out.at_ 8
  have b9 := HB.out.at_ 9
  have b10 := HB.out.at_ 10
  have b11 := HB.out.at_ 11
  have b12 := HB.out.at_ 12
  have b13 := HB.out.at_ 13
  have b14 := HB.out.at_ 14
  simp at b0 b1 b2 b3 b4 b5 b6 b7 b8 b9 b10 b11 b12 b13 b14
  have l1 : g1 < W.heap.size := HB.out.here
  go_enter Tryz.func36, Tryz.ntmps36
  go_upto_region 1 with fail
  rw [← eW]
  clear eW
  try rw [eg1]
  go_wp2_with fail
  go_ret
  exact ⟨by first | rfl | trivial, by first | exact KW.out | exact eg1 ▸ KW.out⟩
set_option maxRecDepth 100000 in
set_option maxHeartbeats 16000000 in
theorem fits4 (q : Bool) (id a b x y vx vy an sp de ln k r : Int) (ao : Option Addr) (n c : Nat)  (w : World) (hq : decide (1 ≤ id) = q) :
    Calls Tryz.prog 36 #[.agg #[.int .i64 4, .int .i64 id, .int .i64 a, .int .i64 b, .int .i64 x, .int .i64 y, .int .i64 vx, .int .i64 vy, .int .i64 an, .int .i64 sp, .int .i64 de, .int .i64 ln, .int .i64 k, .int .i64 r, .slice ao n c]] w fun e v => e = .returned (.bool q) ∧ Made w.heap.size w v := by
  obtain ⟨W, eW⟩ : ∃ W, W = w.alloc (.cells #[.int .i64 4, .int .i64 id, .int .i64 a, .int .i64 b, .int .i64 x, .int .i64 y, .int .i64 vx, .int .i64 vy, .int .i64 an, .int .i64 sp, .int .i64 de, .int .i64 ln, .int .i64 k, .int .i64 r, .slice ao n c] 29) := ⟨_, rfl⟩
  have KW : Hid (Made w.heap.size w W) := by unfold Hid; rw [eW]; exact (Made.rfl_ _ _).cells (Nat.le_refl _) _ _
  have HB : Hid (Has W w.heap.size 29 #[.int .i64 4, .int .i64 id, .int .i64 a, .int .i64 b, .int .i64 x, .int .i64 y, .int .i64 vx, .int .i64 vy, .int .i64 an, .int .i64 sp, .int .i64 de, .int .i64 ln, .int .i64 k, .int .i64 r, .slice ao n c]) := by unfold Hid; rw [eW]; exact has_new _ _ _
  obtain ⟨g1, eg1⟩ : ∃ g, w.heap.size = g := ⟨_, rfl⟩
  rw [eg1] at HB
  have b0 := HB.out.at_ 0
  have b1 := HB.out.at_ 1
  have b2 := HB.out.at_ 2
  have b3 := HB.out.at_ 3
  have b4 := HB.out.at_ 4
  have b5 := HB.out.at_ 5
  have b6 := HB.out.at_ 6
  have b7 := HB.out.at_ 7
  have b8 := HB.out.at_ 8
  have b9 := HB.out.at_ 9
  have b10 := HB.out.at_ 10
  have b11 := HB.out.at_ 11
  have b12 := HB.out.at_ 12
  have b13 := HB.out.at_ 13
  have b14 := HB.out.at_ 14
  simp at b0 b1 b2 b3 b4 b5 b6 b7 b8 b9 b10 b11 b12 b13 b14
  have l1 : g1 < W.heap.size := HB.out.here
  go_enter Tryz.func36, Tryz.ntmps36
  go_upto_region 1 with fail
  rw [← eW]
  clear eW
  try rw [eg1]
  go_wp2_with fail
  go_ret
  exact ⟨by first | rfl | trivial, by first | exact KW.out | exact eg1 ▸ KW.out⟩
set_option maxRecDepth 100000 in
set_option maxHeartbeats 16000000 in
theorem fits0 (q : Bool) (kd id a b x y vx vy an sp de ln k r : Int) (ao : Option Addr) (n c : Nat)  (w : World) (h1 : (kd == 1) = false) (h2 : (kd == 2) = false) (h3 : (kd == 3) = false) (h4 : (kd == 4) = false) (h5 : (kd == 5) = false) (h6 : (kd == 6) = false) (hq : q = false) :
    Calls Tryz.prog 36 #[.agg #[.int .i64 kd, .int .i64 id, .int .i64 a, .int .i64 b, .int .i64 x, .int .i64 y, .int .i64 vx, .int .i64 vy, .int .i64 an, .int .i64 sp, .int .i64 de, .int .i64 ln, .int .i64 k, .int .i64 r, .slice ao n c]] w fun e v => e = .returned (.bool q) ∧ Made w.heap.size w v := by
  subst hq
  obtain ⟨W, eW⟩ : ∃ W, W = w.alloc (.cells #[.int .i64 kd, .int .i64 id, .int .i64 a, .int .i64 b, .int .i64 x, .int .i64 y, .int .i64 vx, .int .i64 vy, .int .i64 an, .int .i64 sp, .int .i64 de, .int .i64 ln, .int .i64 k, .int .i64 r, .slice ao n c] 29) := ⟨_, rfl⟩
  have KW : Hid (Made w.heap.size w W) := by unfold Hid; rw [eW]; exact (Made.rfl_ _ _).cells (Nat.le_refl _) _ _
  have HB : Hid (Has W w.heap.size 29 #[.int .i64 kd, .int .i64 id, .int .i64 a, .int .i64 b, .int .i64 x, .int .i64 y, .int .i64 vx, .int .i64 vy, .int .i64 an, .int .i64 sp, .int .i64 de, .int .i64 ln, .int .i64 k, .int .i64 r, .slice ao n c]) := by unfold Hid; rw [eW]; exact has_new _ _ _
  obtain ⟨g1, eg1⟩ : ∃ g, w.heap.size = g := ⟨_, rfl⟩
  rw [eg1] at HB
  have b0 := HB.out.at_ 0
  have b1 := HB.out.at_ 1
  have b2 := HB.out.at_ 2
  have b3 := HB.out.at_ 3
  have b4 := HB.out.at_ 4
  have b5 := HB.out.at_ 5
  have b6 := HB.out.at_ 6
  have b7 := HB.out.at_ 7
  have b8 := HB.out.at_ 8
  have b9 := HB.out.at_ 9
  have b10 := HB.out.at_ 10
  have b11 := HB.out.at_ 11
  have b12 := HB.out.at_ 12
  have b13 := HB.out.at_ 13
  have b14 := HB.out.at_ 14
  simp at b0 b1 b2 b3 b4 b5 b6 b7 b8 b9 b10 b11 b12 b13 b14
  have l1 : g1 < W.heap.size := HB.out.here
  go_enter Tryz.func36, Tryz.ntmps36
  go_upto_region 1 with fail
  rw [← eW]
  clear eW
  try rw [eg1]
  go_wp2_with fail
  go_ret
  exact ⟨by first | rfl | trivial, by first | exact KW.out | exact eg1 ▸ KW.out⟩
set_option maxRecDepth 100000 in
set_option maxHeartbeats 16000000 in
theorem fits6 (q : Bool) (id a b x y vx vy an sp de ln k r : Int) (ao : Option Addr) (n c : Nat)  (w : World) (ivx : I64 vx) (ivy : I64 vy) (hq : q = true ↔ Inn vx 17592186044416 ∧ Inn vy 17592186044416) :
    Calls Tryz.prog 36 #[.agg #[.int .i64 6, .int .i64 id, .int .i64 a, .int .i64 b, .int .i64 x, .int .i64 y, .int .i64 vx, .int .i64 vy, .int .i64 an, .int .i64 sp, .int .i64 de, .int .i64 ln, .int .i64 k, .int .i64 r, .slice ao n c]] w fun e v => e = .returned (.bool q) ∧ Made w.heap.size w v := by
  obtain ⟨X, eX⟩ : ∃ z, bringF vx (negF 17592186044416) 17592186044416 = z := ⟨_, rfl⟩
  obtain ⟨Y, eY⟩ : ∃ z, bringF vy (negF 17592186044416) 17592186044416 = z := ⟨_, rfl⟩
  have hQ := veql vx vy X Y q (by rw [hq, ← eX, ← eY]; rw [show negF 17592186044416 = -17592186044416 by decide]; rw [bring_in ivx (by omega) (by omega), bring_in ivy (by omega) (by omega)])
  have EX := hid eX
  have EY := hid eY
  have iF : I64 17592186044416 := by unfold I64; omega
  clear eX eY hq
  obtain ⟨W, eW⟩ : ∃ W, W = w.alloc (.cells #[.int .i64 6, .int .i64 id, .int .i64 a, .int .i64 b, .int .i64 x, .int .i64 y, .int .i64 vx, .int .i64 vy, .int .i64 an, .int .i64 sp, .int .i64 de, .int .i64 ln, .int .i64 k, .int .i64 r, .slice ao n c] 29) := ⟨_, rfl⟩
  have KW : Hid (Made w.heap.size w W) := by unfold Hid; rw [eW]; exact (Made.rfl_ _ _).cells (Nat.le_refl _) _ _
  have HB : Hid (Has W w.heap.size 29 #[.int .i64 6, .int .i64 id, .int .i64 a, .int .i64 b, .int .i64 x, .int .i64 y, .int .i64 vx, .int .i64 vy, .int .i64 an, .int .i64 sp, .int .i64 de, .int .i64 ln, .int .i64 k, .int .i64 r, .slice ao n c]) := by unfold Hid; rw [eW]; exact has_new _ _ _
  obtain ⟨g1, eg1⟩ : ∃ g, w.heap.size = g := ⟨_, rfl⟩
  rw [eg1] at HB
  have b0 := HB.out.at_ 0
  have b1 := HB.out.at_ 1
  have b2 := HB.out.at_ 2
  have b3 := HB.out.at_ 3
  have b4 := HB.out.at_ 4
  have b5 := HB.out.at_ 5
  have b6 := HB.out.at_ 6
  have b7 := HB.out.at_ 7
  have b8 := HB.out.at_ 8
  have b9 := HB.out.at_ 9
  have b10 := HB.out.at_ 10
  have b11 := HB.out.at_ 11
  have b12 := HB.out.at_ 12
  have b13 := HB.out.at_ 13
  have b14 := HB.out.at_ 14
  simp at b0 b1 b2 b3 b4 b5 b6 b7 b8 b9 b10 b11 b12 b13 b14
  have l1 : g1 < W.heap.size := HB.out.here
  go_enter Tryz.func36, Tryz.ntmps36
  go_upto_region 1 with fail
  rw [← eW]
  clear eW
  try rw [eg1]
  go_wp2_with fail
  refine reg_made (by kernel_rfl) (by kernel_rfl) ?_
  intro Ty hT fw hf
  have z0 := Class.reads hf b0
  have z1 := Class.reads hf b1
  have z2 := Class.reads hf b2
  have z3 := Class.reads hf b3
  have z4 := Class.reads hf b4
  have z5 := Class.reads hf b5
  have z6 := Class.reads hf b6
  have z7 := Class.reads hf b7
  have z8 := Class.reads hf b8
  have z9 := Class.reads hf b9
  have z10 := Class.reads hf b10
  have z11 := Class.reads hf b11
  have z12 := Class.reads hf b12
  have z13 := Class.reads hf b13
  have z14 := Class.reads hf b14
  repeat (go_big_quiet_step ((first
    | (go_at_call 23; with_reducible exact hf.made (vbring_is vx vy 17592186044416 X Y _ ivx ivy iF EX.out EY.out)))))
  refine wpQuiet_nil ?_
  intro w3 h3
  have k3 := hf.here h3
  have K3 := hid (KW.out.then_ (k3.low KW.out.1.size))
  clear k3 h3 hf b0 b1 b2 b3 b4 b5 b6 b7 b8 b9 b10 b11 b12 b13 b14 l1 z0 z1 z2 z3 z4 z5 z6 z7 z8 z9 z10 z11 z12 z13 z14
  go_wp2_with fail
  go_ret
  exact ⟨by first | rfl | trivial, by first | exact K3.out | exact eg1 ▸ K3.out⟩
set_option maxRecDepth 100000 in
set_option maxHeartbeats 16000000 in
theorem fits5 (q : Bool) (id a b x y vx vy an sp de ln k r : Int) (ao : Option Addr) (n c : Nat)  (w : World) (ivx : I64 vx) (ivy : I64 vy) (isp : I64 sp) (hq : q = true ↔ 1 ≤ id ∧ (Inn vx 4611686018427387904 ∧ Inn vy 4611686018427387904) ∧ Inn sp 4611686018427387904) :
    Calls Tryz.prog 36 #[.agg #[.int .i64 5, .int .i64 id, .int .i64 a, .int .i64 b, .int .i64 x, .int .i64 y, .int .i64 vx, .int .i64 vy, .int .i64 an, .int .i64 sp, .int .i64 de, .int .i64 ln, .int .i64 k, .int .i64 r, .slice ao n c]] w fun e v => e = .returned (.bool q) ∧ Made w.heap.size w v := by
  obtain ⟨X, eX⟩ : ∃ z, bringF vx (negF 4611686018427387904) 4611686018427387904 = z := ⟨_, rfl⟩
  obtain ⟨Y, eY⟩ : ∃ z, bringF vy (negF 4611686018427387904) 4611686018427387904 = z := ⟨_, rfl⟩
  obtain ⟨Z, eZ⟩ : ∃ z, bringF sp (-4611686018427387904) 4611686018427387904 = z := ⟨_, rfl⟩
  obtain ⟨c1, hc1⟩ := a_bool (Inn vx 4611686018427387904 ∧ Inn vy 4611686018427387904)
  have hQ := veql vx vy X Y c1 (by rw [hc1, ← eX, ← eY]; rw [show negF 4611686018427387904 = -4611686018427387904 by decide]; rw [bring_in ivx (by omega) (by omega), bring_in ivy (by omega) (by omega)])
  have hZ : sp = Z ↔ Inn sp 4611686018427387904 := by rw [← eZ]; exact bring_in isp (by omega) (by omega)
  have HQ2 : Hid (q = true ↔ 1 ≤ id ∧ c1 = true ∧ sp = Z) := by unfold Hid; rw [hq, hc1, hZ]
  have EX := hid eX
  have EY := hid eY
  have EZ := hid eZ
  have iF : I64 4611686018427387904 := by unfold I64; omega
  have iM : I64 (-4611686018427387904) := by unfold I64; omega
  clear eX eY eZ hq hc1 hZ
  obtain ⟨W, eW⟩ : ∃ W, W = w.alloc (.cells #[.int .i64 5, .int .i64 id, .int .i64 a, .int .i64 b, .int .i64 x, .int .i64 y, .int .i64 vx, .int .i64 vy, .int .i64 an, .int .i64 sp, .int .i64 de, .int .i64 ln, .int .i64 k, .int .i64 r, .slice ao n c] 29) := ⟨_, rfl⟩
  have KW : Hid (Made w.heap.size w W) := by unfold Hid; rw [eW]; exact (Made.rfl_ _ _).cells (Nat.le_refl _) _ _
  have HB : Hid (Has W w.heap.size 29 #[.int .i64 5, .int .i64 id, .int .i64 a, .int .i64 b, .int .i64 x, .int .i64 y, .int .i64 vx, .int .i64 vy, .int .i64 an, .int .i64 sp, .int .i64 de, .int .i64 ln, .int .i64 k, .int .i64 r, .slice ao n c]) := by unfold Hid; rw [eW]; exact has_new _ _ _
  obtain ⟨g1, eg1⟩ : ∃ g, w.heap.size = g := ⟨_, rfl⟩
  rw [eg1] at HB
  have b0 := HB.out.at_ 0
  have b1 := HB.out.at_ 1
  have b2 := HB.out.at_ 2
  have b3 := HB.out.at_ 3
  have b4 := HB.out.at_ 4
  have b5 := HB.out.at_ 5
  have b6 := HB.out.at_ 6
  have b7 := HB.out.at_ 7
  have b8 := HB.out.at_ 8
  have b9 := HB.out.at_ 9
  have b10 := HB.out.at_ 10
  have b11 := HB.out.at_ 11
  have b12 := HB.out.at_ 12
  have b13 := HB.out.at_ 13
  have b14 := HB.out.at_ 14
  simp at b0 b1 b2 b3 b4 b5 b6 b7 b8 b9 b10 b11 b12 b13 b14
  have l1 : g1 < W.heap.size := HB.out.here
  go_enter Tryz.func36, Tryz.ntmps36
  go_upto_region 1 with fail
  rw [← eW]
  clear eW
  try rw [eg1]
  by_cases hi : 1 ≤ id
  case neg =>
    have e : q = false := Bool.eq_false_iff.2 fun h => hi (HQ2.out.1 h).1
    have g0 : decide (1 ≤ id) = false := by simpa using hi
    subst e
    clear hi
    go_wp2_with fail
    refine reg_made (by kernel_rfl) (by kernel_rfl) ?_
    intro Ty hT fw hf
    have z0 := Class.reads hf b0
    have z1 := Class.reads hf b1
    have z2 := Class.reads hf b2
    have z3 := Class.reads hf b3
    have z4 := Class.reads hf b4
    have z5 := Class.reads hf b5
    have z6 := Class.reads hf b6
    have z7 := Class.reads hf b7
    have z8 := Class.reads hf b8
    have z9 := Class.reads hf b9
    have z10 := Class.reads hf b10
    have z11 := Class.reads hf b11
    have z12 := Class.reads hf b12
    have z13 := Class.reads hf b13
    have z14 := Class.reads hf b14
    repeat (go_big_quiet_step ((first
      | (go_at_call 23; with_reducible exact hf.made (vbring_is vx vy 4611686018427387904 X Y _ ivx ivy iF EX.out EY.out))
      | (go_at_call 26; with_reducible exact hf.same (bring_is sp (-4611686018427387904) 4611686018427387904 Z _ isp iM iF EZ.out)))))
    refine wpQuiet_nil ?_
    intro w3 h3
    have k3 := hf.here h3
    have K3 := hid (KW.out.then_ (k3.low KW.out.1.size))
    clear k3 h3 hf b0 b1 b2 b3 b4 b5 b6 b7 b8 b9 b10 b11 b12 b13 b14 l1 z0 z1 z2 z3 z4 z5 z6 z7 z8 z9 z10 z11 z12 z13 z14
    go_wp2_with fail
    go_ret
    exact ⟨by first | rfl | trivial, by first | exact K3.out | exact eg1 ▸ K3.out⟩
  have g0 : decide (1 ≤ id) = true := by simpa using hi
  cases c1 with
  | false =>
    have e : q = false := Bool.eq_false_iff.2 fun h => by have := (HQ2.out.1 h).2.1; simp at this
    subst e
    clear hi
    go_wp2_with fail
    refine reg_made (by kernel_rfl) (by kernel_rfl) ?_
    intro Ty hT fw hf
    have z0 := Class.reads hf b0
    have z1 := Class.reads hf b1
    have z2 := Class.reads hf b2
    have z3 := Class.reads hf b3
    have z4 := Class.reads hf b4
    have z5 := Class.reads hf b5
    have z6 := Class.reads hf b6
    have z7 := Class.reads hf b7
    have z8 := Class.reads hf b8
    have z9 := Class.reads hf b9
    have z10 := Class.reads hf b10
    have z11 := Class.reads hf b11
    have z12 := Class.reads hf b12
    have z13 := Class.reads hf b13
    have z14 := Class.reads hf b14
    repeat (go_big_quiet_step ((first
      | (go_at_call 23; with_reducible exact hf.made (vbring_is vx vy 4611686018427387904 X Y _ ivx ivy iF EX.out EY.out))
      | (go_at_call 26; with_reducible exact hf.same (bring_is sp (-4611686018427387904) 4611686018427387904 Z _ isp iM iF EZ.out)))))
    refine wpQuiet_nil ?_
    intro w3 h3
    have k3 := hf.here h3
    have K3 := hid (KW.out.then_ (k3.low KW.out.1.size))
    clear k3 h3 hf b0 b1 b2 b3 b4 b5 b6 b7 b8 b9 b10 b11 b12 b13 b14 l1 z0 z1 z2 z3 z4 z5 z6 z7 z8 z9 z10 z11 z12 z13 z14
    go_wp2_with fail
    go_ret
    exact ⟨by first | rfl | trivial, by first | exact K3.out | exact eg1 ▸ K3.out⟩
  | true =>
    by_cases hz : sp = Z
    · have e : q = true := HQ2.out.2 ⟨hi, rfl, hz⟩
      have g1 : (sp == Z) = true := by simpa using hz
      subst e
      clear hi hz
      go_wp2_with fail
      refine reg_made (by kernel_rfl) (by kernel_rfl) ?_
      intro Ty hT fw hf
      have z0 := Class.reads hf b0
      have z1 := Class.reads hf b1
      have z2 := Class.reads hf b2
      have z3 := Class.reads hf b3
      have z4 := Class.reads hf b4
      have z5 := Class.reads hf b5
      have z6 := Class.reads hf b6
      have z7 := Class.reads hf b7
      have z8 := Class.reads hf b8
      have z9 := Class.reads hf b9
      have z10 := Class.reads hf b10
      have z11 := Class.reads hf b11
      have z12 := Class.reads hf b12
      have z13 := Class.reads hf b13
      have z14 := Class.reads hf b14
      repeat (go_big_quiet_step ((first
        | (go_at_call 23; with_reducible exact hf.made (vbring_is vx vy 4611686018427387904 X Y _ ivx ivy iF EX.out EY.out))
        | (go_at_call 26; with_reducible exact hf.same (bring_is sp (-4611686018427387904) 4611686018427387904 Z _ isp iM iF EZ.out)))))
      refine wpQuiet_nil ?_
      intro w3 h3
      have k3 := hf.here h3
      have K3 := hid (KW.out.then_ (k3.low KW.out.1.size))
      clear k3 h3 hf b0 b1 b2 b3 b4 b5 b6 b7 b8 b9 b10 b11 b12 b13 b14 l1 z0 z1 z2 z3 z4 z5 z6 z7 z8 z9 z10 z11 z12 z13 z14
      go_wp2_with fail
      go_ret
      exact ⟨by first | rfl | trivial, by first | exact K3.out | exact eg1 ▸ K3.out⟩
    · have e : q = false := Bool.eq_false_iff.2 fun h => hz (HQ2.out.1 h).2.2
      have g1 : (sp == Z) = false := by simpa using hz
      subst e
      clear hi hz
      go_wp2_with fail
      refine reg_made (by kernel_rfl) (by kernel_rfl) ?_
      intro Ty hT fw hf
      have z0 := Class.reads hf b0
      have z1 := Class.reads hf b1
      have z2 := Class.reads hf b2
      have z3 := Class.reads hf b3
      have z4 := Class.reads hf b4
      have z5 := Class.reads hf b5
      have z6 := Class.reads hf b6
      have z7 := Class.reads hf b7
      have z8 := Class.reads hf b8
      have z9 := Class.reads hf b9
      have z10 := Class.reads hf b10
      have z11 := Class.reads hf b11
      have z12 := Class.reads hf b12
      have z13 := Class.reads hf b13
      have z14 := Class.reads hf b14
      repeat (go_big_quiet_step ((first
        | (go_at_call 23; with_reducible exact hf.made (vbring_is vx vy 4611686018427387904 X Y _ ivx ivy iF EX.out EY.out))
        | (go_at_call 26; with_reducible exact hf.same (bring_is sp (-4611686018427387904) 4611686018427387904 Z _ isp iM iF EZ.out)))))
      refine wpQuiet_nil ?_
      intro w3 h3
      have k3 := hf.here h3
      have K3 := hid (KW.out.then_ (k3.low KW.out.1.size))
      clear k3 h3 hf b0 b1 b2 b3 b4 b5 b6 b7 b8 b9 b10 b11 b12 b13 b14 l1 z0 z1 z2 z3 z4 z5 z6 z7 z8 z9 z10 z11 z12 z13 z14
      go_wp2_with fail
      go_ret
      exact ⟨by first | rfl | trivial, by first | exact K3.out | exact eg1 ▸ K3.out⟩
theorem fits_c (q : Bool) (o : Or) {w : World} (hi : OrI o) (hs : Sl w o.ao o.n o.f) (hq : q = true ↔ FitP o) : Calls Tryz.prog 36 #[orV o] w fun e v => e = .returned (.bool q) ∧ Made w.heap.size w v := by
  obtain ⟨kd, id, a, b, x, y, vx, vy, an, sp, de, ln, k, r, ao, n, c, f⟩ := o
  have hb := hi.body
  have hj := hi.joint
  simp only [FitP] at hq
  by_cases h1 : kd = 1
  · subst h1
    exact fits1 q id a b x y vx vy an sp de ln k r ao n c f w hs hb (by rw [hq]; simp [bodyOr])
  by_cases h2 : kd = 2
  · subst h2
    exact fits2 q id a b x y vx vy an sp de ln k r ao n c w (by cases q <;> simp at hq ⊢ <;> omega)
  by_cases h4 : kd = 4
  · subst h4
    exact fits4 q id a b x y vx vy an sp de ln k r ao n c w (by cases q <;> simp at hq ⊢ <;> omega)
  by_cases h3 : kd = 3
  · subst h3
    exact fits3 q id a b x y vx vy an sp de ln k r ao n c w hj (by rw [hq]; simp [jointOr])
  by_cases h5 : kd = 5
  · subst h5
    exact fits5 q id a b x y vx vy an sp de ln k r ao n c w hi.vx hi.vy hi.sp (by rw [hq]; simp)
  by_cases h6 : kd = 6
  · subst h6
    exact fits6 q id a b x y vx vy an sp de ln k r ao n c w hi.vx hi.vy (by rw [hq]; simp)
  exact fits0 q kd id a b x y vx vy an sp de ln k r ao n c w (by simpa using h1) (by simpa using h2) (by simpa using h3) (by simpa using h4) (by simpa using h5) (by simpa using h6) (Bool.eq_false_iff.2 fun h => by have := hq.1 h; simp [h1, h2, h3, h4, h5, h6] at this)
end Go.Proofs.YtfncelifflebbaaGreat.Fx

