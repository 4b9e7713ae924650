/- WsA -/
import Derived.Test.YtfncelifflebbaaGreatV20

/- slices.Equal of joints, contacts, corners; shape.Same. -/

namespace Go.Proofs.YtfncelifflebbaaGreat.Fx
open Go.ChangeShapes Go.WideShapes Go.ChangeAt Go.RowKit
set_option linter.unusedVariables false

theorem jneq (x y : Jt) (r : Bool) (hr : r = true ↔ ¬ x = y) (w : World) : (binOp .neq 60 (jtV x) (jtV y)).run Tryz.prog w = .ok (.bool r) w := by
  obtain ⟨a0, a1, a2, a3, a4, a5, a6, a7⟩ := x
  obtain ⟨b0, b1, b2, b3, b4, b5, b6, b7⟩ := y
  simp only [Jt.mk.injEq] at hr
  by_cases h0 : a0 = b0
  case neg =>
    have e : r = true := hr.2 (by simp [h0])
    have hx : (a0 == b0) = false := by simpa using h0
    subst e
    clear hr h0
    go_simp
  subst h0
  by_cases h1 : a1 = b1
  case neg =>
    have e : r = true := hr.2 (by simp [h1])
    have hx : (a1 == b1) = false := by simpa using h1
    subst e
    clear hr h1
    go_simp
  subst h1
  by_cases h2 : a2 = b2
  case neg =>
    have e : r = true := hr.2 (by simp [h2])
    have hx : (a2 == b2) = false := by simpa using h2
    subst e
    clear hr h2
    go_simp
  subst h2
  by_cases h3 : a3 = b3
  case neg =>
    have e : r = true := hr.2 (by simp [h3])
    have hx : (a3 == b3) = false := by simpa using h3
    subst e
    clear hr h3
    go_simp
  subst h3
  by_cases h4 : a4 = b4
  case neg =>
    have e : r = true := hr.2 (by simp [h4])
    have hx : (a4 == b4) = false := by simpa using h4
    subst e
    clear hr h4
    go_simp
  subst h4
  by_cases h5 : a5 = b5
  case neg =>
    have e : r = true := hr.2 (by simp [h5])
    have hx : (a5 == b5) = false := by simpa using h5
    subst e
    clear hr h5
    go_simp
  subst h5
  by_cases h6 : a6 = b6
  case neg =>
    have e : r = true := hr.2 (by simp [h6])
    have hx : (a6 == b6) = false := by simpa using h6
    subst e
    clear hr h6
    go_simp
  subst h6
  by_cases h7 : a7 = b7
  case neg =>
    have e : r = true := hr.2 (by simp [h7])
    have hx : (a7 == b7) = false := by simpa using h7
    subst e
    clear hr h7
    go_simp
  subst h7
  have e : r = false := Bool.eq_false_iff.2 fun h => absurd (hr.1 h) (by simp)
  subst e
  clear hr
  go_simp
theorem cneq_ (x y : Ct) (r : Bool) (hr : r = true ↔ ¬ x = y) (w : World) : (binOp .neq 94 (ctV x) (ctV y)).run Tryz.prog w = .ok (.bool r) w := by
  obtain ⟨a0, a1, a2, a3, a4⟩ := x
  obtain ⟨b0, b1, b2, b3, b4⟩ := y
  simp only [Ct.mk.injEq] at hr
  by_cases h0 : a0 = b0
  case neg =>
    have e : r = true := hr.2 (by simp [h0])
    have hx : (a0 == b0) = false := by simpa using h0
    subst e
    clear hr h0
    go_simp
  subst h0
  by_cases h1 : a1 = b1
  case neg =>
    have e : r = true := hr.2 (by simp [h1])
    have hx : (a1 == b1) = false := by simpa using h1
    subst e
    clear hr h1
    go_simp
  subst h1
  by_cases h2 : a2 = b2
  case neg =>
    have e : r = true := hr.2 (by simp [h2])
    have hx : (a2 == b2) = false := by simpa using h2
    subst e
    clear hr h2
    go_simp
  subst h2
  by_cases h3 : a3 = b3
  case neg =>
    have e : r = true := hr.2 (by simp [h3])
    have hx : (a3 == b3) = false := by simpa using h3
    subst e
    clear hr h3
    go_simp
  subst h3
  by_cases h4 : a4 = b4
  case neg =>
    have e : r = true := hr.2 (by simp [h4])
    have hx : (a4 == b4) = false := by simpa using h4
    subst e
    clear hr h4
    go_simp
  subst h4
  have e : r = false := Bool.eq_false_iff.2 fun h => absurd (hr.1 h) (by simp)
  subst e
  clear hr
  go_simp
set_option maxRecDepth 100000 in
set_option maxHeartbeats 8000000 in
theorem equalJ_c (r : Bool) {l m : List Jt} {ao bo : Option Addr} {n c n' c' : Nat} {w : World} (hn : l.length = n) (hm : m.length = n') (hmx : n ≤ 1073741824) (hl : LsT encJ 8 w ao l) (hl' : LsT encJ 8 w bo m) (hr : r = true ↔ l = m) :
    Calls Tryz.prog 69 #[.slice ao n c, .slice bo n' c'] w fun e v => e = .returned (.bool r) ∧ Made w.heap.size w v := by
  have HN := hid (And.intro hn hm)
  have HL := hid (fun v (k : Made w.heap.size w v) => hl.kept k)
  have HM := hid (fun v (k : Made w.heap.size w v) => hl'.kept k)
  have HR := hid hr
  clear hn hm hl hl' hr
  by_cases hnn : n = n'
  case neg =>
    have e : r = false := Bool.eq_false_iff.2 fun h => hnn (by rw [← HN.out.1, ← HN.out.2, HR.out.1 h])
    have g : ((n : Int) != (n' : Int)) = true := by simp; omega
    subst e
    clear hnn
    go_enter Tryz.func69, Tryz.ntmps69
    go_wp2_with fail
    go_ret
    exact ⟨rfl, Made.rfl_ _ _⟩
  subst hnn
  go_enter Tryz.func69, Tryz.ntmps69
  go_wp2_with fail
  go_loopg [5, 13] n (fun gg s5 s13 wx => ∃ k : Nat, k + gg = n ∧ s13 = .int .i64 (k : Nat) ∧ Hid (Made w.heap.size w wx ∧ ∀ i, i < k → l[i]? = m[i]?))
  case atStart => exact ⟨0, by omega, rfl, Made.rfl_ _ _, fun i hi => absurd hi (Nat.not_lt_zero _)⟩
  case round =>
    obtain ⟨k, hk, rfl, HB⟩ := hrel
    by_cases hlt : k < n
    · obtain ⟨x, ex⟩ : ∃ a, l[k]? = some a := ⟨_, List.getElem?_eq_getElem (by rw [HN.out.1]; exact hlt)⟩
      obtain ⟨y, ey⟩ : ∃ a, m[k]? = some a := ⟨_, List.getElem?_eq_getElem (by rw [HN.out.2]; exact hlt)⟩
      obtain ⟨bx, ox, rfl, hbx, hLx⟩ := (HL.out _ HB.out.1) (by rw [HN.out.1]; omega)
      obtain ⟨by', oy, rfl, hby, hLy⟩ := (HM.out _ HB.out.1) (by rw [HN.out.2]; omega)
      have px := (hLx k _ ex).j8
      have py := (hLy k _ ey).j8
      have EX := hid ex
      have EY := hid ey
      obtain ⟨q, hq⟩ := a_bool (¬ x = y)
      have HQ := jneq x y q hq
      have HQQ := hid hq
      clear ex ey hLx hLy hq
      obtain ⟨x0, x1, x2, x3, x4, x5, x6, x7⟩ := x
      obtain ⟨y0, y1, y2, y3, y4, y5, y6, y7⟩ := y
      obtain ⟨p0, p1, p2, p3, p4, p5, p6, p7⟩ := px
      obtain ⟨q0, q1, q2, q3, q4, q5, q6, q7⟩ := py
      simp only [] at p0 p1 p2 p3 p4 p5 p6 p7 q0 q1 q2 q3 q4 q5 q6 q7
      go_wp2_with fail
      refine reg_made (by kernel_rfl) (by kernel_rfl) ?_
      intro Ty hT fw hf
      have u0 := Class.reads hf p0
      have v0 := Class.reads hf q0
      have u1 := Class.reads hf p1
      have v1 := Class.reads hf q1
      have u2 := Class.reads hf p2
      have v2 := Class.reads hf q2
      have u3 := Class.reads hf p3
      have v3 := Class.reads hf q3
      have u4 := Class.reads hf p4
      have v4 := Class.reads hf q4
      have u5 := Class.reads hf p5
      have v5 := Class.reads hf q5
      have u6 := Class.reads hf p6
      have v6 := Class.reads hf q6
      have u7 := Class.reads hf p7
      have v7 := Class.reads hf q7
      repeat (go_big_quiet_step (fail))
      refine wpQuiet_nil ?_
      intro w3 h3
      have k3 := hf.here h3
      have K3 := hid (HB.out.1.then_ (k3.low HB.out.1.1.size))
      clear k3 h3 hf
      cases q with
      | true =>
        have e : r = false := Bool.eq_false_iff.2 fun h => by
          have h1 := HR.out.1 h
          have h2 := EX.out; have h3 := EY.out
          rw [h1, h3] at h2
          injection h2 with h2
          exact (HQQ.out.1 rfl) h2.symm
        subst e
        go_wp2_with fail
        go_ret
        exact ⟨rfl, K3.out⟩
      | false =>
        go_wp2_with fail
        go_roundg (n - (k + 1))
        case measure => omega
        case rel =>
          refine ⟨k + 1, by omega, by go_num, K3.out, fun i hi => ?_⟩
          rcases Nat.lt_or_ge i k with h | h
          · exact HB.out.2 i h
          · have : i = k := by omega
            rw [this, EX.out, EY.out]
            congr 1
            exact Classical.byContradiction fun hh => by have := HQQ.out.2 hh; simp at this
    · have ek : k = n := by omega
      subst ek
      have e : r = true := HR.out.2 (List.ext_getElem? fun i => by
        rcases Nat.lt_or_ge i k with h | h
        · exact HB.out.2 i h
        · rw [List.getElem?_eq_none (by have := HN.out.1; omega), List.getElem?_eq_none (by have := HN.out.2; omega)])
      subst e
      go_wp2_with fail
      go_ret
      exact ⟨rfl, HB.out.1⟩
set_option maxRecDepth 100000 in
set_option maxHeartbeats 8000000 in
theorem equalC_c (r : Bool) {l m : List Ct} {ao bo : Option Addr} {n c n' c' : Nat} {w : World} (hn : l.length = n) (hm : m.length = n') (hmx : n ≤ 1073741824) (hl : LsT encC 5 w ao l) (hl' : LsT encC 5 w bo m) (hr : r = true ↔ l = m) :
    Calls Tryz.prog 70 #[.slice ao n c, .slice bo n' c'] w fun e v => e = .returned (.bool r) ∧ Made w.heap.size w v := by
  have HN := hid (And.intro hn hm)
  have HL := hid (fun v (k : Made w.heap.size w v) => hl.kept k)
  have HM := hid (fun v (k : Made w.heap.size w v) => hl'.kept k)
  have HR := hid hr
  clear hn hm hl hl' hr
  by_cases hnn : n = n'
  case neg =>
    have e : r = false := Bool.eq_false_iff.2 fun h => hnn (by rw [← HN.out.1, ← HN.out.2, HR.out.1 h])
    have g : ((n : Int) != (n' : Int)) = true := by simp; omega
    subst e
    clear hnn
    go_enter Tryz.func70, Tryz.ntmps70
    go_wp2_with fail
    go_ret
    exact ⟨rfl, Made.rfl_ _ _⟩
  subst hnn
  go_enter Tryz.func70, Tryz.ntmps70
  go_wp2_with fail
  go_loopg [5, 13] n (fun gg s5 s13 wx => ∃ k : Nat, k + gg = n ∧ s13 = .int .i64 (k : Nat) ∧ Hid (Made w.heap.size w wx ∧ ∀ i, i < k → l[i]? = m[i]?))
  case atStart => exact ⟨0, by omega, rfl, Made.rfl_ _ _, fun i hi => absurd hi (Nat.not_lt_zero _)⟩
  case round =>
    obtain ⟨k, hk, rfl, HB⟩ := hrel
    by_cases hlt : k < n
    · obtain ⟨x, ex⟩ : ∃ a, l[k]? = some a := ⟨_, List.getElem?_eq_getElem (by rw [HN.out.1]; exact hlt)⟩
      obtain ⟨y, ey⟩ : ∃ a, m[k]? = some a := ⟨_, List.getElem?_eq_getElem (by rw [HN.out.2]; exact hlt)⟩
      obtain ⟨bx, ox, rfl, hbx, hLx⟩ := (HL.out _ HB.out.1) (by rw [HN.out.1]; omega)
      obtain ⟨by', oy, rfl, hby, hLy⟩ := (HM.out _ HB.out.1) (by rw [HN.out.2]; omega)
      have px := (hLx k _ ex).c5
      have py := (hLy k _ ey).c5
      have EX := hid ex
      have EY := hid ey
      obtain ⟨q, hq⟩ := a_bool (¬ x = y)
      have HQ := cneq_ x y q hq
      have HQQ := hid hq
      clear ex ey hLx hLy hq
      obtain ⟨x0, x1, x2, x3, x4⟩ := x
      obtain ⟨y0, y1, y2, y3, y4⟩ := y
      obtain ⟨p0, p1, p2, p3, p4⟩ := px
      obtain ⟨q0, q1, q2, q3, q4⟩ := py
      simp only [] at p0 p1 p2 p3 p4 q0 q1 q2 q3 q4
      go_wp2_with fail
      refine reg_made (by kernel_rfl) (by kernel_rfl) ?_
      intro Ty hT fw hf
      have u0 := Class.reads hf p0
      have v0 := Class.reads hf q0
      have u1 := Class.reads hf p1
      have v1 := Class.reads hf q1
      have u2 := Class.reads hf p2
      have v2 := Class.reads hf q2
      have u3 := Class.reads hf p3
      have v3 := Class.reads hf q3
      have u4 := Class.reads hf p4
      have v4 := Class.reads hf q4
      repeat (go_big_quiet_step (fail))
      refine wpQuiet_nil ?_
      intro w3 h3
      have k3 := hf.here h3
      have K3 := hid (HB.out.1.then_ (k3.low HB.out.1.1.size))
      clear k3 h3 hf
      cases q with
      | true =>
        have e : r = false := Bool.eq_false_iff.2 fun h => by
          have h1 := HR.out.1 h
          have h2 := EX.out; have h3 := EY.out
          rw [h1, h3] at h2
          injection h2 with h2
          exact (HQQ.out.1 rfl) h2.symm
        subst e
        go_wp2_with fail
        go_ret
        exact ⟨rfl, K3.out⟩
      | false =>
        go_wp2_with fail
        go_roundg (n - (k + 1))
        case measure => omega
        case rel =>
          refine ⟨k + 1, by omega, by go_num, K3.out, fun i hi => ?_⟩
          rcases Nat.lt_or_ge i k with h | h
          · exact HB.out.2 i h
          · have : i = k := by omega
            rw [this, EX.out, EY.out]
            congr 1
            exact Classical.byContradiction fun hh => by have := HQQ.out.2 hh; simp at this
    · have ek : k = n := by omega
      subst ek
      have e : r = true := HR.out.2 (List.ext_getElem? fun i => by
        rcases Nat.lt_or_ge i k with h | h
        · exact HB.out.2 i h
        · rw [List.getElem?_eq_none (by have := HN.out.1; omega), List.getElem?_eq_none (by have := HN.out.2; omega)])
      subst e
      go_wp2_with fail
      go_ret
      exact ⟨rfl, HB.out.1⟩
theorem vneq (a b c d : Int) (r : Bool) (hr : r = true ↔ ¬ (a = c ∧ b = d)) (w : World) : (binOp .neq 24 (vecV a b) (vecV c d)).run Tryz.prog w = .ok (.bool r) w := by
  by_cases h1 : a = c
  · by_cases h2 : b = d
    · have e : r = false := Bool.eq_false_iff.2 fun h => hr.1 h ⟨h1, h2⟩
      subst h1; subst h2; subst e
      go_simp
    · have e : r = true := hr.2 fun h => h2 h.2
      have hy : (b == d) = false := by simpa using h2
      subst h1; subst e
      go_simp
  · have e : r = true := hr.2 fun h => h1 h.1
    have hx : (a == c) = false := by simpa using h1
    subst e
    go_simp
set_option maxRecDepth 100000 in
set_option maxHeartbeats 8000000 in
theorem equalV_c (r : Bool) {f g : Cs} {ao bo : Option Addr} {n c n' c' : Nat} {w : World} (hmx : n ≤ 1073741824) (hl : Sl w ao n f) (hl' : Sl w bo n' g) (hr : r = true ↔ n = n' ∧ ∀ i, i < n → f i = g i) :
    Calls Tryz.prog 81 #[.slice ao n c, .slice bo n' c'] w fun e v => e = .returned (.bool r) ∧ Made w.heap.size w v := by
  have HL : Hid (∀ v, Made w.heap.size w v → 0 < n → ∃ b off, ao = some ⟨b, off, none⟩ ∧ Pts v b off n f) := fun v k hn => by obtain ⟨b, off, e, hp⟩ := hl hn; exact ⟨b, off, e, hp.kept k⟩
  have HM : Hid (∀ v, Made w.heap.size w v → 0 < n' → ∃ b off, bo = some ⟨b, off, none⟩ ∧ Pts v b off n' g) := fun v k hn => by obtain ⟨b, off, e, hp⟩ := hl' hn; exact ⟨b, off, e, hp.kept k⟩
  have HR := hid hr
  clear hl hl' hr
  by_cases hnn : n = n'
  case neg =>
    have e : r = false := Bool.eq_false_iff.2 fun h => hnn (HR.out.1 h).1
    have gg : ((n : Int) != (n' : Int)) = true := by simp; omega
    subst e
    clear hnn
    go_enter Tryz.func81, Tryz.ntmps81
    go_wp2_with fail
    go_ret
    exact ⟨rfl, Made.rfl_ _ _⟩
  subst hnn
  go_enter Tryz.func81, Tryz.ntmps81
  go_wp2_with fail
  go_loopg [5, 13] n (fun gg s5 s13 wx => ∃ k : Nat, k + gg = n ∧ s13 = .int .i64 (k : Nat) ∧ Hid (Made w.heap.size w wx ∧ ∀ i, i < k → f i = g i))
  case atStart => exact ⟨0, by omega, rfl, Made.rfl_ _ _, fun i hi => absurd hi (Nat.not_lt_zero _)⟩
  case round =>
    obtain ⟨k, hk, rfl, HB⟩ := hrel
    by_cases hlt : k < n
    · obtain ⟨bx, ox, rfl, hPx⟩ := HL.out _ HB.out.1 (by omega)
      obtain ⟨by', oy, rfl, hPy⟩ := HM.out _ HB.out.1 (by omega)
      obtain ⟨p0, p1⟩ := hPx k hlt
      obtain ⟨q0, q1⟩ := hPy k hlt
      obtain ⟨x, ex⟩ : ∃ z, f k = z := ⟨_, rfl⟩
      obtain ⟨y, ey⟩ : ∃ z, g k = z := ⟨_, rfl⟩
      rw [ex] at p0 p1
      rw [ey] at q0 q1
      have EX := hid ex
      have EY := hid ey
      clear ex ey hPx hPy
      obtain ⟨x0, x1⟩ := x
      obtain ⟨y0, y1⟩ := y
      simp only [] at p0 p1 q0 q1
      obtain ⟨q, hq⟩ := a_bool (¬ (x0 = y0 ∧ x1 = y1))
      have HQ := vneq x0 x1 y0 y1 q hq
      have HQQ := hid hq
      clear hq
      have lx := World.block_lt_of_cell? _ _ p0
      have ly := World.block_lt_of_cell? _ _ q0
      go_wp2_with fail
      refine reg_made (by kernel_rfl) (by kernel_rfl) ?_
      intro Ty hT fw hf
      have u0 := Class.reads hf p0
      have u1 := Class.reads hf p1
      have v0 := Class.reads hf q0
      have v1 := Class.reads hf q1
      repeat (go_big_quiet_step (fail))
      refine wpQuiet_nil ?_
      intro w3 h3
      have k3 := hf.here h3
      have K3 := hid (HB.out.1.then_ (k3.low HB.out.1.1.size))
      clear k3 h3 hf
      cases q with
      | true =>
        have e : r = false := Bool.eq_false_iff.2 fun h => by
          have h1 := (HR.out.1 h).2 k hlt
          rw [EX.out, EY.out] at h1
          injection h1 with h1 h2
          exact (HQQ.out.1 rfl) ⟨h1, h2⟩
        subst e
        go_wp2_with fail
        go_ret
        exact ⟨rfl, K3.out⟩
      | false =>
        go_wp2_with fail
        go_roundg (n - (k + 1))
        case measure => omega
        case rel =>
          refine ⟨k + 1, by omega, by go_num, K3.out, fun i hi => ?_⟩
          rcases Nat.lt_or_ge i k with h | h
          · exact HB.out.2 i h
          · have e : i = k := by omega
            rw [e, EX.out, EY.out]
            have := Classical.byContradiction fun hh => by have := HQQ.out.2 hh; simp at this
            rw [this.1, this.2]
    · have ek : k = n := by omega
      subst ek
      have e : r = true := HR.out.2 (by first | exact ⟨rfl, HB.out.2⟩ | exact ⟨trivial, HB.out.2⟩)
      subst e
      go_wp2_with fail
      go_ret
      exact ⟨rfl, HB.out.1⟩
set_option maxRecDepth 100000 in
set_option maxHeartbeats 8000000 in
theorem shapeSame_c (r : Bool) (K R K' R' : Int) {f g : Cs} {ao bo : Option Addr} {n c n' c' : Nat} {w : World} (hmx : n ≤ 1073741824) (hl : Sl w ao n f) (hl' : Sl w bo n' g) (hr : r = true ↔ K = K' ∧ R = R' ∧ n = n' ∧ ∀ i, i < n → f i = g i) :
    Calls Tryz.prog 40 #[shapeV K R (.slice ao n c), shapeV K' R' (.slice bo n' c')] w fun e v => e = .returned (.bool r) ∧ Made w.heap.size w v := by
  have HL : Hid (∀ v, Made w.heap.size w v → Sl v ao n f) := fun v k hn => by obtain ⟨b, off, e, hp⟩ := hl hn; exact ⟨b, off, e, hp.kept k⟩
  have HM : Hid (∀ v, Made w.heap.size w v → Sl v bo n' g) := fun v k hn => by obtain ⟨b, off, e, hp⟩ := hl' hn; exact ⟨b, off, e, hp.kept k⟩
  have HR := hid hr
  clear hl hl' hr
  obtain ⟨W, eW⟩ : ∃ W, W = (w.alloc (.cells #[.int .i64 K, .int .i64 R, .slice ao n c] 27)).alloc (.cells #[.int .i64 K', .int .i64 R', .slice bo n' c'] 27) := ⟨_, rfl⟩
  have KW : Hid (Made w.heap.size w W) := by unfold Hid; rw [eW]; exact ((Made.rfl_ _ _).cells (Nat.le_refl _) _ _).cells (by simp) _ _
  have HA : Hid (Has W w.heap.size 27 #[.int .i64 K, .int .i64 R, .slice ao n c]) := by unfold Hid; rw [eW]; exact (has_new _ _ _).more _
  have HB : Hid (Has W (w.heap.size + 1) 27 #[.int .i64 K', .int .i64 R', .slice bo n' c']) := by unfold Hid; rw [eW]; exact has_nxt' _ _ _ _
  obtain ⟨g0, eg0⟩ : ∃ g, w.heap.size = g := ⟨_, rfl⟩
  obtain ⟨g1, eg1⟩ : ∃ g, g0 + 1 = g := ⟨_, rfl⟩
  rw [eg0] at HA
  rw [eg0, eg1] at HB
  have a0 := HA.out.at_ 0
  have a1 := HA.out.at_ 1
  have a2 := HA.out.at_ 2
  simp at a0 a1 a2
  have b0 := HB.out.at_ 0
  have b1 := HB.out.at_ 1
  have b2 := HB.out.at_ 2
  simp at b0 b1 b2
  have l0 : g0 < W.heap.size := HA.out.here
  have l1 : g1 < W.heap.size := HB.out.here
  go_enter Tryz.func40, Tryz.ntmps40
  go_upto_region 1 with fail
  rw [← eW]
  clear eW
  try rw [eg0]
  try rw [eg1]
  by_cases h0 : K = K'
  case neg =>
    have e : r = false := Bool.eq_false_iff.2 fun h => h0 (HR.out.1 h).1
    have g0 : (K == K') = false := by simpa using h0
    subst e
    clear h0
    go_wp2_with fail
    go_ret
    exact ⟨by first | rfl | trivial, by first | exact KW.out | exact eg0 ▸ KW.out⟩
  have q0 : (K == K') = true := by simpa using h0
  by_cases h1 : R = R'
  case neg =>
    have e : r = false := Bool.eq_false_iff.2 fun h => h1 (HR.out.1 h).2.1
    have g1 : (R == R') = false := by simpa using h1
    subst e
    clear h1 h0
    go_wp2_with fail
    go_ret
    exact ⟨by first | rfl | trivial, by first | exact KW.out | exact eg0 ▸ KW.out⟩
  have q1 : (R == R') = true := by simpa using h1
  have HC := hid (equalV_c (c := c) (c' := c') r hmx (HL.out _ KW.out) (HM.out _ KW.out) (by rw [HR.out]; simp [h0, h1]))
  clear h0 h1
  go_wp2_with fail
  refine HC.out.mono ?_
  rintro e w1 ⟨rfl, k1⟩
  have K1 := hid (KW.out.then_ (k1.low KW.out.1.size))
  clear k1 a0 a1 a2 b0 b1 b2 l0 l1
  go_wp2_with fail
  go_ret
  exact ⟨by first | rfl | trivial, by first | exact K1.out | exact eg0 ▸ K1.out⟩
end Go.Proofs.YtfncelifflebbaaGreat.Fx

