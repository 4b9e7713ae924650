/- WsA WsB WlM Mid -/
import Derived.Test.YtgdcphmmehedoaaGreatCb1
import Derived.Test.YtgdcphmmehedoaaGreatCb10
import Derived.Deep.DeepCutAuto
import Derived.Deep.CutBlock
set_option maxRecDepth 100000
set_option maxHeartbeats 64000000
/- slices.Equal of joints, contacts, corners; shape.Same. -/
namespace Go.Proofs.YtgdcphmmehedoaaGreat.Fx
open Go.ChangeShapes Go.WideShapes Go.ChangeAt Go.RowKit
set_option linter.unusedVariables false
theorem jneq (x y : Jt) (r : Bool) (hr : r = true ↔ ¬ x = y) (w : World) : (binOp .neq 102 (jtV x) (jtV y)).run Tryz.prog w = .ok (.bool r) w := by
 obtain ⟨a0, a1, a2, a3, a4, a5, a6, a7⟩ := x
 obtain ⟨b0, b1, b2, b3, b4, b5, b6, b7⟩ := y
 simp only [Jt.mk.injEq] at hr
 by_cases h0 : a0 = b0
 case neg =>
  have e : r = true := hr.2 (by simp [h0])
  have hx : (a0 == b0) = false := by simpa using h0
  subst e
  clear hr h0
  go_simp
 subst h0
 by_cases h1 : a1 = b1
 case neg =>
  have e : r = true := hr.2 (by simp [h1])
  have hx : (a1 == b1) = false := by simpa using h1
  subst e
  clear hr h1
  go_simp
 subst h1
 by_cases h2 : a2 = b2
 case neg =>
  have e : r = true := hr.2 (by simp [h2])
  have hx : (a2 == b2) = false := by simpa using h2
  subst e
  clear hr h2
  go_simp
 subst h2
 by_cases h3 : a3 = b3
 case neg =>
  have e : r = true := hr.2 (by simp [h3])
  have hx : (a3 == b3) = false := by simpa using h3
  subst e
  clear hr h3
  go_simp
 subst h3
 by_cases h4 : a4 = b4
 case neg =>
  have e : r = true := hr.2 (by simp [h4])
  have hx : (a4 == b4) = false := by simpa using h4
  subst e
  clear hr h4
  go_simp
 subst h4
 by_cases h5 : a5 = b5
 case neg =>
  have e : r = true := hr.2 (by simp [h5])
  have hx : (a5 == b5) = false := by simpa using h5
  subst e
  clear hr h5
  go_simp
 subst h5
 by_cases h6 : a6 = b6
 case neg =>
  have e : r = true := hr.2 (by simp [h6])
  have hx : (a6 == b6) = false := by simpa using h6
  subst e
  clear hr h6
  go_simp
 subst h6
 by_cases h7 : a7 = b7
 case neg =>
  have e : r = true := hr.2 (by simp [h7])
  have hx : (a7 == b7) = false := by simpa using h7
  subst e
  clear hr h7
  go_simp
 subst h7
 have e : r = false := Bool.eq_false_iff.2 fun h => absurd (hr.1 h) (by simp)
 subst e
 clear hr
 go_simp
theorem cneq_ (x y : Ct) (r : Bool) (hr : r = true ↔ ¬ x = y) (w : World) : (binOp .neq 105 (ctV x) (ctV y)).run Tryz.prog w = .ok (.bool r) w := by
 obtain ⟨a0, a1, a2, a3, a4⟩ := x
 obtain ⟨b0, b1, b2, b3, b4⟩ := y
 simp only [Ct.mk.injEq] at hr
 by_cases h0 : a0 = b0
 case neg =>
  have e : r = true := hr.2 (by simp [h0])
  have hx : (a0 == b0) = false := by simpa using h0
  subst e
  clear hr h0
  go_simp
 subst h0
 by_cases h1 : a1 = b1
 case neg =>
  have e : r = true := hr.2 (by simp [h1])
  have hx : (a1 == b1) = false := by simpa using h1
  subst e
  clear hr h1
  go_simp
 subst h1
 by_cases h2 : a2 = b2
 case neg =>
  have e : r = true := hr.2 (by simp [h2])
  have hx : (a2 == b2) = false := by simpa using h2
  subst e
  clear hr h2
  go_simp
 subst h2
 by_cases h3 : a3 = b3
 case neg =>
  have e : r = true := hr.2 (by simp [h3])
  have hx : (a3 == b3) = false := by simpa using h3
  subst e
  clear hr h3
  go_simp
 subst h3
 by_cases h4 : a4 = b4
 case neg =>
  have e : r = true := hr.2 (by simp [h4])
  have hx : (a4 == b4) = false := by simpa using h4
  subst e
  clear hr h4
  go_simp
 subst h4
 have e : r = false := Bool.eq_false_iff.2 fun h => absurd (hr.1 h) (by simp)
 subst e
 clear hr
 go_simp
theorem equalJ_c (r : Bool) {l m : List Jt} {ao bo : Option Addr} {n c n' c' : Nat} {w : World} (hn : l.length = n) (hm : m.length = n') (hmx : n ≤ 1073741824) (hl : LsT encJ 8 w ao l) (hl' : LsT encJ 8 w bo m) (hr : r = true ↔ l = m) :
  Calls Tryz.prog 57 #[.slice ao n c, .slice bo n' c'] w fun e v => e = .returned (.bool r) ∧ Made w.heap.size w v := by
 have HN := hid (And.intro hn hm)
 have HL := hid (fun v (k : Made w.heap.size w v) => hl.kept k)
 have HM := hid (fun v (k : Made w.heap.size w v) => hl'.kept k)
 have HR := hid hr
 clear hn hm hl hl' hr
 by_cases hnn : n = n'
 case neg =>
  have e : r = false := Bool.eq_false_iff.2 fun h => hnn (by rw [← HN.out.1, ← HN.out.2, HR.out.1 h])
  have g : ((n : Int) != (n' : Int)) = true := by simp; omega
  subst e
  clear hnn
  go_enter Tryz.func57, Tryz.ntmps57
  go_wp2_with fail
  go_ret
  exact ⟨rfl, Made.rfl_ _ _⟩
 subst hnn
 go_enter Tryz.func57, Tryz.ntmps57
 go_wp2_with fail
 go_loopg [5, 13] n (fun gg s5 s13 wx => ∃ k : Nat, k + gg = n ∧ s13 = .int .i64 (k : Nat) ∧ Hid (Made w.heap.size w wx ∧ ∀ i, i < k → l[i]? = m[i]?))
 case atStart => exact ⟨0, by omega, rfl, Made.rfl_ _ _, fun i hi => absurd hi (Nat.not_lt_zero _)⟩
 case round =>
  obtain ⟨k, hk, rfl, HB⟩ := hrel
  by_cases hlt : k < n
  ·obtain ⟨x, ex⟩ : ∃ a, l[k]? = some a := ⟨_, List.getElem?_eq_getElem (by rw [HN.out.1]; exact hlt)⟩
   obtain ⟨y, ey⟩ : ∃ a, m[k]? = some a := ⟨_, List.getElem?_eq_getElem (by rw [HN.out.2]; exact hlt)⟩
   obtain ⟨bx, ox, rfl, hbx, hLx⟩ := (HL.out _ HB.out.1) (by rw [HN.out.1]; omega)
   obtain ⟨by', oy, rfl, hby, hLy⟩ := (HM.out _ HB.out.1) (by rw [HN.out.2]; omega)
   have px := (hLx k _ ex).j8
   have py := (hLy k _ ey).j8
   have EX := hid ex
   have EY := hid ey
   obtain ⟨q, hq⟩ := a_bool (¬ x = y)
   have HQ := jneq x y q hq
   have HQQ := hid hq
   clear ex ey hLx hLy hq
   obtain ⟨x0, x1, x2, x3, x4, x5, x6, x7⟩ := x
   obtain ⟨y0, y1, y2, y3, y4, y5, y6, y7⟩ := y
   obtain ⟨p0, p1, p2, p3, p4, p5, p6, p7⟩ := px
   obtain ⟨q0, q1, q2, q3, q4, q5, q6, q7⟩ := py
   simp only [] at p0 p1 p2 p3 p4 p5 p6 p7 q0 q1 q2 q3 q4 q5 q6 q7
   go_wp2_with fail
   refine reg_made (by kernel_rfl) (by kernel_rfl) ?_
   intro Ty hT fw hf
   have u0 := Class.reads hf p0
   have v0 := Class.reads hf q0
   have u1 := Class.reads hf p1
   have v1 := Class.reads hf q1
   have u2 := Class.reads hf p2
   have v2 := Class.reads hf q2
   have u3 := Class.reads hf p3
   have v3 := Class.reads hf q3
   have u4 := Class.reads hf p4
   have v4 := Class.reads hf q4
   have u5 := Class.reads hf p5
   have v5 := Class.reads hf q5
   have u6 := Class.reads hf p6
   have v6 := Class.reads hf q6
   have u7 := Class.reads hf p7
   have v7 := Class.reads hf q7
   repeat (go_big_quiet_step (fail))
   refine wpQuiet_nil ?_
   intro w3 h3
   have k3 := hf.here h3
   have K3 := hid (HB.out.1.then_ (k3.low HB.out.1.1.size))
   clear k3 h3 hf
   cases q with
   | true =>
    have e : r = false := Bool.eq_false_iff.2 fun h => by
     have h1 := HR.out.1 h
     have h2 := EX.out; have h3 := EY.out
     rw [h1, h3] at h2
     injection h2 with h2
     exact (HQQ.out.1 rfl) h2.symm
    subst e
    go_wp2_with fail
    go_ret
    exact ⟨rfl, K3.out⟩
   | false =>
    go_wp2_with fail
    go_roundg (n - (k + 1))
    case measure => omega
    case rel =>
     refine ⟨k + 1, by omega, by go_num, K3.out, fun i hi => ?_⟩
     rcases Nat.lt_or_ge i k with h | h
     ·exact HB.out.2 i h
     ·have : i = k := by omega
      rw [this, EX.out, EY.out]
      congr 1
      exact Classical.byContradiction fun hh => by have := HQQ.out.2 hh; simp at this
  ·have ek : k = n := by omega
   subst ek
   have e : r = true := HR.out.2 (List.ext_getElem? fun i => by
    rcases Nat.lt_or_ge i k with h | h
    ·exact HB.out.2 i h
    ·rw [List.getElem?_eq_none (by have := HN.out.1; omega), List.getElem?_eq_none (by have := HN.out.2; omega)])
   subst e
   go_wp2_with fail
   go_ret
   exact ⟨rfl, HB.out.1⟩
theorem equalC_c (r : Bool) {l m : List Ct} {ao bo : Option Addr} {n c n' c' : Nat} {w : World} (hn : l.length = n) (hm : m.length = n') (hmx : n ≤ 1073741824) (hl : LsT encC 5 w ao l) (hl' : LsT encC 5 w bo m) (hr : r = true ↔ l = m) :
  Calls Tryz.prog 58 #[.slice ao n c, .slice bo n' c'] w fun e v => e = .returned (.bool r) ∧ Made w.heap.size w v := by
 have HN := hid (And.intro hn hm)
 have HL := hid (fun v (k : Made w.heap.size w v) => hl.kept k)
 have HM := hid (fun v (k : Made w.heap.size w v) => hl'.kept k)
 have HR := hid hr
 clear hn hm hl hl' hr
 by_cases hnn : n = n'
 case neg =>
  have e : r = false := Bool.eq_false_iff.2 fun h => hnn (by rw [← HN.out.1, ← HN.out.2, HR.out.1 h])
  have g : ((n : Int) != (n' : Int)) = true := by simp; omega
  subst e
  clear hnn
  go_enter Tryz.func58, Tryz.ntmps58
  go_wp2_with fail
  go_ret
  exact ⟨rfl, Made.rfl_ _ _⟩
 subst hnn
 go_enter Tryz.func58, Tryz.ntmps58
 go_wp2_with fail
 go_loopg [5, 13] n (fun gg s5 s13 wx => ∃ k : Nat, k + gg = n ∧ s13 = .int .i64 (k : Nat) ∧ Hid (Made w.heap.size w wx ∧ ∀ i, i < k → l[i]? = m[i]?))
 case atStart => exact ⟨0, by omega, rfl, Made.rfl_ _ _, fun i hi => absurd hi (Nat.not_lt_zero _)⟩
 case round =>
  obtain ⟨k, hk, rfl, HB⟩ := hrel
  by_cases hlt : k < n
  ·obtain ⟨x, ex⟩ : ∃ a, l[k]? = some a := ⟨_, List.getElem?_eq_getElem (by rw [HN.out.1]; exact hlt)⟩
   obtain ⟨y, ey⟩ : ∃ a, m[k]? = some a := ⟨_, List.getElem?_eq_getElem (by rw [HN.out.2]; exact hlt)⟩
   obtain ⟨bx, ox, rfl, hbx, hLx⟩ := (HL.out _ HB.out.1) (by rw [HN.out.1]; omega)
   obtain ⟨by', oy, rfl, hby, hLy⟩ := (HM.out _ HB.out.1) (by rw [HN.out.2]; omega)
   have px := (hLx k _ ex).c5
   have py := (hLy k _ ey).c5
   have EX := hid ex
   have EY := hid ey
   obtain ⟨q, hq⟩ := a_bool (¬ x = y)
   have HQ := cneq_ x y q hq
   have HQQ := hid hq
   clear ex ey hLx hLy hq
   obtain ⟨x0, x1, x2, x3, x4⟩ := x
   obtain ⟨y0, y1, y2, y3, y4⟩ := y
   obtain ⟨p0, p1, p2, p3, p4⟩ := px
   obtain ⟨q0, q1, q2, q3, q4⟩ := py
   simp only [] at p0 p1 p2 p3 p4 q0 q1 q2 q3 q4
   go_wp2_with fail
   refine reg_made (by kernel_rfl) (by kernel_rfl) ?_
   intro Ty hT fw hf
   have u0 := Class.reads hf p0
   have v0 := Class.reads hf q0
   have u1 := Class.reads hf p1
   have v1 := Class.reads hf q1
   have u2 := Class.reads hf p2
   have v2 := Class.reads hf q2
   have u3 := Class.reads hf p3
   have v3 := Class.reads hf q3
   have u4 := Class.reads hf p4
   have v4 := Class.reads hf q4
   repeat (go_big_quiet_step (fail))
   refine wpQuiet_nil ?_
   intro w3 h3
   have k3 := hf.here h3
   have K3 := hid (HB.out.1.then_ (k3.low HB.out.1.1.size))
   clear k3 h3 hf
   cases q with
   | true =>
    have e : r = false := Bool.eq_false_iff.2 fun h => by
     have h1 := HR.out.1 h
     have h2 := EX.out; have h3 := EY.out
     rw [h1, h3] at h2
     injection h2 with h2
     exact (HQQ.out.1 rfl) h2.symm
    subst e
    go_wp2_with fail
    go_ret
    exact ⟨rfl, K3.out⟩
   | false =>
    go_wp2_with fail
    go_roundg (n - (k + 1))
    case measure => omega
    case rel =>
     refine ⟨k + 1, by omega, by go_num, K3.out, fun i hi => ?_⟩
     rcases Nat.lt_or_ge i k with h | h
     ·exact HB.out.2 i h
     ·have : i = k := by omega
      rw [this, EX.out, EY.out]
      congr 1
      exact Classical.byContradiction fun hh => by have := HQQ.out.2 hh; simp at this
  ·have ek : k = n := by omega
   subst ek
   have e : r = true := HR.out.2 (List.ext_getElem? fun i => by
    rcases Nat.lt_or_ge i k with h | h
    ·exact HB.out.2 i h
    ·rw [List.getElem?_eq_none (by have := HN.out.1; omega), List.getElem?_eq_none (by have := HN.out.2; omega)])
   subst e
   go_wp2_with fail
   go_ret
   exact ⟨rfl, HB.out.1⟩
theorem vneq (a b c d : Int) (r : Bool) (hr : r = true ↔ ¬ (a = c ∧ b = d)) (w : World) : (binOp .neq 28 (vecV a b) (vecV c d)).run Tryz.prog w = .ok (.bool r) w := by
 by_cases h1 : a = c
 ·by_cases h2 : b = d
  ·have e : r = false := Bool.eq_false_iff.2 fun h => hr.1 h ⟨h1, h2⟩
   subst h1; subst h2; subst e
   go_simp
  ·have e : r = true := hr.2 fun h => h2 h.2
   have hy : (b == d) = false := by simpa using h2
   subst h1; subst e
   go_simp
 ·have e : r = true := hr.2 fun h => h1 h.1
  have hx : (a == c) = false := by simpa using h1
  subst e
  go_simp
theorem equalV_c (r : Bool) {f g : Cs} {ao bo : Option Addr} {n c n' c' : Nat} {w : World} (hmx : n ≤ 1073741824) (hl : Sl w ao n f) (hl' : Sl w bo n' g) (hr : r = true ↔ n = n' ∧ ∀ i, i < n → f i = g i) :
  Calls Tryz.prog 101 #[.slice ao n c, .slice bo n' c'] w fun e v => e = .returned (.bool r) ∧ Made w.heap.size w v := by
 have HL : Hid (∀ v, Made w.heap.size w v → 0 < n → ∃ b off, ao = some ⟨b, off, none⟩ ∧ Pts v b off n f) := fun v k hn => by obtain ⟨b, off, e, hp⟩ := hl hn; exact ⟨b, off, e, hp.kept k⟩
 have HM : Hid (∀ v, Made w.heap.size w v → 0 < n' → ∃ b off, bo = some ⟨b, off, none⟩ ∧ Pts v b off n' g) := fun v k hn => by obtain ⟨b, off, e, hp⟩ := hl' hn; exact ⟨b, off, e, hp.kept k⟩
 have HR := hid hr
 clear hl hl' hr
 by_cases hnn : n = n'
 case neg =>
  have e : r = false := Bool.eq_false_iff.2 fun h => hnn (HR.out.1 h).1
  have gg : ((n : Int) != (n' : Int)) = true := by simp; omega
  subst e
  clear hnn
  go_enter Tryz.func101, Tryz.ntmps101
  go_wp2_with fail
  go_ret
  exact ⟨rfl, Made.rfl_ _ _⟩
 subst hnn
 go_enter Tryz.func101, Tryz.ntmps101
 go_wp2_with fail
 go_loopg [5, 13] n (fun gg s5 s13 wx => ∃ k : Nat, k + gg = n ∧ s13 = .int .i64 (k : Nat) ∧ Hid (Made w.heap.size w wx ∧ ∀ i, i < k → f i = g i))
 case atStart => exact ⟨0, by omega, rfl, Made.rfl_ _ _, fun i hi => absurd hi (Nat.not_lt_zero _)⟩
 case round =>
  obtain ⟨k, hk, rfl, HB⟩ := hrel
  by_cases hlt : k < n
  ·obtain ⟨bx, ox, rfl, hPx⟩ := HL.out _ HB.out.1 (by omega)
   obtain ⟨by', oy, rfl, hPy⟩ := HM.out _ HB.out.1 (by omega)
   obtain ⟨p0, p1⟩ := hPx k hlt
   obtain ⟨q0, q1⟩ := hPy k hlt
   obtain ⟨x, ex⟩ : ∃ z, f k = z := ⟨_, rfl⟩
   obtain ⟨y, ey⟩ : ∃ z, g k = z := ⟨_, rfl⟩
   rw [ex] at p0 p1
   rw [ey] at q0 q1
   have EX := hid ex
   have EY := hid ey
   clear ex ey hPx hPy
   obtain ⟨x0, x1⟩ := x
   obtain ⟨y0, y1⟩ := y
   simp only [] at p0 p1 q0 q1
   obtain ⟨q, hq⟩ := a_bool (¬ (x0 = y0 ∧ x1 = y1))
   have HQ := vneq x0 x1 y0 y1 q hq
   have HQQ := hid hq
   clear hq
   have lx := World.block_lt_of_cell? _ _ p0
   have ly := World.block_lt_of_cell? _ _ q0
   go_wp2_with fail
   refine reg_made (by kernel_rfl) (by kernel_rfl) ?_
   intro Ty hT fw hf
   have u0 := Class.reads hf p0
   have u1 := Class.reads hf p1
   have v0 := Class.reads hf q0
   have v1 := Class.reads hf q1
   repeat (go_big_quiet_step (fail))
   refine wpQuiet_nil ?_
   intro w3 h3
   have k3 := hf.here h3
   have K3 := hid (HB.out.1.then_ (k3.low HB.out.1.1.size))
   clear k3 h3 hf
   cases q with
   | true =>
    have e : r = false := Bool.eq_false_iff.2 fun h => by
     have h1 := (HR.out.1 h).2 k hlt
     rw [EX.out, EY.out] at h1
     injection h1 with h1 h2
     exact (HQQ.out.1 rfl) ⟨h1, h2⟩
    subst e
    go_wp2_with fail
    go_ret
    exact ⟨rfl, K3.out⟩
   | false =>
    go_wp2_with fail
    go_roundg (n - (k + 1))
    case measure => omega
    case rel =>
     refine ⟨k + 1, by omega, by go_num, K3.out, fun i hi => ?_⟩
     rcases Nat.lt_or_ge i k with h | h
     ·exact HB.out.2 i h
     ·have e : i = k := by omega
      rw [e, EX.out, EY.out]
      have := Classical.byContradiction fun hh => by have := HQQ.out.2 hh; simp at this
      rw [this.1, this.2]
  ·have ek : k = n := by omega
   subst ek
   have e : r = true := HR.out.2 (by first | exact ⟨rfl, HB.out.2⟩ | exact ⟨trivial, HB.out.2⟩)
   subst e
   go_wp2_with fail
   go_ret
   exact ⟨rfl, HB.out.1⟩
theorem shapeSame_c (r : Bool) (K R K' R' : Int) {f g : Cs} {ao bo : Option Addr} {n c n' c' : Nat} {w : World} (hmx : n ≤ 1073741824) (hl : Sl w ao n f) (hl' : Sl w bo n' g) (hr : r = true ↔ K = K' ∧ R = R' ∧ n = n' ∧ ∀ i, i < n → f i = g i) :
  Calls Tryz.prog 76 #[shapeV K R (.slice ao n c), shapeV K' R' (.slice bo n' c')] w fun e v => e = .returned (.bool r) ∧ Made w.heap.size w v := by
 have HL : Hid (∀ v, Made w.heap.size w v → Sl v ao n f) := fun v k hn => by obtain ⟨b, off, e, hp⟩ := hl hn; exact ⟨b, off, e, hp.kept k⟩
 have HM : Hid (∀ v, Made w.heap.size w v → Sl v bo n' g) := fun v k hn => by obtain ⟨b, off, e, hp⟩ := hl' hn; exact ⟨b, off, e, hp.kept k⟩
 have HR := hid hr
 clear hl hl' hr
 obtain ⟨W, eW⟩ : ∃ W, W = (w.alloc (.cells #[.int .i64 K, .int .i64 R, .slice ao n c] 33)).alloc (.cells #[.int .i64 K', .int .i64 R', .slice bo n' c'] 33) := ⟨_, rfl⟩
 have KW : Hid (Made w.heap.size w W) := by unfold Hid; rw [eW]; exact ((Made.rfl_ _ _).cells (Nat.le_refl _) _ _).cells (by simp) _ _
 have HA : Hid (Has W w.heap.size 33 #[.int .i64 K, .int .i64 R, .slice ao n c]) := by unfold Hid; rw [eW]; exact (has_new _ _ _).more _
 have HB : Hid (Has W (w.heap.size + 1) 33 #[.int .i64 K', .int .i64 R', .slice bo n' c']) := by unfold Hid; rw [eW]; exact has_nxt' _ _ _ _
 obtain ⟨g0, eg0⟩ : ∃ g, w.heap.size = g := ⟨_, rfl⟩
 obtain ⟨g1, eg1⟩ : ∃ g, g0 + 1 = g := ⟨_, rfl⟩
 rw [eg0] at HA
 rw [eg0, eg1] at HB
 have a0 := HA.out.at_ 0
 have a1 := HA.out.at_ 1
 have a2 := HA.out.at_ 2
 simp at a0 a1 a2
 have b0 := HB.out.at_ 0
 have b1 := HB.out.at_ 1
 have b2 := HB.out.at_ 2
 simp at b0 b1 b2
 have l0 : g0 < W.heap.size := HA.out.here
 have l1 : g1 < W.heap.size := HB.out.here
 go_enter Tryz.func76, Tryz.ntmps76
 go_upto_region 1 with fail
 rw [← eW]
 clear eW
 try rw [eg0]
 try rw [eg1]
 by_cases h0 : K = K'
 case neg =>
  have e : r = false := Bool.eq_false_iff.2 fun h => h0 (HR.out.1 h).1
  have g0 : (K == K') = false := by simpa using h0
  subst e
  clear h0
  go_wp2_with fail
  go_ret
  exact ⟨by first | rfl | trivial, by first | exact KW.out | exact eg0 ▸ KW.out⟩
 have q0 : (K == K') = true := by simpa using h0
 by_cases h1 : R = R'
 case neg =>
  have e : r = false := Bool.eq_false_iff.2 fun h => h1 (HR.out.1 h).2.1
  have g1 : (R == R') = false := by simpa using h1
  subst e
  clear h1 h0
  go_wp2_with fail
  go_ret
  exact ⟨by first | rfl | trivial, by first | exact KW.out | exact eg0 ▸ KW.out⟩
 have q1 : (R == R') = true := by simpa using h1
 have HC := hid (equalV_c (c := c) (c' := c') r hmx (HL.out _ KW.out) (HM.out _ KW.out) (by rw [HR.out]; simp [h0, h1]))
 clear h0 h1
 go_wp2_with fail
 refine HC.out.mono ?_
 rintro e w1 ⟨rfl, k1⟩
 have K1 := hid (KW.out.then_ (k1.low KW.out.1.size))
 clear k1 a0 a1 a2 b0 b1 b2 l0 l1
 go_wp2_with fail
 go_ret
 exact ⟨by first | rfl | trivial, by first | exact K1.out | exact eg0 ▸ K1.out⟩
end Go.Proofs.YtgdcphmmehedoaaGreat.Fx
/- world.Same. -/
namespace Go.Proofs.YtgdcphmmehedoaaGreat.Fx
open Go.ChangeShapes Go.WideShapes Go.ChangeAt Go.RowKit
set_option linter.unusedVariables false
def EqB (b b' : Bd) : Prop := b.id = b'.id ∧ (b.x = b'.x ∧ b.y = b'.y) ∧ (b.vx = b'.vx ∧ b.vy = b'.vy) ∧ b.an = b'.an ∧ b.sp = b'.sp ∧ b.de = b'.de ∧ b.k = b'.k ∧ b.r = b'.r ∧ b.n = b'.n ∧ ∀ i, i < b.n → b.f i = b'.f i
theorem sameBody_c (q : Bool) (b b' : Bd) {w : World} (hmx : b.n ≤ 1073741824) (hl : Sl w b.ao b.n b.f) (hl' : Sl w b'.ao b'.n b'.f) (hr : q = true ↔ EqB b b') :
  Calls Tryz.prog 56 #[bdV b, bdV b'] w fun e v => e = .returned (.bool q) ∧ Made w.heap.size w v := by
 obtain ⟨id, x, y, vx, vy, an, sp, de, k, r, ao, n, c, f⟩ := b
 obtain ⟨id', x', y', vx', vy', an', sp', de', k', r', bo, n', c', g⟩ := b'
 simp only [EqB] at hr
 simp only [] at hmx hl hl'
 have HL : Hid (∀ v, Made w.heap.size w v → Sl v ao n f) := fun v k hn => by obtain ⟨b, off, e, hp⟩ := hl hn; exact ⟨b, off, e, hp.kept k⟩
 have HM : Hid (∀ v, Made w.heap.size w v → Sl v bo n' g) := fun v k hn => by obtain ⟨b, off, e, hp⟩ := hl' hn; exact ⟨b, off, e, hp.kept k⟩
 have HR := hid hr
 clear hl hl' hr
 obtain ⟨W, eW⟩ : ∃ W, W = (w.alloc (.cells #[.int .i64 id, .int .i64 x, .int .i64 y, .int .i64 vx, .int .i64 vy, .int .i64 an, .int .i64 sp, .int .i64 de, .int .i64 k, .int .i64 r, .slice ao n c] 35)).alloc (.cells #[.int .i64 id', .int .i64 x', .int .i64 y', .int .i64 vx', .int .i64 vy', .int .i64 an', .int .i64 sp', .int .i64 de', .int .i64 k', .int .i64 r', .slice bo n' c'] 35) := ⟨_, rfl⟩
 have KW : Hid (Made w.heap.size w W) := by unfold Hid; rw [eW]; exact ((Made.rfl_ _ _).cells (Nat.le_refl _) _ _).cells (by simp) _ _
 have HA : Hid (Has W w.heap.size 35 #[.int .i64 id, .int .i64 x, .int .i64 y, .int .i64 vx, .int .i64 vy, .int .i64 an, .int .i64 sp, .int .i64 de, .int .i64 k, .int .i64 r, .slice ao n c]) := by unfold Hid; rw [eW]; exact (has_new _ _ _).more _
 have HB : Hid (Has W (w.heap.size + 1) 35 #[.int .i64 id', .int .i64 x', .int .i64 y', .int .i64 vx', .int .i64 vy', .int .i64 an', .int .i64 sp', .int .i64 de', .int .i64 k', .int .i64 r', .slice bo n' c']) := by unfold Hid; rw [eW]; exact has_nxt' _ _ _ _
 obtain ⟨g0, eg0⟩ : ∃ g, w.heap.size = g := ⟨_, rfl⟩
 obtain ⟨g1, eg1⟩ : ∃ g, g0 + 1 = g := ⟨_, rfl⟩
 rw [eg0] at HA
 rw [eg0, eg1] at HB
 have a0 := HA.out.at_ 0
 have a1 := HA.out.at_ 1
 have a2 := HA.out.at_ 2
 have a3 := HA.out.at_ 3
 have a4 := HA.out.at_ 4
 have a5 := HA.out.at_ 5
 have a6 := HA.out.at_ 6
 have a7 := HA.out.at_ 7
 have a8 := HA.out.at_ 8
 have a9 := HA.out.at_ 9
 have a10 := HA.out.at_ 10
 simp at a0 a1 a2 a3 a4 a5 a6 a7 a8 a9 a10
 have b0 := HB.out.at_ 0
 have b1 := HB.out.at_ 1
 have b2 := HB.out.at_ 2
 have b3 := HB.out.at_ 3
 have b4 := HB.out.at_ 4
 have b5 := HB.out.at_ 5
 have b6 := HB.out.at_ 6
 have b7 := HB.out.at_ 7
 have b8 := HB.out.at_ 8
 have b9 := HB.out.at_ 9
 have b10 := HB.out.at_ 10
 simp at b0 b1 b2 b3 b4 b5 b6 b7 b8 b9 b10
 have l0 : g0 < W.heap.size := HA.out.here
 have l1 : g1 < W.heap.size := HB.out.here
 go_enter Tryz.func56, Tryz.ntmps56
 go_upto_region 1 with fail
 rw [← eW]
 clear eW
 try rw [eg0]
 try rw [eg1]
 by_cases h0 : id = id'
 case neg =>
  have e : q = false := Bool.eq_false_iff.2 fun h => h0 (HR.out.1 h).1
  have q_id : (id == id') = false := by simpa using (show ¬ id = id' from h0)
  subst e
  clear h0
  go_wp2_with fail
  go_ret
  exact ⟨by first | rfl | trivial, by first | exact KW.out | exact eg0 ▸ KW.out⟩
 have q_id : (id == id') = true := by simpa using (show id = id' from h0)
 by_cases h1 : x = x' ∧ y = y'
 case neg =>
  have e : q = false := Bool.eq_false_iff.2 fun h => h1 (HR.out.1 h).2.1
  have q_x := veql x y x' y' false (iff_of_false (by simp) h1)
  subst e
  clear h1 h0
  go_wp2_with fail
  go_ret
  exact ⟨by first | rfl | trivial, by first | exact KW.out | exact eg0 ▸ KW.out⟩
 have q_x := veql x y x' y' true (iff_of_true rfl h1)
 by_cases h2 : vx = vx' ∧ vy = vy'
 case neg =>
  have e : q = false := Bool.eq_false_iff.2 fun h => h2 (HR.out.1 h).2.2.1
  have q_vx := veql vx vy vx' vy' false (iff_of_false (by simp) h2)
  subst e
  clear h2 h0 h1
  go_wp2_with fail
  go_ret
  exact ⟨by first | rfl | trivial, by first | exact KW.out | exact eg0 ▸ KW.out⟩
 have q_vx := veql vx vy vx' vy' true (iff_of_true rfl h2)
 by_cases h3 : an = an'
 case neg =>
  have e : q = false := Bool.eq_false_iff.2 fun h => h3 (HR.out.1 h).2.2.2.1
  have q_an : (an == an') = false := by simpa using (show ¬ an = an' from h3)
  subst e
  clear h3 h0 h1 h2
  go_wp2_with fail
  go_ret
  exact ⟨by first | rfl | trivial, by first | exact KW.out | exact eg0 ▸ KW.out⟩
 have q_an : (an == an') = true := by simpa using (show an = an' from h3)
 by_cases h4 : sp = sp'
 case neg =>
  have e : q = false := Bool.eq_false_iff.2 fun h => h4 (HR.out.1 h).2.2.2.2.1
  have q_sp : (sp == sp') = false := by simpa using (show ¬ sp = sp' from h4)
  subst e
  clear h4 h0 h1 h2 h3
  go_wp2_with fail
  go_ret
  exact ⟨by first | rfl | trivial, by first | exact KW.out | exact eg0 ▸ KW.out⟩
 have q_sp : (sp == sp') = true := by simpa using (show sp = sp' from h4)
 by_cases h5 : de = de'
 case neg =>
  have e : q = false := Bool.eq_false_iff.2 fun h => h5 (HR.out.1 h).2.2.2.2.2.1
  have q_de : (de == de') = false := by simpa using (show ¬ de = de' from h5)
  subst e
  clear h5 h0 h1 h2 h3 h4
  go_wp2_with fail
  go_ret
  exact ⟨by first | rfl | trivial, by first | exact KW.out | exact eg0 ▸ KW.out⟩
 have q_de : (de == de') = true := by simpa using (show de = de' from h5)
 have HC := hid (shapeSame_c (c := c) (c' := c') q k r k' r' hmx (HL.out _ KW.out) (HM.out _ KW.out) (by rw [HR.out]; simp [h0, h1, h2, h3, h4, h5]))
 clear h0 h1 h2 h3 h4 h5
 go_wp2_with fail
 refine HC.out.mono ?_
 rintro e w1 ⟨rfl, k1⟩
 have K1 := hid (KW.out.then_ (k1.low KW.out.1.size))
 clear k1 a0 a1 a2 a3 a4 a5 a6 a7 a8 a9 a10 b0 b1 b2 b3 b4 b5 b6 b7 b8 b9 b10 l0 l1
 go_wp2_with fail
 go_ret
 exact ⟨by first | rfl | trivial, by first | exact K1.out | exact eg0 ▸ K1.out⟩
theorem eqf_c (g : Nat) (eg : ∀ args w, (callFunc g args).run Tryz.prog w = .ok (.enter g args) w) (p : Bd → Bd → Bool) (r : Bool) {l m : List Bd} {ao bo : Option Addr} {n c n' c' : Nat} {w : World} (hn : l.length = n) (hm : m.length = n') (hmx : n ≤ 1073741824) (hl : LsT encB 11 w ao l) (hl' : LsT encB 11 w bo m)
  (hS : ∀ x y u, x ∈ l → y ∈ m → Made w.heap.size w u → Calls Tryz.prog g #[bdV x, bdV y] u fun e v => e = .returned (.bool (p x y)) ∧ Made u.heap.size u v)
  (hr : r = true ↔ n = n' ∧ ∀ (i : Nat) x y, l[i]? = some x → m[i]? = some y → p x y = true) :
  Calls Tryz.prog 55 #[.slice ao n c, .slice bo n' c', .func (.func g) #[] #[]] w fun e v => e = .returned (.bool r) ∧ Made w.heap.size w v := by
 have HN := hid (And.intro hn hm)
 have HL := hid (fun v (k : Made w.heap.size w v) => hl.kept k)
 have HM := hid (fun v (k : Made w.heap.size w v) => hl'.kept k)
 have HS := hid hS
 have HR := hid hr
 clear hn hm hl hl' hr hS
 by_cases hnn : n = n'
 case neg =>
  have e : r = false := Bool.eq_false_iff.2 fun h => hnn (HR.out.1 h).1
  have gg : ((n : Int) != (n' : Int)) = true := by simp; omega
  subst e
  clear hnn
  go_enter Tryz.func55, Tryz.ntmps55
  go_wp2_with fail
  go_ret
  exact ⟨rfl, Made.rfl_ _ _⟩
 subst hnn
 go_enter Tryz.func55, Tryz.ntmps55
 go_wp2_with fail
 go_loopg [7, 8, 9, 17] n (fun gg s7 s8 s9 s17 wx => ∃ k : Nat, k + gg = n ∧ s17 = .int .i64 (k : Nat) ∧ Hid (Made w.heap.size w wx ∧ ∀ i x y, i < k → l[i]? = some x → m[i]? = some y → p x y = true))
 case atStart => exact ⟨0, by omega, rfl, Made.rfl_ _ _, fun i x y hi => absurd hi (Nat.not_lt_zero _)⟩
 case round =>
  obtain ⟨k, hk, rfl, HB⟩ := hrel
  by_cases hlt : k < n
  ·obtain ⟨x, ex⟩ : ∃ a, l[k]? = some a := ⟨_, List.getElem?_eq_getElem (by rw [HN.out.1]; exact hlt)⟩
   obtain ⟨y, ey⟩ : ∃ a, m[k]? = some a := ⟨_, List.getElem?_eq_getElem (by rw [HN.out.2]; exact hlt)⟩
   obtain ⟨bx, ox, rfl, hbx, hLx⟩ := (HL.out _ HB.out.1) (by rw [HN.out.1]; omega)
   have px := (hLx k _ ex).b11
   have HC := hid (fun u ku => HS.out x y u (List.mem_of_getElem? ex) (List.mem_of_getElem? ey) ku)
   obtain ⟨q, eq⟩ : ∃ q, p x y = q := ⟨_, rfl⟩
   rw [eq] at HC
   have EX := hid ex
   have EY := hid ey
   have EQ := hid eq
   clear ex hLx eq
   obtain ⟨x0, x1, x2, x3, x4, x5, x6, x7, x8, x9, x10, x11, x12, xf⟩ := x
   obtain ⟨p0, p1, p2, p3, p4, p5, p6, p7, p8, p9, p10⟩ := px
   simp only [] at p0 p1 p2 p3 p4 p5 p6 p7 p8 p9 p10
   obtain ⟨W5, eW5⟩ : ∃ V, V = wr.alloc (.cells #[.int .i64 x0, .int .i64 x1, .int .i64 x2, .int .i64 x3, .int .i64 x4, .int .i64 x5, .int .i64 x6, .int .i64 x7, .int .i64 x8, .int .i64 x9, .slice x10 x11 x12] 35) := ⟨_, rfl⟩
   have kk5 : Made wr.heap.size wr W5 := by rw [eW5]; exact (Made.rfl_ _ _).cells (Nat.le_refl _) _ _
   have HX5 : Hid (Has W5 wr.heap.size 35 #[.int .i64 x0, .int .i64 x1, .int .i64 x2, .int .i64 x3, .int .i64 x4, .int .i64 x5, .int .i64 x6, .int .i64 x7, .int .i64 x8, .int .i64 x9, .slice x10 x11 x12]) := by unfold Hid; rw [eW5]; exact has_new _ _ _
   have K5 := hid (HB.out.1.then_ (kk5.low HB.out.1.1.size))
   obtain ⟨gx, egx⟩ : ∃ g, wr.heap.size = g := ⟨_, rfl⟩
   rw [egx] at HX5
   clear kk5
   go_upto_region 6 with fail
   rw [← eW5]
   clear eW5 p0 p1 p2 p3 p4 p5 p6 p7 p8 p9 p10 hbx
   try rw [egx]
   clear egx
   obtain ⟨by', oy, rfl, hby, hLy⟩ := (HM.out _ K5.out) (by rw [HN.out.2]; omega)
   have py := (hLy k _ ey).b11
   clear ey hLy
   obtain ⟨y0, y1, y2, y3, y4, y5, y6, y7, y8, y9, y10, y11, y12, yf⟩ := y
   obtain ⟨q0, q1, q2, q3, q4, q5, q6, q7, q8, q9, q10⟩ := py
   simp only [] at q0 q1 q2 q3 q4 q5 q6 q7 q8 q9 q10
   obtain ⟨W6, eW6⟩ : ∃ V, V = W5.alloc (.cells #[.int .i64 y0, .int .i64 y1, .int .i64 y2, .int .i64 y3, .int .i64 y4, .int .i64 y5, .int .i64 y6, .int .i64 y7, .int .i64 y8, .int .i64 y9, .slice y10 y11 y12] 35) := ⟨_, rfl⟩
   have kk6 : Made W5.heap.size W5 W6 := by rw [eW6]; exact (Made.rfl_ _ _).cells (Nat.le_refl _) _ _
   have HY6 : Hid (Has W6 W5.heap.size 35 #[.int .i64 y0, .int .i64 y1, .int .i64 y2, .int .i64 y3, .int .i64 y4, .int .i64 y5, .int .i64 y6, .int .i64 y7, .int .i64 y8, .int .i64 y9, .slice y10 y11 y12]) := by unfold Hid; rw [eW6]; exact has_new _ _ _
   have HX6 := hid (HX5.out.stays kk6 HX5.out.here)
   have K6 := hid (K5.out.then_ (kk6.low K5.out.1.size))
   obtain ⟨gy, egy⟩ : ∃ g, W5.heap.size = g := ⟨_, rfl⟩
   rw [egy] at HY6
   clear kk6
   go_upto_region 7 with fail
   rw [← eW6]
   clear eW6 q0 q1 q2 q3 q4 q5 q6 q7 q8 q9 q10 hby HX5
   try rw [egy]
   clear egy
   have p0 := HX6.out.at_ 0
   have p1 := HX6.out.at_ 1
   have p2 := HX6.out.at_ 2
   have p3 := HX6.out.at_ 3
   have p4 := HX6.out.at_ 4
   have p5 := HX6.out.at_ 5
   have p6 := HX6.out.at_ 6
   have p7 := HX6.out.at_ 7
   have p8 := HX6.out.at_ 8
   have p9 := HX6.out.at_ 9
   have p10 := HX6.out.at_ 10
   simp at p0 p1 p2 p3 p4 p5 p6 p7 p8 p9 p10
   have lx : gx < W6.heap.size := HX6.out.here
   have q0 := HY6.out.at_ 0
   have q1 := HY6.out.at_ 1
   have q2 := HY6.out.at_ 2
   have q3 := HY6.out.at_ 3
   have q4 := HY6.out.at_ 4
   have q5 := HY6.out.at_ 5
   have q6 := HY6.out.at_ 6
   have q7 := HY6.out.at_ 7
   have q8 := HY6.out.at_ 8
   have q9 := HY6.out.at_ 9
   have q10 := HY6.out.at_ 10
   simp at q0 q1 q2 q3 q4 q5 q6 q7 q8 q9 q10
   have ly : gy < W6.heap.size := HY6.out.here
   have hcall := HC.out _ K6.out
   cases q with
   | false =>
    have e : r = false := Bool.eq_false_iff.2 fun h => by
     have h1 := (HR.out.1 h).2 k _ _ EX.out EY.out
     have h2 := EQ.out
     rw [h1] at h2
     cases h2
    subst e
    go_wp2_with (go_at_fn g; refine hcall.mono ?_; rintro e w' ⟨rfl, k1⟩; have K7 := hid (K6.out.then_ (k1.low K6.out.1.size)); clear k1)
    go_ret
    exact ⟨rfl, K7.out⟩
   | true =>
    go_wp2_with (go_at_fn g; refine hcall.mono ?_; rintro e w' ⟨rfl, k1⟩; have K7 := hid (K6.out.then_ (k1.low K6.out.1.size)); clear k1)
    go_roundg (n - (k + 1))
    case measure => omega
    case rel =>
     refine ⟨k + 1, by omega, by go_num, K7.out, fun i a b hi ha hb => ?_⟩
     rcases Nat.lt_or_ge i k with h | h
     ·exact HB.out.2 i a b h ha hb
     ·have e : i = k := by omega
      rw [e, EX.out] at ha
      rw [e, EY.out] at hb
      cases ha; cases hb
      exact EQ.out
  ·have ek : k = n := by omega
   subst ek
   have h2 : ∀ (i : Nat) x y, l[i]? = some x → m[i]? = some y → p x y = true := fun i x y hx hy => HB.out.2 i x y (by have := (List.getElem?_eq_some_iff.1 hx).1; have := HN.out.1; omega) hx hy
   have e : r = true := HR.out.2 (by first | exact ⟨rfl, h2⟩ | exact ⟨trivial, h2⟩)
   clear h2
   subst e
   go_wp2_with fail
   go_ret
   exact ⟨rfl, HB.out.1⟩
def EqBs (B B' : List Bd) : Prop := B.length = B'.length ∧ ∀ (i : Nat) x y, B[i]? = some x → B'[i]? = some y → EqB x y
theorem wsame_c (q : Bool) (tk nb nj gx gy tk' nb' nj' gx' gy' : Int) (ob oj oc ob' oj' oc' : Option Addr) (nB cb nJ cj nC cc nB' cb' nJ' cj' nC' cc' : Nat) {B B' : List Bd} {J J' : List Jt} {C C' : List Ct} {w : World} (hW : WdAt w ob B oj J oc C) (hW' : WdAt w ob' B' oj' J' oc' C')
  (hn : B.length = nB ∧ J.length = nJ ∧ C.length = nC) (hn' : B'.length = nB' ∧ J'.length = nJ' ∧ C'.length = nC') (hmx : nB ≤ 1073741824 ∧ nJ ≤ 1073741824 ∧ nC ≤ 1073741824) (h8 : ∀ b ∈ B, b.n ≤ 1073741824)
  (hr : q = true ↔ tk = tk' ∧ nb = nb' ∧ nj = nj' ∧ (gx = gx' ∧ gy = gy') ∧ EqBs B B' ∧ J = J' ∧ C = C') :
  Calls Tryz.prog 18 #[wdV tk nb nj gx gy (.slice ob nB cb) (.slice oj nJ cj) (.slice oc nC cc), wdV tk' nb' nj' gx' gy' (.slice ob' nB' cb') (.slice oj' nJ' cj') (.slice oc' nC' cc')] w fun e v => e = .returned (.bool q) ∧ Made w.heap.size w v := by
 have HWa := hid (fun v (k : Made w.heap.size w v) => hW.kept k)
 have HWb := hid (fun v (k : Made w.heap.size w v) => hW'.kept k)
 have HN := hid (And.intro hn hn')
 have HMx := hid hmx
 have H8 := hid h8
 have HR := hid hr
 clear hW hW' hn hn' hmx h8 hr
 obtain ⟨W, eW⟩ : ∃ W, W = (w.alloc (.cells #[.int .i64 tk, .int .i64 nb, .int .i64 nj, .int .i64 gx, .int .i64 gy, .slice ob nB cb, .slice oj nJ cj, .slice oc nC cc] 56)).alloc (.cells #[.int .i64 tk', .int .i64 nb', .int .i64 nj', .int .i64 gx', .int .i64 gy', .slice ob' nB' cb', .slice oj' nJ' cj', .slice oc' nC' cc'] 56) := ⟨_, rfl⟩
 have KW : Hid (Made w.heap.size w W) := by unfold Hid; rw [eW]; exact ((Made.rfl_ _ _).cells (Nat.le_refl _) _ _).cells (by simp) _ _
 have HA : Hid (Has W w.heap.size 56 #[.int .i64 tk, .int .i64 nb, .int .i64 nj, .int .i64 gx, .int .i64 gy, .slice ob nB cb, .slice oj nJ cj, .slice oc nC cc]) := by unfold Hid; rw [eW]; exact (has_new _ _ _).more _
 have HB : Hid (Has W (w.heap.size + 1) 56 #[.int .i64 tk', .int .i64 nb', .int .i64 nj', .int .i64 gx', .int .i64 gy', .slice ob' nB' cb', .slice oj' nJ' cj', .slice oc' nC' cc']) := by unfold Hid; rw [eW]; exact has_nxt' _ _ _ _
 obtain ⟨g0, eg0⟩ : ∃ g, w.heap.size = g := ⟨_, rfl⟩
 obtain ⟨g1, eg1⟩ : ∃ g, g0 + 1 = g := ⟨_, rfl⟩
 rw [eg0] at HA
 rw [eg0, eg1] at HB
 have a0 := HA.out.at_ 0
 have a1 := HA.out.at_ 1
 have a2 := HA.out.at_ 2
 have a3 := HA.out.at_ 3
 have a4 := HA.out.at_ 4
 have a5 := HA.out.at_ 5
 have a6 := HA.out.at_ 6
 have a7 := HA.out.at_ 7
 simp at a0 a1 a2 a3 a4 a5 a6 a7
 have b0 := HB.out.at_ 0
 have b1 := HB.out.at_ 1
 have b2 := HB.out.at_ 2
 have b3 := HB.out.at_ 3
 have b4 := HB.out.at_ 4
 have b5 := HB.out.at_ 5
 have b6 := HB.out.at_ 6
 have b7 := HB.out.at_ 7
 simp at b0 b1 b2 b3 b4 b5 b6 b7
 have l0 : g0 < W.heap.size := HA.out.here
 have l1 : g1 < W.heap.size := HB.out.here
 go_enter Tryz.func18, Tryz.ntmps18
 go_upto_region 1 with fail
 rw [← eW]
 clear eW
 try rw [eg0]
 try rw [eg1]
 by_cases h0 : tk = tk'
 case neg =>
  have e : q = false := Bool.eq_false_iff.2 fun h => h0 (HR.out.1 h).1
  have q_tk : (tk == tk') = false := by simpa using (show ¬ tk = tk' from h0)
  subst e
  clear h0
  go_wp2_with fail
  go_ret
  exact ⟨by first | rfl | trivial, by first | exact KW.out | exact eg0 ▸ KW.out⟩
 have q_tk : (tk == tk') = true := by simpa using (show tk = tk' from h0)
 by_cases h1 : nb = nb'
 case neg =>
  have e : q = false := Bool.eq_false_iff.2 fun h => h1 (HR.out.1 h).2.1
  have q_nb : (nb == nb') = false := by simpa using (show ¬ nb = nb' from h1)
  subst e
  clear h1 h0
  go_wp2_with fail
  go_ret
  exact ⟨by first | rfl | trivial, by first | exact KW.out | exact eg0 ▸ KW.out⟩
 have q_nb : (nb == nb') = true := by simpa using (show nb = nb' from h1)
 by_cases h2 : nj = nj'
 case neg =>
  have e : q = false := Bool.eq_false_iff.2 fun h => h2 (HR.out.1 h).2.2.1
  have q_nj : (nj == nj') = false := by simpa using (show ¬ nj = nj' from h2)
  subst e
  clear h2 h0 h1
  go_wp2_with fail
  go_ret
  exact ⟨by first | rfl | trivial, by first | exact KW.out | exact eg0 ▸ KW.out⟩
 have q_nj : (nj == nj') = true := by simpa using (show nj = nj' from h2)
 by_cases h3 : gx = gx' ∧ gy = gy'
 case neg =>
  have e : q = false := Bool.eq_false_iff.2 fun h => h3 (HR.out.1 h).2.2.2.1
  have q_g := veql gx gy gx' gy' false (iff_of_false (by simp) h3)
  subst e
  clear h3 h0 h1 h2
  go_wp2_with fail
  go_ret
  exact ⟨by first | rfl | trivial, by first | exact KW.out | exact eg0 ▸ KW.out⟩
 have q_g := veql gx gy gx' gy' true (iff_of_true rfl h3)
 have HR2 : Hid (q = true ↔ EqBs B B' ∧ J = J' ∧ C = C') := by unfold Hid; rw [HR.out]; simp [h0, h1, h2, h3]
 clear h0 h1 h2 h3 HR
 obtain ⟨c1, hc1⟩ := a_bool (EqBs B B')
 obtain ⟨c2, hc2⟩ := a_bool (J = J')
 obtain ⟨c3, hc3⟩ := a_bool (C = C')
 have hdec : ∀ x y : Bd, ∃ t : Bool, t = true ↔ EqB x y := fun x y => a_bool _
 let p : Bd → Bd → Bool := fun x y => Classical.choose (hdec x y)
 have hp : ∀ x y, p x y = true ↔ EqB x y := fun x y => Classical.choose_spec (hdec x y)
 obtain ⟨p', ep⟩ : ∃ p', p' = p := ⟨_, rfl⟩
 rw [← ep] at hp
 clear ep
 clear p
 have HC1 := hid (fun v (k : Made w.heap.size w v) => eqf_c 56 (by intro args w; rfl) p' c1 (c := cb) (c' := cb') HN.out.1.1 HN.out.2.1 HMx.out.1 (HWa.out v k).lB (HWb.out v k).lB
  (fun x y u hx hy ku => sameBody_c (p' x y) x y (H8.out x hx) ((HWa.out u (k.then_ (ku.low k.1.size))).sB x hx).1 ((HWb.out u (k.then_ (ku.low k.1.size))).sB y hy).1 (hp x y))
  (by rw [hc1]; unfold EqBs; rw [HN.out.1.1, HN.out.2.1]; constructor <;> rintro ⟨e1, e2⟩ <;> refine ⟨e1, fun i x y hx hy => ?_⟩ <;> have := e2 i x y hx hy <;> simpa [hp] using this))
 have HC2 := hid (fun v (k : Made w.heap.size w v) => equalJ_c c2 (c := cj) (c' := cj') HN.out.1.2.1 HN.out.2.2.1 HMx.out.2.1 (HWa.out v k).lJ (HWb.out v k).lJ hc2)
 have HC3 := hid (fun v (k : Made w.heap.size w v) => equalC_c c3 (c := cc) (c' := cc') HN.out.1.2.2 HN.out.2.2.2 HMx.out.2.2 (HWa.out v k).lC (HWb.out v k).lC hc3)
 have HQ : Hid (q = true ↔ c1 = true ∧ c2 = true ∧ c3 = true) := by unfold Hid; rw [HR2.out, hc1, hc2, hc3]
 clear HR2 hc1 hc2 hc3 hp hdec
 have HD1 := hid (HC1.out _ KW.out)
 cases c1 with
 | false =>
  have e : q = false := Bool.eq_false_iff.2 fun h => by have := HQ.out.1 h; simp at this
  subst e
  go_wp2_with fail
  refine HD1.out.mono ?_
  rintro e w1 ⟨rfl, k1⟩
  have K1 := hid (KW.out.then_ (k1.low KW.out.1.size))
  clear k1 a0 a1 a2 a3 a4 a5 a6 a7 b0 b1 b2 b3 b4 b5 b6 b7 l0 l1
  go_wp2_with fail
  go_ret
  exact ⟨by first | rfl | trivial, by first | exact K1.out | exact eg0 ▸ K1.out⟩
 | true =>
  go_wp2_with fail
  refine HD1.out.mono ?_
  rintro e w1 ⟨rfl, k1⟩
  have K1 := hid (KW.out.then_ (k1.low KW.out.1.size))
  have HA1 := hid (HA.out.stays k1 HA.out.here)
  have HB1 := hid (HB.out.stays k1 HB.out.here)
  clear k1 a0 a1 a2 a3 a4 a5 a6 a7 b0 b1 b2 b3 b4 b5 b6 b7 l0 l1 HA HB
  have a0 := HA1.out.at_ 0
  have a1 := HA1.out.at_ 1
  have a2 := HA1.out.at_ 2
  have a3 := HA1.out.at_ 3
  have a4 := HA1.out.at_ 4
  have a5 := HA1.out.at_ 5
  have a6 := HA1.out.at_ 6
  have a7 := HA1.out.at_ 7
  simp at a0 a1 a2 a3 a4 a5 a6 a7
  have b0 := HB1.out.at_ 0
  have b1 := HB1.out.at_ 1
  have b2 := HB1.out.at_ 2
  have b3 := HB1.out.at_ 3
  have b4 := HB1.out.at_ 4
  have b5 := HB1.out.at_ 5
  have b6 := HB1.out.at_ 6
  have b7 := HB1.out.at_ 7
  simp at b0 b1 b2 b3 b4 b5 b6 b7
  have l0 : g0 < w1.heap.size := HA1.out.here
  have l1 : g1 < w1.heap.size := HB1.out.here
  have HD2 := hid (HC2.out _ K1.out)
  cases c2 with
  | false =>
   have e : q = false := Bool.eq_false_iff.2 fun h => by have := HQ.out.1 h; simp at this
   subst e
   go_wp2_with fail
   refine HD2.out.mono ?_
   rintro e w2 ⟨rfl, k1⟩
   have K2 := hid (K1.out.then_ (k1.low K1.out.1.size))
   clear k1 a0 a1 a2 a3 a4 a5 a6 a7 b0 b1 b2 b3 b4 b5 b6 b7 l0 l1
   go_wp2_with fail
   go_ret
   exact ⟨by first | rfl | trivial, by first | exact K2.out | exact eg0 ▸ K2.out⟩
  | true =>
   go_wp2_with fail
   refine HD2.out.mono ?_
   rintro e w2 ⟨rfl, k1⟩
   have K2 := hid (K1.out.then_ (k1.low K1.out.1.size))
   have HA2 := hid (HA1.out.stays k1 HA1.out.here)
   have HB2 := hid (HB1.out.stays k1 HB1.out.here)
   clear k1 a0 a1 a2 a3 a4 a5 a6 a7 b0 b1 b2 b3 b4 b5 b6 b7 l0 l1 HA1 HB1
   have a0 := HA2.out.at_ 0
   have a1 := HA2.out.at_ 1
   have a2 := HA2.out.at_ 2
   have a3 := HA2.out.at_ 3
   have a4 := HA2.out.at_ 4
   have a5 := HA2.out.at_ 5
   have a6 := HA2.out.at_ 6
   have a7 := HA2.out.at_ 7
   simp at a0 a1 a2 a3 a4 a5 a6 a7
   have b0 := HB2.out.at_ 0
   have b1 := HB2.out.at_ 1
   have b2 := HB2.out.at_ 2
   have b3 := HB2.out.at_ 3
   have b4 := HB2.out.at_ 4
   have b5 := HB2.out.at_ 5
   have b6 := HB2.out.at_ 6
   have b7 := HB2.out.at_ 7
   simp at b0 b1 b2 b3 b4 b5 b6 b7
   have l0 : g0 < w2.heap.size := HA2.out.here
   have l1 : g1 < w2.heap.size := HB2.out.here
   have HD3 := hid (HC3.out _ K2.out)
   have e : q = c3 := by
    have h := HQ.out
    cases q <;> cases c3 <;> simp at h ⊢
   subst e
   go_wp2_with fail
   refine HD3.out.mono ?_
   rintro e w3 ⟨rfl, k1⟩
   have K3 := hid (K2.out.then_ (k1.low K2.out.1.size))
   clear k1 a0 a1 a2 a3 a4 a5 a6 a7 b0 b1 b2 b3 b4 b5 b6 b7 l0 l1
   go_wp2_with fail
   go_ret
   exact ⟨by first | rfl | trivial, by first | exact K3.out | exact eg0 ▸ K3.out⟩
end Go.Proofs.YtgdcphmmehedoaaGreat.Fx
/- The statements' own in, may, joins; world.New. -/
namespace Go.Proofs.YtgdcphmmehedoaaGreat.Fx
open Go.ChangeShapes Go.WideShapes Go.ChangeAt Go.RowKit
set_option linter.unusedVariables false
abbrev wd0 : Value := .agg #[.int .i64 0, .int .i64 1, .int .i64 1, .int .i64 0, .int .i64 0, .slice none 0 0, .slice none 0 0, .slice none 0 0]
theorem new_c (w : World) : Calls Tryz.prog 22 #[] w fun e v => e = .returned wd0 ∧ Made w.heap.size w v := by
 go_enter Tryz.func22, Tryz.ntmps22
 go_wp2_with fail
 obtain ⟨W, eW⟩ : ∃ W, W = (w.alloc (.cells #[.int .i64 0, .int .i64 1, .int .i64 1, .int .i64 0, .int .i64 0, .slice none 0 0, .slice none 0 0, .slice none 0 0] 56)) := ⟨_, rfl⟩
 refine bodyPost_ret (v := wd0) (by simp [results, Tryz.results22, go_sem]) rfl ⟨rfl, ?_⟩
 exact (Made.rfl_ _ _).cells (Nat.le_refl _) _ _
end Go.Proofs.YtgdcphmmehedoaaGreat.Fx
/- The middle lies between corners of a shape: so some corner is on either side of each line through it. No Go in sight. -/
namespace Go.Proofs.YtgdcphmmehedoaaGreat.Fx
set_option linter.unusedVariables false
def Mid (x y : Nat → Int) (n : Nat) : Prop := ∃ (i j l : Nat) (a b c : Int), i < n ∧ j < n ∧ l < n ∧ 0 ≤ a ∧ 0 ≤ b ∧ 0 ≤ c ∧ 0 < a + b + c ∧ a * x i + b * x j + c * x l = 0 ∧ a * y i + b * y j + c * y l = 0
theorem box_mid (a b : Int) : Mid (boxX a) (boxY b) 4 :=
 ⟨0, 2, 2, 1, 1, 0, by omega, by omega, by omega, by omega, by omega, by omega, by omega, by unfold boxX; simp; omega, by unfold boxY; simp; omega⟩
def midOk (n t : Nat) : Bool := (List.range n).any fun i => (List.range n).any fun j => (List.range n).any fun l =>
 let a := ringX n t j * ringY n t l - ringY n t j * ringX n t l
 let b := ringX n t l * ringY n t i - ringY n t l * ringX n t i
 let c := ringX n t i * ringY n t j - ringY n t i * ringX n t j
 decide (0 ≤ a) && decide (0 ≤ b) && decide (0 ≤ c) && decide (0 < a + b + c) && decide (a * ringX n t i + b * ringX n t j + c * ringX n t l = 0) && decide (a * ringY n t i + b * ringY n t j + c * ringY n t l = 0)
theorem mid_check : (List.range 6).all (fun n => (List.range 10).all fun t => midOk (3 + n) t) = true := by decide +kernel
theorem ring_mid {n : Nat} (t : Nat) (n0 : 3 ≤ n) (n1 : n ≤ 8) : Mid (ringX n t) (ringY n t) n := by
 have h := mid_check
 rw [List.all_eq_true] at h
 have h1 := h (n - 3) (List.mem_range.2 (by omega))
 rw [List.all_eq_true] at h1
 have h2 := h1 (t % 10) (List.mem_range.2 (Nat.mod_lt _ (by omega)))
 rw [show 3 + (n - 3) = n by omega] at h2
 rw [(ring_mod n t).1, (ring_mod n t).2]
 unfold midOk at h2
 simp only [List.any_eq_true, List.mem_range, Bool.and_eq_true, decide_eq_true_eq] at h2
 obtain ⟨i, hi, j, hj, l, hl, ⟨⟨⟨⟨h3, h4⟩, h5⟩, h6⟩, h7⟩, h8⟩ := h2
 exact ⟨i, j, l, _, _, _, hi, hj, hl, h3, h4, h5, h6, h7, h8⟩
def ab (z : Int) : Int := if z < 0 then -z else z
def Fat (x y : Nat → Int) (n : Nat) : Prop := ∀ i, i < n →
 (ab (x ((i + 1) % n) - x i) + ab (y ((i + 1) % n) - y i)) * (ab (x ((i + 2) % n) - x ((i + 1) % n)) + ab (y ((i + 2) % n) - y ((i + 1) % n))) ≤
 4 * ((x ((i + 1) % n) - x i) * (y ((i + 2) % n) - y ((i + 1) % n)) - (y ((i + 1) % n) - y i) * (x ((i + 2) % n) - x ((i + 1) % n)))
theorem box_fat {a b : Int} (a0 : 1 ≤ a) (b0 : 1 ≤ b) : Fat (boxX a) (boxY b) 4 := fun i hi => by
 have p := Int.mul_pos (show 0 < a by omega) (show 0 < b by omega)
 have h1 : ab (a - -a) = 2 * a := by unfold ab; split <;> omega
 have h2 : ab (b - -b) = 2 * b := by unfold ab; split <;> omega
 have h3 : ab (-a - a) = 2 * a := by unfold ab; split <;> omega
 have h4 : ab (-b - b) = 2 * b := by unfold ab; split <;> omega
 have z : ab 0 = 0 := rfl
 rcases (show i = 0 ∨ i = 1 ∨ i = 2 ∨ i = 3 by omega) with rfl | rfl | rfl | rfl <;>
  (simp only [boxX, boxY, true_or, or_true, if_true, if_false, Nat.reduceAdd, Nat.reduceMod, Nat.reduceEqDiff, or_self, Int.sub_self, h1, h2, h3, h4, z]; grind)
def fatOk (n t : Nat) : Bool := (List.range n).all fun i => decide (
 (ab (ringX n t ((i + 1) % n) - ringX n t i) + ab (ringY n t ((i + 1) % n) - ringY n t i)) * (ab (ringX n t ((i + 2) % n) - ringX n t ((i + 1) % n)) + ab (ringY n t ((i + 2) % n) - ringY n t ((i + 1) % n))) ≤
 4 * ((ringX n t ((i + 1) % n) - ringX n t i) * (ringY n t ((i + 2) % n) - ringY n t ((i + 1) % n)) - (ringY n t ((i + 1) % n) - ringY n t i) * (ringX n t ((i + 2) % n) - ringX n t ((i + 1) % n))))
theorem fat_check : (List.range 6).all (fun n => (List.range 10).all fun t => fatOk (3 + n) t) = true := by decide +kernel
theorem ring_fat {n : Nat} (t : Nat) (n0 : 3 ≤ n) (n1 : n ≤ 8) : Fat (ringX n t) (ringY n t) n := fun i hi => by
 have h := fat_check
 rw [List.all_eq_true] at h
 have h1 := h (n - 3) (List.mem_range.2 (by omega))
 rw [List.all_eq_true] at h1
 have h2 := h1 (t % 10) (List.mem_range.2 (Nat.mod_lt _ (by omega)))
 rw [show 3 + (n - 3) = n by omega] at h2
 unfold fatOk at h2
 rw [List.all_eq_true] at h2
 rw [(ring_mod n t).1, (ring_mod n t).2]
 have h3 := h2 i (List.mem_range.2 hi)
 exact of_decide_eq_true h3
def Around (x y : Nat → Int) (n : Nat) : Prop := Round x y n ∧ Mid x y n ∧ Fat x y n
end Go.Proofs.YtgdcphmmehedoaaGreat.Fx