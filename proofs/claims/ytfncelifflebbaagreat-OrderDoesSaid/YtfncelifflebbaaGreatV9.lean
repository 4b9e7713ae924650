/- WoC -/
import Derived.Test.YtfncelifflebbaaGreatV8

/- Contacts compared, found, in order. -/

namespace Go.Proofs.YtfncelifflebbaaGreat.Fx
open Go.ChangeShapes Go.WideShapes Go.ChangeAt Go.RowKit
set_option linter.unusedVariables false

def cmpC (x y : Ct) : Int := if cmpG x.a y.a ≠ 0 then cmpG x.a y.a else if cmpG x.b y.b ≠ 0 then cmpG x.b y.b else cmpG x.key y.key
theorem cmpC_neg (x y : Ct) : cmpC x y < 0 ↔ LtC x y := by
  have h1 := cmpG_neg x.a y.a; have h2 := cmpG_neg x.b y.b; have h3 := cmpG_neg x.key y.key
  have g1 := cmpG_zero x.a y.a; have g2 := cmpG_zero x.b y.b
  unfold cmpC LtC
  (repeat' split) <;> omega
set_option maxRecDepth 100000 in
set_option maxHeartbeats 4000000 in
theorem cor_c (f : Nat → Int) (b : Nat) (w : World) (h : ∀ i, i < 3 → w.cell? ⟨b, i, none⟩ = some (.int .i64 (f i))) :
    Calls Tryz.prog 138 #[.slice (some ⟨b, 0, none⟩) 3 3] w fun e v => ∃ r, e = .returned (.int .i64 r) ∧ v = w ∧ ((∃ k, k < 3 ∧ f k = r ∧ r ≠ 0 ∧ ∀ j, j < k → f j = 0) ∨ (r = 0 ∧ ∀ j, j < 3 → f j = 0)) := by
  have HH := hid h
  clear h
  go_enter Tryz.func138, Tryz.ntmps138
  go_wp2_with fail
  go_loopg [5, 8] 3 (fun gg s5 s8 wx => ∃ k : Nat, k + gg = 3 ∧ s8 = .int .i64 (k : Nat) ∧ wx = w ∧ Hid (∀ j, j < k → f j = 0))
  case atStart => exact ⟨0, by omega, rfl, rfl, fun j hj => absurd hj (Nat.not_lt_zero _)⟩
  case round =>
    obtain ⟨k, hk, rfl, rfl, HB⟩ := hrel
    by_cases hlt : k < 3
    · obtain ⟨z, ez⟩ : ∃ z, f k = z := ⟨_, rfl⟩
      have a0 := HH.out k hlt
      rw [ez] at a0
      have EZ := hid ez
      clear ez
      by_cases hz : z = 0
      · have q : (z != 0) = false := by simp [hz]
        have HZ := hid hz
        clear hz
        go_wp2_with fail
        go_roundg (3 - (k + 1))
        case measure => omega
        case rel =>
          refine ⟨k + 1, by omega, by go_num, rfl, fun j hj => ?_⟩
          by_cases e : j = k
          · subst e; exact EZ.out.trans HZ.out
          · exact HB.out j (by omega)
      · have q : (z != 0) = true := by simpa using hz
        have HZ := hid hz
        clear hz
        go_wp2_with fail
        go_ret
        exact ⟨_, rfl, rfl, .inl ⟨k, hlt, EZ.out, HZ.out, HB.out⟩⟩
    · go_wp2_with fail
      go_ret
      have e : k = 3 := by omega
      subst e
      exact ⟨_, rfl, rfl, .inr ⟨rfl, HB.out⟩⟩
theorem cmpW_s (a b r : Int) (w : World) (h : cmpG a b = r) : Calls Tryz.prog 93 #[.int .i64 a, .int .i64 b] w fun e w' => e = .returned (.int .i64 r) ∧ w = w' := by
  subst h
  exact (cmpW_c a b w).mono fun _ _ ⟨x, y⟩ => ⟨x, y.symm⟩
set_option maxRecDepth 100000 in
set_option maxHeartbeats 4000000 in
theorem compareC_c (x y : Ct) (w : World) : Calls Tryz.prog 112 #[ctV x, ctV y] w fun e v => e = .returned (.int .i64 (cmpC x y)) ∧ Made w.heap.size w v := by
  have HC : Hid (∀ r, ((∃ k, k < 3 ∧ (fun i => if i = 0 then cmpG x.a y.a else if i = 1 then cmpG x.b y.b else cmpG x.key y.key) k = r ∧ r ≠ 0 ∧ ∀ j, j < k → (fun i => if i = 0 then cmpG x.a y.a else if i = 1 then cmpG x.b y.b else cmpG x.key y.key) j = 0) ∨ (r = 0 ∧ ∀ j, j < 3 → (fun i => if i = 0 then cmpG x.a y.a else if i = 1 then cmpG x.b y.b else cmpG x.key y.key) j = 0)) → r = cmpC x y) := by
    intro r h
    unfold cmpC
    rcases h with ⟨k, hk, h1, h2, h3⟩ | ⟨rfl, h⟩
    · match k, hk with
      | 0, _ => simp at h1; rw [if_pos (by rw [h1]; exact h2)]; exact h1.symm
      | 1, _ =>
        have := h3 0 (by omega)
        simp at h1 this
        rw [if_neg (by rw [this]; simp), if_pos (by rw [h1]; exact h2)]; exact h1.symm
      | 2, _ =>
        have a := h3 0 (by omega)
        have b := h3 1 (by omega)
        simp at h1 a b
        rw [if_neg (by rw [a]; simp), if_neg (by rw [b]; simp)]; exact h1.symm
    · have a := h 0 (by omega)
      have b := h 1 (by omega)
      have c := h 2 (by omega)
      simp at a b c
      rw [if_neg (by rw [a]; simp), if_neg (by rw [b]; simp)]; exact c.symm
  generalize cmpC x y = R at HC ⊢
  obtain ⟨x0, x1, x2, x3, x4⟩ := x
  obtain ⟨y0, y1, y2, y3, y4⟩ := y
  simp only [] at HC ⊢
  obtain ⟨p0, e0⟩ : ∃ z, cmpG x0 y0 = z := ⟨_, rfl⟩
  obtain ⟨p1, e1⟩ : ∃ z, cmpG x1 y1 = z := ⟨_, rfl⟩
  obtain ⟨p2, e2⟩ : ∃ z, cmpG x2 y2 = z := ⟨_, rfl⟩
  rw [e0, e1, e2] at HC
  have E0 := hid e0; have E1 := hid e1; have E2 := hid e2
  clear e0 e1 e2
  go_enter Tryz.func112, Tryz.ntmps112
  go_wp2_with fail
  refine reg_made_tail 15 (by kernel_rfl) (by kernel_rfl) ?_
  intro T hT fw hf
  have a0 := Class.reads hf (p := ⟨w.heap.size, 0, none⟩) (u := .int .i64 x0) (by go_simp)
  have b0 := Class.reads hf (p := ⟨w.heap.size + 1, 0, none⟩) (u := .int .i64 y0) (by go_simp)
  have a1 := Class.reads hf (p := ⟨w.heap.size, 1, none⟩) (u := .int .i64 x1) (by go_simp)
  have b1 := Class.reads hf (p := ⟨w.heap.size + 1, 1, none⟩) (u := .int .i64 y1) (by go_simp)
  have a2 := Class.reads hf (p := ⟨w.heap.size, 2, none⟩) (u := .int .i64 x2) (by go_simp)
  have b2 := Class.reads hf (p := ⟨w.heap.size + 1, 2, none⟩) (u := .int .i64 y2) (by go_simp)
  simp only [List.take_succ_cons, List.take_zero, List.drop_succ_cons, List.drop_zero]
  repeat (go_big_quiet_step ((first
    | (go_at_call 93; with_reducible exact hf.same (cmpW_s _ _ _ _ E0.out))
    | (go_at_call 93; with_reducible exact hf.same (cmpW_s _ _ _ _ E1.out))
    | (go_at_call 93; with_reducible exact hf.same (cmpW_s _ _ _ _ E2.out)))))
  refine wpQuiet_nil ?_
  intro w3 h3
  have k3 := hf.here h3
  have K3 := hid (made_box (made_box k3))
  clear a0 a1 a2 b0 b1 b2 hf h3 k3
  go_wp2_with fail
  refine (cor_c (fun i => if i = 0 then p0 else if i = 1 then p1 else p2) w3.heap.size _ (fun i hi => by
    match i, hi with
    | 0, _ => exact (has_new _ _ _).at_ 0
    | 1, _ => exact (has_new _ _ _).at_ 1
    | 2, _ => exact (has_new _ _ _).at_ 2)).mono ?_
  rintro e w4 ⟨r, rfl, rfl, h⟩
  have e := HC.out r h
  subst e
  go_wp2_with fail
  go_ret
  exact ⟨rfl, K3.out.cells K3.out.1.size _ _⟩
set_option maxRecDepth 100000 in
set_option maxHeartbeats 4000000 in
theorem ascend_c {l : List Ct} {ao : Option Addr} {n c : Nat} {w : World} (r : Bool) (hn : l.length = n) (hmx : n ≤ 1073741824) (hl : LsT encC 5 w ao l) (hr : r = true ↔ ∀ i x y, l[i]? = some x → l[i + 1]? = some y → LtC x y) :
    Calls Tryz.prog 111 #[.slice ao n c, .func (.func 112) #[] #[]] w fun e v => e = .returned (.bool r) ∧ Made w.heap.size w v := by
  have HN := hid hn
  have HL := hid hl
  have HR := hid hr
  clear hn hl hr
  have eg : ∀ args w, (callFunc 112 args).run Tryz.prog w = .ok (.enter 112 args) w := by intro args w; rfl
  go_enter Tryz.func111, Tryz.ntmps111
  go_wp2_with fail
  go_loopg [5, 6, 9] n (fun gg s5 s6 s9 wx => ∃ k : Nat, k + gg = n ∧ s9 = .int .i64 (k : Nat) ∧ Hid (Made w.heap.size w wx ∧ ∀ i x y, i + 1 < k → l[i]? = some x → l[i + 1]? = some y → LtC x y))
  case atStart => exact ⟨0, by omega, rfl, Made.rfl_ _ _, fun i x y hi => absurd hi (by omega)⟩
  case round =>
    obtain ⟨k, hk, rfl, HB⟩ := hrel
    by_cases hlt : k < n
    · obtain ⟨y, ey⟩ : ∃ a, l[k]? = some a := ⟨_, List.getElem?_eq_getElem (by rw [HN.out]; omega)⟩
      obtain ⟨b, off, rfl, hbl, hLB⟩ := HL.out (by rw [HN.out]; omega)
      have HLB := hid (hLB.below HB.out.1.1 hbl)
      have hcells := (HLB.out k _ ey).c5
      have EY := hid ey
      clear ey hLB
      obtain ⟨y0, y1, y2, y3, y4⟩ := y
      obtain ⟨a0, a1, a2, a3, a4⟩ := hcells
      simp only [] at a0 a1 a2 a3 a4
      have hb : b < wr.heap.size := Nat.lt_of_lt_of_le hbl HB.out.1.1.size
      rcases Nat.eq_zero_or_pos k with hk0 | hk0
      · subst hk0
        simp only [Nat.zero_mul, Nat.add_zero] at a0 a1 a2 a3 a4
        go_wp2_with fail
        refine reg_made (by kernel_rfl) (by kernel_rfl) ?_
        intro T hT fw hf
        repeat (go_big_quiet_step ((fail)))
        refine wpQuiet_nil ?_
        intro w3 h3
        have k3 := hf.here h3
        go_wp2_with fail
        go_roundg (n - 1)
        case measure => omega
        case rel => exact ⟨1, by omega, by go_num, HB.out.1.then_ ((made_box k3).low HB.out.1.1.size), fun i x y hi => absurd hi (by omega)⟩
      · obtain ⟨m, em⟩ : ∃ m, k = m + 1 := ⟨k - 1, by omega⟩
        have hm1 : (k : Int) - 1 = (m : Int) := by omega
        have hkz : (0 : Int) < (k : Int) := by omega
        have hkd : decide ((0 : Int) < (k : Int)) = true := decide_eq_true hkz
        have hmn : m < n := by omega
        obtain ⟨x, ex⟩ : ∃ a, l[m]? = some a := ⟨_, List.getElem?_eq_getElem (by rw [HN.out]; omega)⟩
        have hcells := (HLB.out m _ ex).c5
        have EX := hid ex
        have hcmp := hid (fun w => compareC_c x ⟨y0, y1, y2, y3, y4⟩ w)
        have hneg := hid (cmpC_neg x ⟨y0, y1, y2, y3, y4⟩)
        clear ex
        obtain ⟨x0, x1, x2, x3, x4⟩ := x
        obtain ⟨b0, b1, b2, b3, b4⟩ := hcells
        simp only [] at b0 b1 b2 b3 b4 hcmp
        obtain ⟨z, ez⟩ : ∃ z, cmpC ⟨x0, x1, x2, x3, x4⟩ ⟨y0, y1, y2, y3, y4⟩ = z := ⟨_, rfl⟩
        rw [ez] at hcmp hneg
        have EM := hid em
        clear ez em
        go_wp2_with fail
        refine reg_made (by kernel_rfl) (by kernel_rfl) ?_
        intro T hT fw hf
        have b0 := Class.reads hf (cell_more (c := #[.int .i64 y0, .int .i64 y1, .int .i64 y2, .int .i64 y3, .int .i64 y4]) (t := 94) b0)
        have q0 := Class.reads hf (p := ⟨wr.heap.size, 0, none⟩) (u := .int .i64 y0) (by go_simp)
        have b1 := Class.reads hf (cell_more (c := #[.int .i64 y0, .int .i64 y1, .int .i64 y2, .int .i64 y3, .int .i64 y4]) (t := 94) b1)
        have q1 := Class.reads hf (p := ⟨wr.heap.size, 1, none⟩) (u := .int .i64 y1) (by go_simp)
        have b2 := Class.reads hf (cell_more (c := #[.int .i64 y0, .int .i64 y1, .int .i64 y2, .int .i64 y3, .int .i64 y4]) (t := 94) b2)
        have q2 := Class.reads hf (p := ⟨wr.heap.size, 2, none⟩) (u := .int .i64 y2) (by go_simp)
        have b3 := Class.reads hf (cell_more (c := #[.int .i64 y0, .int .i64 y1, .int .i64 y2, .int .i64 y3, .int .i64 y4]) (t := 94) b3)
        have q3 := Class.reads hf (p := ⟨wr.heap.size, 3, none⟩) (u := .int .i64 y3) (by go_simp)
        have b4 := Class.reads hf (cell_more (c := #[.int .i64 y0, .int .i64 y1, .int .i64 y2, .int .i64 y3, .int .i64 y4]) (t := 94) b4)
        have q4 := Class.reads hf (p := ⟨wr.heap.size, 4, none⟩) (u := .int .i64 y4) (by go_simp)
        repeat (go_big_quiet_step ((first | (go_at_fn 112; exact hf.made (hcmp.out _)) | (go_at_call 112; exact hf.made (hcmp.out _)))))
        refine wpQuiet_nil ?_
        intro w3 h3
        have k3 := hf.here h3
        have K3 := hid (HB.out.1.then_ ((made_box k3).low HB.out.1.1.size))
        clear a0 a1 a2 a3 a4 b0 b1 b2 b3 b4 q0 q1 q2 q3 q4 hf h3 k3
        by_cases hz : 0 ≤ z
        · go_wp2_with fail
          go_ret
          refine ⟨?_, K3.out⟩
          have : r = false := Bool.eq_false_iff.2 fun h => by
            have := HR.out.1 h m _ _ EX.out (by rw [← EM.out]; exact EY.out)
            have := hneg.out.2 this
            omega
          rw [this]; rfl
        · go_wp2_with fail
          go_roundg (n - (k + 1))
          case measure => omega
          case rel =>
            refine ⟨k + 1, by omega, by go_num, K3.out, fun i x y hi hx hy => ?_⟩
            by_cases e : i + 1 = k
            · have e2 : i = m := by have := EM.out; omega
              have h0 := EY.out
              rw [← e] at h0
              have h2 := Option.some.inj (h0.symm.trans hy)
              have h1' := EX.out
              rw [← e2] at h1'
              have h1 := Option.some.inj (h1'.symm.trans hx)
              rw [← h1, ← h2]
              exact hneg.out.1 (by omega)
            · exact HB.out.2 i x y (by omega) hx hy
    · go_wp2_with fail
      go_ret
      have e : k = n := by omega
      subst e
      have : r = true := HR.out.2 fun i x y hx hy => HB.out.2 i x y (by rw [← HN.out]; exact (List.getElem?_eq_some_iff.1 hy).1) hx hy
      exact ⟨by rw [this]; rfl, HB.out.1⟩
end Go.Proofs.YtfncelifflebbaaGreat.Fx

