/- WoC WoI WoN -/
import Derived.Test.YtgdcphmmehedoaaGreatCc3
import Derived.Test.YtgdcphmmehedoaaGreatCc8
import Derived.Deep.LoopGhost
import Derived.LoopN
import Derived.WalkMore
set_option maxRecDepth 100000
set_option maxHeartbeats 64000000
/- Contacts compared, found, in order. -/
namespace Go.Proofs.YtgdcphmmehedoaaGreat.Fx
open Go.ChangeShapes Go.WideShapes Go.ChangeAt Go.RowKit
set_option linter.unusedVariables false
def cmpC (x y : Ct) : Int := if cmpG x.a y.a ≠ 0 then cmpG x.a y.a else if cmpG x.b y.b ≠ 0 then cmpG x.b y.b else cmpG x.key y.key
theorem cmpC_neg (x y : Ct) : cmpC x y < 0 ↔ LtC x y := by
 have h1 := cmpG_neg x.a y.a; have h2 := cmpG_neg x.b y.b; have h3 := cmpG_neg x.key y.key
 have g1 := cmpG_zero x.a y.a; have g2 := cmpG_zero x.b y.b
 unfold cmpC LtC
 (repeat' split) <;> omega
theorem cor_c (f : Nat → Int) (b : Nat) (w : World) (h : ∀ i, i < 3 → w.cell? ⟨b, i, none⟩ = some (.int .i64 (f i))) :
  Calls Tryz.prog 148 #[.slice (some ⟨b, 0, none⟩) 3 3] w fun e v => ∃ r, e = .returned (.int .i64 r) ∧ v = w ∧ ((∃ k, k < 3 ∧ f k = r ∧ r ≠ 0 ∧ ∀ j, j < k → f j = 0) ∨ (r = 0 ∧ ∀ j, j < 3 → f j = 0)) := by
 have HH := hid h
 clear h
 go_enter Tryz.func148, Tryz.ntmps148
 go_wp2_with fail
 go_loopg [5, 8] 3 (fun gg s5 s8 wx => ∃ k : Nat, k + gg = 3 ∧ s8 = .int .i64 (k : Nat) ∧ wx = w ∧ Hid (∀ j, j < k → f j = 0))
 case atStart => exact ⟨0, by omega, rfl, rfl, fun j hj => absurd hj (Nat.not_lt_zero _)⟩
 case round =>
  obtain ⟨k, hk, rfl, rfl, HB⟩ := hrel
  by_cases hlt : k < 3
  ·obtain ⟨z, ez⟩ : ∃ z, f k = z := ⟨_, rfl⟩
   have a0 := HH.out k hlt
   rw [ez] at a0
   have EZ := hid ez
   clear ez
   by_cases hz : z = 0
   ·have q : (z != 0) = false := by simp [hz]
    have HZ := hid hz
    clear hz
    go_wp2_with fail
    go_roundg (3 - (k + 1))
    case measure => omega
    case rel =>
     refine ⟨k + 1, by omega, by go_num, rfl, fun j hj => ?_⟩
     by_cases e : j = k
     ·subst e; exact EZ.out.trans HZ.out
     ·exact HB.out j (by omega)
   ·have q : (z != 0) = true := by simpa using hz
    have HZ := hid hz
    clear hz
    go_wp2_with fail
    go_ret
    exact ⟨_, rfl, rfl, .inl ⟨k, hlt, EZ.out, HZ.out, HB.out⟩⟩
  ·go_wp2_with fail
   go_ret
   have e : k = 3 := by omega
   subst e
   exact ⟨_, rfl, rfl, .inr ⟨rfl, HB.out⟩⟩
theorem cmpW_s (a b r : Int) (w : World) (h : cmpG a b = r) : Calls Tryz.prog 114 #[.int .i64 a, .int .i64 b] w fun e w' => e = .returned (.int .i64 r) ∧ w = w' := by
 subst h
 exact (cmpW_c a b w).mono fun _ _ ⟨x, y⟩ => ⟨x, y.symm⟩
theorem compareC_c (x y : Ct) (w : World) : Calls Tryz.prog 127 #[ctV x, ctV y] w fun e v => e = .returned (.int .i64 (cmpC x y)) ∧ Made w.heap.size w v := by
 have HC : Hid (∀ r, ((∃ k, k < 3 ∧ (fun i => if i = 0 then cmpG x.a y.a else if i = 1 then cmpG x.b y.b else cmpG x.key y.key) k = r ∧ r ≠ 0 ∧ ∀ j, j < k → (fun i => if i = 0 then cmpG x.a y.a else if i = 1 then cmpG x.b y.b else cmpG x.key y.key) j = 0) ∨ (r = 0 ∧ ∀ j, j < 3 → (fun i => if i = 0 then cmpG x.a y.a else if i = 1 then cmpG x.b y.b else cmpG x.key y.key) j = 0)) → r = cmpC x y) := by
  intro r h
  unfold cmpC
  rcases h with ⟨k, hk, h1, h2, h3⟩ | ⟨rfl, h⟩
  ·match k, hk with
   | 0, _ => simp at h1; rw [if_pos (by rw [h1]; exact h2)]; exact h1.symm
   | 1, _ =>
    have := h3 0 (by omega)
    simp at h1 this
    rw [if_neg (by rw [this]; simp), if_pos (by rw [h1]; exact h2)]; exact h1.symm
   | 2, _ =>
    have a := h3 0 (by omega)
    have b := h3 1 (by omega)
    simp at h1 a b
    rw [if_neg (by rw [a]; simp), if_neg (by rw [b]; simp)]; exact h1.symm
  ·have a := h 0 (by omega)
   have b := h 1 (by omega)
   have c := h 2 (by omega)
   simp at a b c
   rw [if_neg (by rw [a]; simp), if_neg (by rw [b]; simp)]; exact c.symm
 generalize cmpC x y = R at HC ⊢
 obtain ⟨x0, x1, x2, x3, x4⟩ := x
 obtain ⟨y0, y1, y2, y3, y4⟩ := y
 simp only [] at HC ⊢
 obtain ⟨p0, e0⟩ : ∃ z, cmpG x0 y0 = z := ⟨_, rfl⟩
 obtain ⟨p1, e1⟩ : ∃ z, cmpG x1 y1 = z := ⟨_, rfl⟩
 obtain ⟨p2, e2⟩ : ∃ z, cmpG x2 y2 = z := ⟨_, rfl⟩
 rw [e0, e1, e2] at HC
 have E0 := hid e0; have E1 := hid e1; have E2 := hid e2
 clear e0 e1 e2
 go_enter Tryz.func127, Tryz.ntmps127
 go_wp2_with fail
 refine reg_made_tail 15 (by kernel_rfl) (by kernel_rfl) ?_
 intro T hT fw hf
 have a0 := Class.reads hf (p := ⟨w.heap.size, 0, none⟩) (u := .int .i64 x0) (by go_simp)
 have b0 := Class.reads hf (p := ⟨w.heap.size + 1, 0, none⟩) (u := .int .i64 y0) (by go_simp)
 have a1 := Class.reads hf (p := ⟨w.heap.size, 1, none⟩) (u := .int .i64 x1) (by go_simp)
 have b1 := Class.reads hf (p := ⟨w.heap.size + 1, 1, none⟩) (u := .int .i64 y1) (by go_simp)
 have a2 := Class.reads hf (p := ⟨w.heap.size, 2, none⟩) (u := .int .i64 x2) (by go_simp)
 have b2 := Class.reads hf (p := ⟨w.heap.size + 1, 2, none⟩) (u := .int .i64 y2) (by go_simp)
 simp only [List.take_succ_cons, List.take_zero, List.drop_succ_cons, List.drop_zero]
 repeat (go_big_quiet_step ((first
  | (go_at_call 114; with_reducible exact hf.same (cmpW_s _ _ _ _ E0.out))
  | (go_at_call 114; with_reducible exact hf.same (cmpW_s _ _ _ _ E1.out))
  | (go_at_call 114; with_reducible exact hf.same (cmpW_s _ _ _ _ E2.out)))))
 refine wpQuiet_nil ?_
 intro w3 h3
 have k3 := hf.here h3
 have K3 := hid (made_box (made_box k3))
 clear a0 a1 a2 b0 b1 b2 hf h3 k3
 go_wp2_with fail
 refine (cor_c (fun i => if i = 0 then p0 else if i = 1 then p1 else p2) w3.heap.size _ (fun i hi => by
  match i, hi with
  | 0, _ => exact (has_new _ _ _).at_ 0
  | 1, _ => exact (has_new _ _ _).at_ 1
  | 2, _ => exact (has_new _ _ _).at_ 2)).mono ?_
 rintro e w4 ⟨r, rfl, rfl, h⟩
 have e := HC.out r h
 subst e
 go_wp2_with fail
 go_ret
 exact ⟨rfl, K3.out.cells K3.out.1.size _ _⟩
theorem ascend_c {l : List Ct} {ao : Option Addr} {n c : Nat} {w : World} (r : Bool) (hn : l.length = n) (hmx : n ≤ 1073741824) (hl : LsT encC 5 w ao l) (hr : r = true ↔ ∀ i x y, l[i]? = some x → l[i + 1]? = some y → LtC x y) :
  Calls Tryz.prog 126 #[.slice ao n c, .func (.func 127) #[] #[]] w fun e v => e = .returned (.bool r) ∧ Made w.heap.size w v := by
 have HN := hid hn
 have HL := hid hl
 have HR := hid hr
 clear hn hl hr
 have eg : ∀ args w, (callFunc 127 args).run Tryz.prog w = .ok (.enter 127 args) w := by intro args w; rfl
 go_enter Tryz.func126, Tryz.ntmps126
 go_wp2_with fail
 go_loopg [5, 6, 9] n (fun gg s5 s6 s9 wx => ∃ k : Nat, k + gg = n ∧ s9 = .int .i64 (k : Nat) ∧ Hid (Made w.heap.size w wx ∧ ∀ i x y, i + 1 < k → l[i]? = some x → l[i + 1]? = some y → LtC x y))
 case atStart => exact ⟨0, by omega, rfl, Made.rfl_ _ _, fun i x y hi => absurd hi (by omega)⟩
 case round =>
  obtain ⟨k, hk, rfl, HB⟩ := hrel
  by_cases hlt : k < n
  ·obtain ⟨y, ey⟩ : ∃ a, l[k]? = some a := ⟨_, List.getElem?_eq_getElem (by rw [HN.out]; omega)⟩
   obtain ⟨b, off, rfl, hbl, hLB⟩ := HL.out (by rw [HN.out]; omega)
   have HLB := hid (hLB.below HB.out.1.1 hbl)
   have hcells := (HLB.out k _ ey).c5
   have EY := hid ey
   clear ey hLB
   obtain ⟨y0, y1, y2, y3, y4⟩ := y
   obtain ⟨a0, a1, a2, a3, a4⟩ := hcells
   simp only [] at a0 a1 a2 a3 a4
   have hb : b < wr.heap.size := Nat.lt_of_lt_of_le hbl HB.out.1.1.size
   rcases Nat.eq_zero_or_pos k with hk0 | hk0
   ·subst hk0
    simp only [Nat.zero_mul, Nat.add_zero] at a0 a1 a2 a3 a4
    go_wp2_with fail
    refine reg_made (by kernel_rfl) (by kernel_rfl) ?_
    intro T hT fw hf
    repeat (go_big_quiet_step ((fail)))
    refine wpQuiet_nil ?_
    intro w3 h3
    have k3 := hf.here h3
    go_wp2_with fail
    go_roundg (n - 1)
    case measure => omega
    case rel => exact ⟨1, by omega, by go_num, HB.out.1.then_ ((made_box k3).low HB.out.1.1.size), fun i x y hi => absurd hi (by omega)⟩
   ·obtain ⟨m, em⟩ : ∃ m, k = m + 1 := ⟨k - 1, by omega⟩
    have hm1 : (k : Int) - 1 = (m : Int) := by omega
    have hkz : (0 : Int) < (k : Int) := by omega
    have hkd : decide ((0 : Int) < (k : Int)) = true := decide_eq_true hkz
    have hmn : m < n := by omega
    obtain ⟨x, ex⟩ : ∃ a, l[m]? = some a := ⟨_, List.getElem?_eq_getElem (by rw [HN.out]; omega)⟩
    have hcells := (HLB.out m _ ex).c5
    have EX := hid ex
    have hcmp := hid (fun w => compareC_c x ⟨y0, y1, y2, y3, y4⟩ w)
    have hneg := hid (cmpC_neg x ⟨y0, y1, y2, y3, y4⟩)
    clear ex
    obtain ⟨x0, x1, x2, x3, x4⟩ := x
    obtain ⟨b0, b1, b2, b3, b4⟩ := hcells
    simp only [] at b0 b1 b2 b3 b4 hcmp
    obtain ⟨z, ez⟩ : ∃ z, cmpC ⟨x0, x1, x2, x3, x4⟩ ⟨y0, y1, y2, y3, y4⟩ = z := ⟨_, rfl⟩
    rw [ez] at hcmp hneg
    have EM := hid em
    clear ez em
    go_wp2_with fail
    refine reg_made (by kernel_rfl) (by kernel_rfl) ?_
    intro T hT fw hf
    have b0 := Class.reads hf (cell_more (c := #[.int .i64 y0, .int .i64 y1, .int .i64 y2, .int .i64 y3, .int .i64 y4]) (t := 105) b0)
    have q0 := Class.reads hf (p := ⟨wr.heap.size, 0, none⟩) (u := .int .i64 y0) (by go_simp)
    have b1 := Class.reads hf (cell_more (c := #[.int .i64 y0, .int .i64 y1, .int .i64 y2, .int .i64 y3, .int .i64 y4]) (t := 105) b1)
    have q1 := Class.reads hf (p := ⟨wr.heap.size, 1, none⟩) (u := .int .i64 y1) (by go_simp)
    have b2 := Class.reads hf (cell_more (c := #[.int .i64 y0, .int .i64 y1, .int .i64 y2, .int .i64 y3, .int .i64 y4]) (t := 105) b2)
    have q2 := Class.reads hf (p := ⟨wr.heap.size, 2, none⟩) (u := .int .i64 y2) (by go_simp)
    have b3 := Class.reads hf (cell_more (c := #[.int .i64 y0, .int .i64 y1, .int .i64 y2, .int .i64 y3, .int .i64 y4]) (t := 105) b3)
    have q3 := Class.reads hf (p := ⟨wr.heap.size, 3, none⟩) (u := .int .i64 y3) (by go_simp)
    have b4 := Class.reads hf (cell_more (c := #[.int .i64 y0, .int .i64 y1, .int .i64 y2, .int .i64 y3, .int .i64 y4]) (t := 105) b4)
    have q4 := Class.reads hf (p := ⟨wr.heap.size, 4, none⟩) (u := .int .i64 y4) (by go_simp)
    repeat (go_big_quiet_step ((first | (go_at_fn 127; exact hf.made (hcmp.out _)) | (go_at_call 127; exact hf.made (hcmp.out _)))))
    refine wpQuiet_nil ?_
    intro w3 h3
    have k3 := hf.here h3
    have K3 := hid (HB.out.1.then_ ((made_box k3).low HB.out.1.1.size))
    clear a0 a1 a2 a3 a4 b0 b1 b2 b3 b4 q0 q1 q2 q3 q4 hf h3 k3
    by_cases hz : 0 ≤ z
    ·go_wp2_with fail
     go_ret
     refine ⟨?_, K3.out⟩
     have : r = false := Bool.eq_false_iff.2 fun h => by
      have := HR.out.1 h m _ _ EX.out (by rw [← EM.out]; exact EY.out)
      have := hneg.out.2 this
      omega
     rw [this]; rfl
    ·go_wp2_with fail
     go_roundg (n - (k + 1))
     case measure => omega
     case rel =>
      refine ⟨k + 1, by omega, by go_num, K3.out, fun i x y hi hx hy => ?_⟩
      by_cases e : i + 1 = k
      ·have e2 : i = m := by have := EM.out; omega
       have h0 := EY.out
       rw [← e] at h0
       have h2 := Option.some.inj (h0.symm.trans hy)
       have h1' := EX.out
       rw [← e2] at h1'
       have h1 := Option.some.inj (h1'.symm.trans hx)
       rw [← h1, ← h2]
       exact hneg.out.1 (by omega)
      ·exact HB.out.2 i x y (by omega) hx hy
  ·go_wp2_with fail
   go_ret
   have e : k = n := by omega
   subst e
   have : r = true := HR.out.2 fun i x y hx hy => HB.out.2 i x y (by rw [← HN.out]; exact (List.getElem?_eq_some_iff.1 hy).1) hx hy
   exact ⟨by rw [this]; rfl, HB.out.1⟩
end Go.Proofs.YtgdcphmmehedoaaGreat.Fx
/- IndexFunc, ContainsFunc and every over bodies, joints and contacts. -/
namespace Go.Proofs.YtgdcphmmehedoaaGreat.Fx
open Go.ChangeShapes Go.WideShapes Go.ChangeAt Go.RowKit
set_option linter.unusedVariables false
theorem idxB_c (g : Nat) (lb : Array Value) (eg : ∀ args w, (callFunc g args).run Tryz.prog w = .ok (.enter g args) w) (X : Nat → Prop) (St : Nat → World → Prop) (p : Nat → Bool) {l : List Bd} {ao : Option Addr} {n c : Nat} {w : World}
  (hn : l.length = n) (hmx : n ≤ 4611686018427387904) (hl : LsT encB 11 w ao l) (hX : 0 < n → Offs X ao) (hS0 : St 0 w)
  (hS : ∀ i x u, l[i]? = some x → But X w u → St i u → Calls Tryz.prog g (#[bdV x] ++ lb) u fun e v => e = .returned (.bool (p i)) ∧ But X u v ∧ St (i + 1) v) :
  Calls Tryz.prog 132 #[.slice ao n c, .func (.func g) #[] lb] w fun e v => ∃ r : Int, e = .returned (.int .i64 r) ∧ But X w v ∧ ((r = -1 ∧ (∀ i, i < n → p i = false) ∧ St n v) ∨ ∃ i, i < n ∧ r = i ∧ p i = true ∧ (∀ j, j < i → p j = false) ∧ St (i + 1) v) := by
 have HN := hid hn
 have HL := hid hl
 have HX := hid hX
 have HS := hid hS
 have H0 := hid hS0
 clear hn hl hX hS hS0
 go_enter Tryz.func132, Tryz.ntmps132
 go_wp2_with fail
 go_loopg [5, 8] n (fun gg s5 s8 wx => ∃ k : Nat, k + gg = n ∧ s8 = .int .i64 k ∧ Hid (But X w wx ∧ St k wx ∧ ∀ j, j < k → p j = false))
 case atStart => exact ⟨0, by omega, rfl, But.rfl_ _ _, H0.out, fun j hj => absurd hj (Nat.not_lt_zero _)⟩
 case round =>
  obtain ⟨k, hk, rfl, HB⟩ := hrel
  by_cases hlt : k < n
  ·obtain ⟨a, ea⟩ : ∃ a, l[k]? = some a := ⟨_, List.getElem?_eq_getElem (by rw [HN.out]; omega)⟩
   obtain ⟨b, off, rfl, hbl, hLB⟩ := HL.out (by rw [HN.out]; omega)
   have hcall := HS.out k a wr ea HB.out.1 HB.out.2.1
   have hcells := ((hLB.but HB.out.1 (HX.out (by omega) b off _ rfl)) k _ ea).b11
   clear ea hLB
   obtain ⟨x0, x1, x2, x3, x4, x5, x6, x7, x8, x9, x10, x11, x12, x13⟩ := a
   obtain ⟨a0, a1, a2, a3, a4, a5, a6, a7, a8, a9, a10⟩ := hcells
   simp only [] at a0 a1 a2 a3 a4 a5 a6 a7 a8 a9 a10
   obtain ⟨q, eq⟩ : ∃ q, p k = q := ⟨_, rfl⟩
   rw [eq] at hcall
   have EQ := hid eq
   clear eq
   cases q with
   | true =>
    go_wp2_with (go_at_fn g; refine hcall.mono ?_; rintro e w' ⟨rfl, k1, k2⟩)
    go_ret
    exact ⟨_, rfl, HB.out.1.then_ k1, .inr ⟨k, hlt, rfl, EQ.out, HB.out.2.2, k2⟩⟩
   | false =>
    go_wp2_with (go_at_fn g; refine hcall.mono ?_; rintro e w' ⟨rfl, k1, k2⟩)
    go_roundg (n - (k + 1))
    case measure => omega
    case rel =>
     refine ⟨k + 1, by omega, by go_num, HB.out.1.then_ k1, k2, fun j hj => ?_⟩
     by_cases e : j = k
     ·subst e; exact EQ.out
     ·exact HB.out.2.2 j (by omega)
  ·go_wp2_with fail
   go_ret
   have e : k = n := by omega
   subst e
   exact ⟨_, rfl, HB.out.1, .inl ⟨rfl, HB.out.2.2, HB.out.2.1⟩⟩
theorem containsB_c (g : Nat) (lb : Array Value) (eg : ∀ args w, (callFunc g args).run Tryz.prog w = .ok (.enter g args) w) (X : Nat → Prop) (St : Nat → World → Prop) (p : Nat → Bool) {l : List Bd} {ao : Option Addr} {n c : Nat} {w : World}
  (hn : l.length = n) (hmx : n ≤ 4611686018427387904) (hl : LsT encB 11 w ao l) (hX : 0 < n → Offs X ao) (hS0 : St 0 w)
  (hS : ∀ i x u, l[i]? = some x → But X w u → St i u → Calls Tryz.prog g (#[bdV x] ++ lb) u fun e v => e = .returned (.bool (p i)) ∧ But X u v ∧ St (i + 1) v) :
  Calls Tryz.prog 140 #[.slice ao n c, .func (.func g) #[] lb] w fun e v => ∃ r, e = .returned (.bool r) ∧ But X w v ∧ ((r = false ∧ (∀ i, i < n → p i = false) ∧ St n v) ∨ (r = true ∧ ∃ i, i < n ∧ p i = true)) := by
 have HC := hid (idxB_c g lb eg X St p (c := c) hn hmx hl hX hS0 hS)
 clear hn hl hX hS hS0
 go_enter Tryz.func140, Tryz.ntmps140
 go_wp2_with fail
 refine HC.out.mono ?_
 rintro e w1 ⟨r, rfl, k1, h⟩
 rcases h with ⟨rfl, h1, h2⟩ | ⟨i, hi, rfl, h1, h2, h3⟩
 ·go_wp2_with fail
  go_ret
  exact ⟨_, rfl, k1, .inl ⟨rfl, h1, h2⟩⟩
 ·go_wp2_with fail
  go_ret
  exact ⟨_, rfl, k1, .inr ⟨by simp, i, hi, h1⟩⟩
theorem notEB_c (g : Nat) (lb : Array Value) (eg : ∀ args w, (callFunc g args).run Tryz.prog w = .ok (.enter g args) w) (X : Nat → Prop) (S : World → Prop) (q : Bool) (x : Bd) (gb : Nat) (u : World)
  (h0 : u.cell? ⟨gb, 0, none⟩ = some (.func (.func g) #[] lb))
  (H : ∀ u', Made u.heap.size u u' → Calls Tryz.prog g (#[bdV x] ++ lb) u' fun e v => e = .returned (.bool q) ∧ But X u' v ∧ S v) :
  Calls Tryz.prog 141 #[bdV x, .pointer (some ⟨gb, 0, none⟩)] u fun e v => e = .returned (.bool (!q)) ∧ But X u v ∧ S v := by
 have hlt : gb < u.heap.size := World.block_lt_of_cell? u _ h0
 have HH := hid H
 clear H
 obtain ⟨x0, x1, x2, x3, x4, x5, x6, x7, x8, x9, x10, x11, x12, x13⟩ := x
 go_enter Tryz.func141, Tryz.ntmps141
 go_wp2_with (go_at_fn g; refine (HH.out _ ((Made.rfl_ _ _).cells (Nat.le_refl _) _ _)).mono ?_; rintro e w' ⟨rfl, k1, k2⟩)
 go_ret
 exact ⟨rfl, (But.rfl_ X u).alloc _ _ |>.then_ k1, k2⟩
theorem everyB_c (g : Nat) (lb : Array Value) (eg : ∀ args w, (callFunc g args).run Tryz.prog w = .ok (.enter g args) w) (X : Nat → Prop) (St : Nat → World → Prop) (q : Nat → Bool) {l : List Bd} {ao : Option Addr} {n c : Nat} {w : World}
  (hn : l.length = n) (hmx : n ≤ 4611686018427387904) (hl : LsT encB 11 w ao l) (hX : 0 < n → Offs X ao) (hXw : ∀ b, X b → b < w.heap.size) (hSt : ∀ i u v, St i u → Made u.heap.size u v → St i v) (hS0 : St 0 w)
  (hS : ∀ i x u, l[i]? = some x → But X w u → St i u → Calls Tryz.prog g (#[bdV x] ++ lb) u fun e v => e = .returned (.bool (q i)) ∧ But X u v ∧ St (i + 1) v) :
  Calls Tryz.prog 117 #[.slice ao n c, .func (.func g) #[] lb] w fun e v => ∃ r, e = .returned (.bool r) ∧ But X w v ∧ ((r = true ∧ (∀ i, i < n → q i = true) ∧ St n v) ∨ (r = false ∧ ∃ i, i < n ∧ q i = false)) := by
 obtain ⟨W, eW⟩ : ∃ W, W = w.alloc (.cells #[.func (.func g) #[] lb] 144) := ⟨_, rfl⟩
 have kW : Made w.heap.size w W := by rw [eW]; exact (Made.rfl_ _ _).cells (Nat.le_refl _) _ _
 have c0 : W.cell? ⟨w.heap.size, 0, none⟩ = some (.func (.func g) #[] lb) := by rw [eW]; exact (has_new _ _ _).at_ 0
 have hXn : ¬ X w.heap.size := fun h => Nat.lt_irrefl _ (hXw _ h)
 have HC := hid (containsB_c 141 #[.pointer (some ⟨w.heap.size, 0, none⟩)] (by intro args w; rfl) X St (fun i => !q i) (c := c) (w := W) hn hmx (hl.below kW.1) hX (hSt _ _ _ hS0 kW)
  (fun i x u hx hB hs => notEB_c g lb eg X (St (i + 1)) (q i) x w.heap.size u (hB.cell c0 hXn) (fun u' hu => hS i x u' hx ((Made.but kW).then_ (hB.then_ (Made.but hu))) (hSt _ _ _ hs hu))))
 have KW := hid kW
 clear hn hl hX hS hS0 hSt kW c0
 go_enter Tryz.func117, Tryz.ntmps117
 go_wp2_with (rw [← eW]; refine HC.out.mono ?_; rintro e w1 ⟨r, rfl, k1, h⟩)
 go_ret
 refine ⟨_, rfl, (Made.but KW.out).then_ k1, ?_⟩
 rcases h with ⟨rfl, h1, h2⟩ | ⟨rfl, i, hi, h1⟩
 ·exact .inl ⟨rfl, fun i hi => by have := h1 i hi; simpa using this, h2⟩
 ·exact .inr ⟨rfl, i, hi, by simpa using h1⟩
theorem idxJ_c (g : Nat) (lb : Array Value) (eg : ∀ args w, (callFunc g args).run Tryz.prog w = .ok (.enter g args) w) (X : Nat → Prop) (St : Nat → World → Prop) (p : Nat → Bool) {l : List Jt} {ao : Option Addr} {n c : Nat} {w : World}
  (hn : l.length = n) (hmx : n ≤ 4611686018427387904) (hl : LsT encJ 8 w ao l) (hX : 0 < n → Offs X ao) (hS0 : St 0 w)
  (hS : ∀ i x u, l[i]? = some x → But X w u → St i u → Calls Tryz.prog g (#[jtV x] ++ lb) u fun e v => e = .returned (.bool (p i)) ∧ But X u v ∧ St (i + 1) v) :
  Calls Tryz.prog 133 #[.slice ao n c, .func (.func g) #[] lb] w fun e v => ∃ r : Int, e = .returned (.int .i64 r) ∧ But X w v ∧ ((r = -1 ∧ (∀ i, i < n → p i = false) ∧ St n v) ∨ ∃ i, i < n ∧ r = i ∧ p i = true ∧ (∀ j, j < i → p j = false) ∧ St (i + 1) v) := by
 have HN := hid hn
 have HL := hid hl
 have HX := hid hX
 have HS := hid hS
 have H0 := hid hS0
 clear hn hl hX hS hS0
 go_enter Tryz.func133, Tryz.ntmps133
 go_wp2_with fail
 go_loopg [5, 8] n (fun gg s5 s8 wx => ∃ k : Nat, k + gg = n ∧ s8 = .int .i64 k ∧ Hid (But X w wx ∧ St k wx ∧ ∀ j, j < k → p j = false))
 case atStart => exact ⟨0, by omega, rfl, But.rfl_ _ _, H0.out, fun j hj => absurd hj (Nat.not_lt_zero _)⟩
 case round =>
  obtain ⟨k, hk, rfl, HB⟩ := hrel
  by_cases hlt : k < n
  ·obtain ⟨a, ea⟩ : ∃ a, l[k]? = some a := ⟨_, List.getElem?_eq_getElem (by rw [HN.out]; omega)⟩
   obtain ⟨b, off, rfl, hbl, hLB⟩ := HL.out (by rw [HN.out]; omega)
   have hcall := HS.out k a wr ea HB.out.1 HB.out.2.1
   have hcells := ((hLB.but HB.out.1 (HX.out (by omega) b off _ rfl)) k _ ea).j8
   clear ea hLB
   obtain ⟨x0, x1, x2, x3, x4, x5, x6, x7⟩ := a
   obtain ⟨a0, a1, a2, a3, a4, a5, a6, a7⟩ := hcells
   simp only [] at a0 a1 a2 a3 a4 a5 a6 a7
   obtain ⟨q, eq⟩ : ∃ q, p k = q := ⟨_, rfl⟩
   rw [eq] at hcall
   have EQ := hid eq
   clear eq
   cases q with
   | true =>
    go_wp2_with (go_at_fn g; refine hcall.mono ?_; rintro e w' ⟨rfl, k1, k2⟩)
    go_ret
    exact ⟨_, rfl, HB.out.1.then_ k1, .inr ⟨k, hlt, rfl, EQ.out, HB.out.2.2, k2⟩⟩
   | false =>
    go_wp2_with (go_at_fn g; refine hcall.mono ?_; rintro e w' ⟨rfl, k1, k2⟩)
    go_roundg (n - (k + 1))
    case measure => omega
    case rel =>
     refine ⟨k + 1, by omega, by go_num, HB.out.1.then_ k1, k2, fun j hj => ?_⟩
     by_cases e : j = k
     ·subst e; exact EQ.out
     ·exact HB.out.2.2 j (by omega)
  ·go_wp2_with fail
   go_ret
   have e : k = n := by omega
   subst e
   exact ⟨_, rfl, HB.out.1, .inl ⟨rfl, HB.out.2.2, HB.out.2.1⟩⟩
theorem containsJ_c (g : Nat) (lb : Array Value) (eg : ∀ args w, (callFunc g args).run Tryz.prog w = .ok (.enter g args) w) (X : Nat → Prop) (St : Nat → World → Prop) (p : Nat → Bool) {l : List Jt} {ao : Option Addr} {n c : Nat} {w : World}
  (hn : l.length = n) (hmx : n ≤ 4611686018427387904) (hl : LsT encJ 8 w ao l) (hX : 0 < n → Offs X ao) (hS0 : St 0 w)
  (hS : ∀ i x u, l[i]? = some x → But X w u → St i u → Calls Tryz.prog g (#[jtV x] ++ lb) u fun e v => e = .returned (.bool (p i)) ∧ But X u v ∧ St (i + 1) v) :
  Calls Tryz.prog 143 #[.slice ao n c, .func (.func g) #[] lb] w fun e v => ∃ r, e = .returned (.bool r) ∧ But X w v ∧ ((r = false ∧ (∀ i, i < n → p i = false) ∧ St n v) ∨ (r = true ∧ ∃ i, i < n ∧ p i = true)) := by
 have HC := hid (idxJ_c g lb eg X St p (c := c) hn hmx hl hX hS0 hS)
 clear hn hl hX hS hS0
 go_enter Tryz.func143, Tryz.ntmps143
 go_wp2_with fail
 refine HC.out.mono ?_
 rintro e w1 ⟨r, rfl, k1, h⟩
 rcases h with ⟨rfl, h1, h2⟩ | ⟨i, hi, rfl, h1, h2, h3⟩
 ·go_wp2_with fail
  go_ret
  exact ⟨_, rfl, k1, .inl ⟨rfl, h1, h2⟩⟩
 ·go_wp2_with fail
  go_ret
  exact ⟨_, rfl, k1, .inr ⟨by simp, i, hi, h1⟩⟩
theorem notEJ_c (g : Nat) (lb : Array Value) (eg : ∀ args w, (callFunc g args).run Tryz.prog w = .ok (.enter g args) w) (X : Nat → Prop) (S : World → Prop) (q : Bool) (x : Jt) (gb : Nat) (u : World)
  (h0 : u.cell? ⟨gb, 0, none⟩ = some (.func (.func g) #[] lb))
  (H : ∀ u', Made u.heap.size u u' → Calls Tryz.prog g (#[jtV x] ++ lb) u' fun e v => e = .returned (.bool q) ∧ But X u' v ∧ S v) :
  Calls Tryz.prog 144 #[jtV x, .pointer (some ⟨gb, 0, none⟩)] u fun e v => e = .returned (.bool (!q)) ∧ But X u v ∧ S v := by
 have hlt : gb < u.heap.size := World.block_lt_of_cell? u _ h0
 have HH := hid H
 clear H
 obtain ⟨x0, x1, x2, x3, x4, x5, x6, x7⟩ := x
 go_enter Tryz.func144, Tryz.ntmps144
 go_wp2_with (go_at_fn g; refine (HH.out _ ((Made.rfl_ _ _).cells (Nat.le_refl _) _ _)).mono ?_; rintro e w' ⟨rfl, k1, k2⟩)
 go_ret
 exact ⟨rfl, (But.rfl_ X u).alloc _ _ |>.then_ k1, k2⟩
theorem everyJ_c (g : Nat) (lb : Array Value) (eg : ∀ args w, (callFunc g args).run Tryz.prog w = .ok (.enter g args) w) (X : Nat → Prop) (St : Nat → World → Prop) (q : Nat → Bool) {l : List Jt} {ao : Option Addr} {n c : Nat} {w : World}
  (hn : l.length = n) (hmx : n ≤ 4611686018427387904) (hl : LsT encJ 8 w ao l) (hX : 0 < n → Offs X ao) (hXw : ∀ b, X b → b < w.heap.size) (hSt : ∀ i u v, St i u → Made u.heap.size u v → St i v) (hS0 : St 0 w)
  (hS : ∀ i x u, l[i]? = some x → But X w u → St i u → Calls Tryz.prog g (#[jtV x] ++ lb) u fun e v => e = .returned (.bool (q i)) ∧ But X u v ∧ St (i + 1) v) :
  Calls Tryz.prog 121 #[.slice ao n c, .func (.func g) #[] lb] w fun e v => ∃ r, e = .returned (.bool r) ∧ But X w v ∧ ((r = true ∧ (∀ i, i < n → q i = true) ∧ St n v) ∨ (r = false ∧ ∃ i, i < n ∧ q i = false)) := by
 obtain ⟨W, eW⟩ : ∃ W, W = w.alloc (.cells #[.func (.func g) #[] lb] 146) := ⟨_, rfl⟩
 have kW : Made w.heap.size w W := by rw [eW]; exact (Made.rfl_ _ _).cells (Nat.le_refl _) _ _
 have c0 : W.cell? ⟨w.heap.size, 0, none⟩ = some (.func (.func g) #[] lb) := by rw [eW]; exact (has_new _ _ _).at_ 0
 have hXn : ¬ X w.heap.size := fun h => Nat.lt_irrefl _ (hXw _ h)
 have HC := hid (containsJ_c 144 #[.pointer (some ⟨w.heap.size, 0, none⟩)] (by intro args w; rfl) X St (fun i => !q i) (c := c) (w := W) hn hmx (hl.below kW.1) hX (hSt _ _ _ hS0 kW)
  (fun i x u hx hB hs => notEJ_c g lb eg X (St (i + 1)) (q i) x w.heap.size u (hB.cell c0 hXn) (fun u' hu => hS i x u' hx ((Made.but kW).then_ (hB.then_ (Made.but hu))) (hSt _ _ _ hs hu))))
 have KW := hid kW
 clear hn hl hX hS hS0 hSt kW c0
 go_enter Tryz.func121, Tryz.ntmps121
 go_wp2_with (rw [← eW]; refine HC.out.mono ?_; rintro e w1 ⟨r, rfl, k1, h⟩)
 go_ret
 refine ⟨_, rfl, (Made.but KW.out).then_ k1, ?_⟩
 rcases h with ⟨rfl, h1, h2⟩ | ⟨rfl, i, hi, h1⟩
 ·exact .inl ⟨rfl, fun i hi => by have := h1 i hi; simpa using this, h2⟩
 ·exact .inr ⟨rfl, i, hi, by simpa using h1⟩
theorem idxC_c (g : Nat) (lb : Array Value) (eg : ∀ args w, (callFunc g args).run Tryz.prog w = .ok (.enter g args) w) (X : Nat → Prop) (St : Nat → World → Prop) (p : Nat → Bool) {l : List Ct} {ao : Option Addr} {n c : Nat} {w : World}
  (hn : l.length = n) (hmx : n ≤ 4611686018427387904) (hl : LsT encC 5 w ao l) (hX : 0 < n → Offs X ao) (hS0 : St 0 w)
  (hS : ∀ i x u, l[i]? = some x → But X w u → St i u → Calls Tryz.prog g (#[ctV x] ++ lb) u fun e v => e = .returned (.bool (p i)) ∧ But X u v ∧ St (i + 1) v) :
  Calls Tryz.prog 134 #[.slice ao n c, .func (.func g) #[] lb] w fun e v => ∃ r : Int, e = .returned (.int .i64 r) ∧ But X w v ∧ ((r = -1 ∧ (∀ i, i < n → p i = false) ∧ St n v) ∨ ∃ i, i < n ∧ r = i ∧ p i = true ∧ (∀ j, j < i → p j = false) ∧ St (i + 1) v) := by
 have HN := hid hn
 have HL := hid hl
 have HX := hid hX
 have HS := hid hS
 have H0 := hid hS0
 clear hn hl hX hS hS0
 go_enter Tryz.func134, Tryz.ntmps134
 go_wp2_with fail
 go_loopg [5, 8] n (fun gg s5 s8 wx => ∃ k : Nat, k + gg = n ∧ s8 = .int .i64 k ∧ Hid (But X w wx ∧ St k wx ∧ ∀ j, j < k → p j = false))
 case atStart => exact ⟨0, by omega, rfl, But.rfl_ _ _, H0.out, fun j hj => absurd hj (Nat.not_lt_zero _)⟩
 case round =>
  obtain ⟨k, hk, rfl, HB⟩ := hrel
  by_cases hlt : k < n
  ·obtain ⟨a, ea⟩ : ∃ a, l[k]? = some a := ⟨_, List.getElem?_eq_getElem (by rw [HN.out]; omega)⟩
   obtain ⟨b, off, rfl, hbl, hLB⟩ := HL.out (by rw [HN.out]; omega)
   have hcall := HS.out k a wr ea HB.out.1 HB.out.2.1
   have hcells := ((hLB.but HB.out.1 (HX.out (by omega) b off _ rfl)) k _ ea).c5
   clear ea hLB
   obtain ⟨x0, x1, x2, x3, x4⟩ := a
   obtain ⟨a0, a1, a2, a3, a4⟩ := hcells
   simp only [] at a0 a1 a2 a3 a4
   obtain ⟨q, eq⟩ : ∃ q, p k = q := ⟨_, rfl⟩
   rw [eq] at hcall
   have EQ := hid eq
   clear eq
   cases q with
   | true =>
    go_wp2_with (go_at_fn g; refine hcall.mono ?_; rintro e w' ⟨rfl, k1, k2⟩)
    go_ret
    exact ⟨_, rfl, HB.out.1.then_ k1, .inr ⟨k, hlt, rfl, EQ.out, HB.out.2.2, k2⟩⟩
   | false =>
    go_wp2_with (go_at_fn g; refine hcall.mono ?_; rintro e w' ⟨rfl, k1, k2⟩)
    go_roundg (n - (k + 1))
    case measure => omega
    case rel =>
     refine ⟨k + 1, by omega, by go_num, HB.out.1.then_ k1, k2, fun j hj => ?_⟩
     by_cases e : j = k
     ·subst e; exact EQ.out
     ·exact HB.out.2.2 j (by omega)
  ·go_wp2_with fail
   go_ret
   have e : k = n := by omega
   subst e
   exact ⟨_, rfl, HB.out.1, .inl ⟨rfl, HB.out.2.2, HB.out.2.1⟩⟩
theorem containsC_c (g : Nat) (lb : Array Value) (eg : ∀ args w, (callFunc g args).run Tryz.prog w = .ok (.enter g args) w) (X : Nat → Prop) (St : Nat → World → Prop) (p : Nat → Bool) {l : List Ct} {ao : Option Addr} {n c : Nat} {w : World}
  (hn : l.length = n) (hmx : n ≤ 4611686018427387904) (hl : LsT encC 5 w ao l) (hX : 0 < n → Offs X ao) (hS0 : St 0 w)
  (hS : ∀ i x u, l[i]? = some x → But X w u → St i u → Calls Tryz.prog g (#[ctV x] ++ lb) u fun e v => e = .returned (.bool (p i)) ∧ But X u v ∧ St (i + 1) v) :
  Calls Tryz.prog 146 #[.slice ao n c, .func (.func g) #[] lb] w fun e v => ∃ r, e = .returned (.bool r) ∧ But X w v ∧ ((r = false ∧ (∀ i, i < n → p i = false) ∧ St n v) ∨ (r = true ∧ ∃ i, i < n ∧ p i = true)) := by
 have HC := hid (idxC_c g lb eg X St p (c := c) hn hmx hl hX hS0 hS)
 clear hn hl hX hS hS0
 go_enter Tryz.func146, Tryz.ntmps146
 go_wp2_with fail
 refine HC.out.mono ?_
 rintro e w1 ⟨r, rfl, k1, h⟩
 rcases h with ⟨rfl, h1, h2⟩ | ⟨i, hi, rfl, h1, h2, h3⟩
 ·go_wp2_with fail
  go_ret
  exact ⟨_, rfl, k1, .inl ⟨rfl, h1, h2⟩⟩
 ·go_wp2_with fail
  go_ret
  exact ⟨_, rfl, k1, .inr ⟨by simp, i, hi, h1⟩⟩
theorem notEC_c (g : Nat) (lb : Array Value) (eg : ∀ args w, (callFunc g args).run Tryz.prog w = .ok (.enter g args) w) (X : Nat → Prop) (S : World → Prop) (q : Bool) (x : Ct) (gb : Nat) (u : World)
  (h0 : u.cell? ⟨gb, 0, none⟩ = some (.func (.func g) #[] lb))
  (H : ∀ u', Made u.heap.size u u' → Calls Tryz.prog g (#[ctV x] ++ lb) u' fun e v => e = .returned (.bool q) ∧ But X u' v ∧ S v) :
  Calls Tryz.prog 147 #[ctV x, .pointer (some ⟨gb, 0, none⟩)] u fun e v => e = .returned (.bool (!q)) ∧ But X u v ∧ S v := by
 have hlt : gb < u.heap.size := World.block_lt_of_cell? u _ h0
 have HH := hid H
 clear H
 obtain ⟨x0, x1, x2, x3, x4⟩ := x
 go_enter Tryz.func147, Tryz.ntmps147
 go_wp2_with (go_at_fn g; refine (HH.out _ ((Made.rfl_ _ _).cells (Nat.le_refl _) _ _)).mono ?_; rintro e w' ⟨rfl, k1, k2⟩)
 go_ret
 exact ⟨rfl, (But.rfl_ X u).alloc _ _ |>.then_ k1, k2⟩
theorem everyC_c (g : Nat) (lb : Array Value) (eg : ∀ args w, (callFunc g args).run Tryz.prog w = .ok (.enter g args) w) (X : Nat → Prop) (St : Nat → World → Prop) (q : Nat → Bool) {l : List Ct} {ao : Option Addr} {n c : Nat} {w : World}
  (hn : l.length = n) (hmx : n ≤ 4611686018427387904) (hl : LsT encC 5 w ao l) (hX : 0 < n → Offs X ao) (hXw : ∀ b, X b → b < w.heap.size) (hSt : ∀ i u v, St i u → Made u.heap.size u v → St i v) (hS0 : St 0 w)
  (hS : ∀ i x u, l[i]? = some x → But X w u → St i u → Calls Tryz.prog g (#[ctV x] ++ lb) u fun e v => e = .returned (.bool (q i)) ∧ But X u v ∧ St (i + 1) v) :
  Calls Tryz.prog 125 #[.slice ao n c, .func (.func g) #[] lb] w fun e v => ∃ r, e = .returned (.bool r) ∧ But X w v ∧ ((r = true ∧ (∀ i, i < n → q i = true) ∧ St n v) ∨ (r = false ∧ ∃ i, i < n ∧ q i = false)) := by
 obtain ⟨W, eW⟩ : ∃ W, W = w.alloc (.cells #[.func (.func g) #[] lb] 156) := ⟨_, rfl⟩
 have kW : Made w.heap.size w W := by rw [eW]; exact (Made.rfl_ _ _).cells (Nat.le_refl _) _ _
 have c0 : W.cell? ⟨w.heap.size, 0, none⟩ = some (.func (.func g) #[] lb) := by rw [eW]; exact (has_new _ _ _).at_ 0
 have hXn : ¬ X w.heap.size := fun h => Nat.lt_irrefl _ (hXw _ h)
 have HC := hid (containsC_c 147 #[.pointer (some ⟨w.heap.size, 0, none⟩)] (by intro args w; rfl) X St (fun i => !q i) (c := c) (w := W) hn hmx (hl.below kW.1) hX (hSt _ _ _ hS0 kW)
  (fun i x u hx hB hs => notEC_c g lb eg X (St (i + 1)) (q i) x w.heap.size u (hB.cell c0 hXn) (fun u' hu => hS i x u' hx ((Made.but kW).then_ (hB.then_ (Made.but hu))) (hSt _ _ _ hs hu))))
 have KW := hid kW
 clear hn hl hX hS hS0 hSt kW c0
 go_enter Tryz.func125, Tryz.ntmps125
 go_wp2_with (rw [← eW]; refine HC.out.mono ?_; rintro e w1 ⟨r, rfl, k1, h⟩)
 go_ret
 refine ⟨_, rfl, (Made.but KW.out).then_ k1, ?_⟩
 rcases h with ⟨rfl, h1, h2⟩ | ⟨rfl, i, hi, h1⟩
 ·exact .inl ⟨rfl, fun i hi => by have := h1 i hi; simpa using this, h2⟩
 ·exact .inr ⟨rfl, i, hi, by simpa using h1⟩
end Go.Proofs.YtgdcphmmehedoaaGreat.Fx
/- What may be: numbered, rightBodies, rightJoints, rightContacts, Right. -/
namespace Go.Proofs.YtgdcphmmehedoaaGreat.Fx
open Go.ChangeShapes Go.WideShapes Go.ChangeAt Go.RowKit
set_option linter.unusedVariables false
def prevF (ids : List Int) : Nat → Int
 | 0 => 0
 | i + 1 => ids.getD i 0
theorem num_iff (ids : List Int) (next : Int) : NumP ids next ↔ 1 ≤ next ∧ next ≤ 4611686018427387904 ∧ (∀ i, i < ids.length → prevF ids i < ids.getD i 0) ∧ prevF ids ids.length < next := by
 have at_ : ∀ i (h : i < ids.length), ids.getD i 0 = ids[i] := fun i h => by simp [h]
 constructor
 ·rintro ⟨h1, h2, h3, h4⟩
  have hp := List.pairwise_iff_getElem.1 h3
  refine ⟨h1, h2, fun i hi => ?_, ?_⟩
  ·match i, hi with
   | 0, hi => rw [at_ 0 hi]; exact Int.lt_of_lt_of_le (show (0 : Int) < 1 by decide) (h4 _ (List.getElem_mem hi)).1
   | i + 1, hi =>
    show ids.getD i 0 < ids.getD (i + 1) 0
    rw [at_ _ hi, at_ i (by omega)]
    exact hp i (i + 1) (by omega) hi (by omega)
  ·match hn : ids.length with
   | 0 => exact Int.lt_of_lt_of_le (show (0 : Int) < 1 by decide) h1
   | n + 1 =>
    show ids.getD n 0 < next
    rw [at_ n (by omega)]
    exact (h4 _ (List.getElem_mem _)).2
 ·rintro ⟨h1, h2, h3, h4⟩
  have up : ∀ j i, i < j → j < ids.length → ids.getD i 0 < ids.getD j 0 := by
   intro j
   induction j with
   | zero => intro i h; omega
   | succ j ih =>
    intro i hi hj
    have a := h3 (j + 1) hj
    have a : ids.getD j 0 < ids.getD (j + 1) 0 := a
    rcases Nat.lt_or_ge i j with h | h
    ·exact Int.lt_trans (ih i h (by omega)) a
    ·have e : i = j := by omega
     rw [e]; exact a
  have lo : ∀ i, i < ids.length → 1 ≤ ids.getD i 0 := fun i hi => by
   have a : 0 < ids.getD 0 0 := h3 0 (by omega)
   rcases Nat.eq_zero_or_pos i with h | h
   ·subst h; omega
   ·have := up i 0 h hi; omega
  have hi_ : ∀ i, i < ids.length → ids.getD i 0 < next := fun i hi => by
   match hn : ids.length with
   | 0 => omega
   | n + 1 =>
    rw [hn] at h4
    have a : ids.getD n 0 < next := h4
    rcases Nat.lt_or_ge i n with h | h
    ·exact Int.lt_trans (up n i h (by omega)) a
    ·have e : i = n := by omega
     rw [e]; exact a
  refine ⟨h1, h2, List.pairwise_iff_getElem.2 fun i j hi hj hij => ?_, fun x hx => ?_⟩
  ·have := up j i hij hj
   rwa [at_ i hi, at_ j hj] at this
  ·obtain ⟨i, hi, rfl⟩ := List.mem_iff_getElem.1 hx
   rw [← at_ i hi]
   exact ⟨lo i hi, hi_ i hi⟩
theorem idB_c (x : Bd) (u : World) : Calls Tryz.prog 119 #[bdV x] u fun e v => e = .returned (.int .i64 x.id) ∧ Made u.heap.size u v := by
 obtain ⟨x0, x1, x2, x3, x4, x5, x6, x7, x8, x9, x10, x11, x12, x13⟩ := x
 go_enter Tryz.func119, Tryz.ntmps119
 go_wp2_with fail
 go_ret
 exact ⟨rfl, (Made.rfl_ _ _).cells (Nat.le_refl _) _ _⟩
theorem risesB_c (x : Bd) (gi gb : Nat) (b0 : Int) (u : World) (h0 : u.cell? ⟨gi, 0, none⟩ = some (.func (.func 119) #[] #[])) (h1 : u.cell? ⟨gb, 0, none⟩ = some (.int .i64 b0)) (h2 : u.frozen? ⟨gb, 0, none⟩ = false) :
  Calls Tryz.prog 142 #[bdV x, .pointer (some ⟨gi, 0, none⟩), .pointer (some ⟨gb, 0, none⟩)] u fun e v => e = .returned (.bool (decide (b0 < x.id))) ∧ But (fun b => b = gb) u v ∧ v.cell? ⟨gb, 0, none⟩ = some (.int .i64 x.id) ∧ v.frozen? ⟨gb, 0, none⟩ = false := by
 have l0 : gi < u.heap.size := World.block_lt_of_cell? u _ h0
 have l1 : gb < u.heap.size := World.block_lt_of_cell? u _ h1
 have eg : ∀ args w, (callFunc 119 args).run Tryz.prog w = .ok (.enter 119 args) w := by intro args w; rfl
 obtain ⟨x0, x1, x2, x3, x4, x5, x6, x7, x8, x9, x10, x11, x12, x13⟩ := x
 have HID := hid (fun w => idB_c ⟨x0, x1, x2, x3, x4, x5, x6, x7, x8, x9, x10, x11, x12, x13⟩ w)
 obtain ⟨W, eW⟩ : ∃ W, W = u.alloc (.cells #[.int .i64 x0, .int .i64 x1, .int .i64 x2, .int .i64 x3, .int .i64 x4, .int .i64 x5, .int .i64 x6, .int .i64 x7, .int .i64 x8, .int .i64 x9, .slice x10 x11 x12] 35) := ⟨_, rfl⟩
 have KW : Hid (Made u.heap.size u W) := by unfold Hid; rw [eW]; exact (Made.rfl_ _ _).cells (Nat.le_refl _) _ _
 have HB : Hid (Has W u.heap.size 35 #[.int .i64 x0, .int .i64 x1, .int .i64 x2, .int .i64 x3, .int .i64 x4, .int .i64 x5, .int .i64 x6, .int .i64 x7, .int .i64 x8, .int .i64 x9, .slice x10 x11 x12]) := by unfold Hid; rw [eW]; exact has_new _ _ _
 have h0 := KW.out.reads h0
 have h1 := KW.out.reads h1
 have h2 : W.frozen? ⟨gb, 0, none⟩ = false := (KW.out.2 _).trans h2
 obtain ⟨g2, eg2⟩ : ∃ g, u.heap.size = g := ⟨_, rfl⟩
 rw [eg2] at HB
 have b0 := HB.out.at_ 0
 have b1 := HB.out.at_ 1
 have b2 := HB.out.at_ 2
 have b3 := HB.out.at_ 3
 have b4 := HB.out.at_ 4
 have b5 := HB.out.at_ 5
 have b6 := HB.out.at_ 6
 have b7 := HB.out.at_ 7
 have b8 := HB.out.at_ 8
 have b9 := HB.out.at_ 9
 have b10 := HB.out.at_ 10
 simp at b0 b1 b2 b3 b4 b5 b6 b7 b8 b9 b10
 have l2 : g2 < W.heap.size := HB.out.here
 go_enter Tryz.func142, Tryz.ntmps142
 go_upto_region 1 with fail
 rw [← eW]
 clear eW
 try rw [eg2]
 go_wp2_with fail
 refine reg_made (by kernel_rfl) (by kernel_rfl) ?_
 intro T hT fw hf
 have c0 := Class.reads hf h0
 have c1 := Class.reads hf h1
 have d0 := Class.reads hf b0
 have d1 := Class.reads hf b1
 have d2 := Class.reads hf b2
 have d3 := Class.reads hf b3
 have d4 := Class.reads hf b4
 have d5 := Class.reads hf b5
 have d6 := Class.reads hf b6
 have d7 := Class.reads hf b7
 have d8 := Class.reads hf b8
 have d9 := Class.reads hf b9
 have d10 := Class.reads hf b10
 repeat (go_big_quiet_step ((first | (go_at_fn 119; exact hf.made (HID.out _)) | (go_at_call 119; exact hf.made (HID.out _)))))
 refine wpQuiet_nil ?_
 intro w3 h3
 have k3 := hf.here h3
 have K3 := hid (KW.out.then_ (k3.low KW.out.1.size))
 have HB3 := hid (HB.out.stays k3 HB.out.here)
 have h0 := k3.reads h0
 have h1 := k3.reads h1
 have h2 : w3.frozen? ⟨gb, 0, none⟩ = false := (k3.2 _).trans h2
 clear b0 d0 b1 d1 b2 d2 b3 d3 b4 d4 b5 d5 b6 d6 b7 d7 b8 d8 b9 d9 b10 d10 c0 c1 hf h3 k3 l2
 have b0 := HB3.out.at_ 0
 have b1 := HB3.out.at_ 1
 have b2 := HB3.out.at_ 2
 have b3 := HB3.out.at_ 3
 have b4 := HB3.out.at_ 4
 have b5 := HB3.out.at_ 5
 have b6 := HB3.out.at_ 6
 have b7 := HB3.out.at_ 7
 have b8 := HB3.out.at_ 8
 have b9 := HB3.out.at_ 9
 have b10 := HB3.out.at_ 10
 simp at b0 b1 b2 b3 b4 b5 b6 b7 b8 b9 b10
 have l2 : g2 < w3.heap.size := HB3.out.here
 go_wp2_with fail
 refine (HID.out _).mono ?_
 rintro e w' ⟨rfl, k4⟩
 have K4 := hid (K3.out.then_ (k4.low K3.out.1.size))
 have h1 := k4.reads h1
 have h2 : w'.frozen? ⟨gb, 0, none⟩ = false := (k4.2 _).trans h2
 have l1' : gb < w'.heap.size := World.block_lt_of_cell? _ _ h1
 clear k4 b0 b1 b2 b3 b4 b5 b6 b7 b8 b9 b10
 go_wp2_with fail
 go_ret
 refine ⟨rfl, But.put (X := fun b => b = gb) (Made.but K4.out) (p := ⟨gb, 0, none⟩) (.inl rfl) _, ?_, ?_⟩
 ·go_simp
 ·exact (World.frozen?_setCell _ _ _ _).trans h2
theorem numB_c {l : List Bd} {ao : Option Addr} {n c : Nat} {w : World} (next : Int) (r : Bool) (hn : l.length = n) (hmx : n ≤ 1073741824) (hl : LsT encB 11 w ao l) (hr : r = true ↔ NumP (l.map (·.id)) next) :
  Calls Tryz.prog 118 #[.slice ao n c, .int .i64 next, .func (.func 119) #[] #[]] w fun e v => e = .returned (.bool r) ∧ Made w.heap.size w v := by
 have hr' : r = true ↔ 1 ≤ next ∧ next ≤ 4611686018427387904 ∧ (∀ i, i < n → prevF (l.map (·.id)) i < (l.map (·.id)).getD i 0) ∧ prevF (l.map (·.id)) n < next := by
  rw [hr, num_iff, List.length_map, hn]
 have HR := hid hr'
 have HP : Hid (∀ i x, l[i]? = some x → (l.map (·.id)).getD i 0 = x.id) := fun i x hx => by simp [List.getD, hx]
 obtain ⟨W, eW⟩ : ∃ W, W = ((w.alloc (.cells #[.func (.func 119) #[] #[]] 172)).alloc (.cells #[.int .i64 0] 3)) := ⟨_, rfl⟩
 have KW : Hid (Made w.heap.size w W) := by unfold Hid; rw [eW]; exact ((Made.rfl_ _ _).cells (Nat.le_refl _) _ _).cells (by simp) _ _
 have hI : Has W w.heap.size 172 #[.func (.func 119) #[] #[]] := by rw [eW]; exact (has_new _ _ _).more _
 have hB : Has W (w.heap.size + 1) 3 #[.int .i64 0] := by rw [eW]; exact has_nxt' _ _ _ _
 obtain ⟨g0, eg0⟩ : ∃ g, w.heap.size = g := ⟨_, rfl⟩
 obtain ⟨g1, eg1⟩ : ∃ g, g0 + 1 = g := ⟨_, rfl⟩
 rw [eg0] at hI
 rw [eg0, eg1] at hB
 have hX : 0 < n → Offs (fun b => b = g1) ao := fun h => by
  obtain ⟨b, off, rfl, hb, _⟩ := hl (by omega)
  intro g o s e hh
  cases e
  rw [eg0] at hb
  have hh : b = g1 := hh
  omega
 have HC : Hid (Calls Tryz.prog 117 #[.slice ao n c, .func (.func 142) #[] #[.pointer (some ⟨g0, 0, none⟩), .pointer (some ⟨g1, 0, none⟩)]] W fun e v => ∃ r, e = .returned (.bool r) ∧ But (fun b => b = g1) W v ∧ ((r = true ∧ (∀ i, i < n → decide (prevF (l.map (·.id)) i < (l.map (·.id)).getD i 0) = true) ∧ (v.cell? ⟨g1, 0, none⟩ = some (.int .i64 (prevF (l.map (·.id)) n)) ∧ v.frozen? ⟨g1, 0, none⟩ = false)) ∨ (r = false ∧ ∃ i, i < n ∧ decide (prevF (l.map (·.id)) i < (l.map (·.id)).getD i 0) = false))) :=
  everyB_c _ _ (by intro args w; rfl) (fun b => b = g1) (fun i u => u.cell? ⟨g1, 0, none⟩ = some (.int .i64 (prevF (l.map (·.id)) i)) ∧ u.frozen? ⟨g1, 0, none⟩ = false) (fun i => decide (prevF (l.map (·.id)) i < (l.map (·.id)).getD i 0)) hn (by omega) (hl.below KW.out.1) hX (fun b hb => by have hb : b = g1 := hb; subst hb; exact hB.here)
   (fun i u v h k => ⟨k.reads h.1, (k.2 _).trans h.2⟩) ⟨hB.at_ 0, hB.free 0⟩ (fun i x u hx hb hs => by
    have e : (l.map (·.id)).getD i 0 = x.id := HP.out i x hx
    have e2 : prevF (l.map (·.id)) (i + 1) = x.id := e
    rw [e, e2]
    exact (risesB_c x g0 g1 _ u (hb.cell (hI.at_ 0) (by show ¬ g0 = g1; omega)) hs.1 hs.2).mono fun _ _ ⟨a, b, c, d⟩ => ⟨a, b, c, d⟩)
 have l0 : g0 < W.heap.size := hI.here
 have l1 : g1 < W.heap.size := hB.here
 have HBut : Hid (∀ v, But (fun b => b = g1) W v → Made w.heap.size w v) := fun v k => But.made_ KW.out k (by rw [eg0]; omega) (fun b hb => by have hb : b = g1 := hb; omega)
 have HIs := hid hI
 have HBs := hid hB
 have hb0 := hB.at_ 0
 simp at hb0
 obtain ⟨z, ez⟩ : ∃ z, prevF (l.map (·.id)) n = z := ⟨_, rfl⟩
 rw [ez] at HC HR
 clear hn hl hr hr' hI hB hX ez
 by_cases hA : 1 ≤ next
 ·by_cases hB : next ≤ 4611686018427387904
  ·go_enter Tryz.func118, Tryz.ntmps118
   go_upto_region 2 with fail
   rw [← eW]
   clear eW
   try rw [eg0]
   try rw [eg1]
   go_wp2_with fail
   refine HC.out.mono ?_
   rintro e w1 ⟨q, rfl, k1, h⟩
   have K1 := hid (HBut.out _ k1)
   have l1' : g1 < w1.heap.size := Nat.lt_of_lt_of_le l1 k1.size
   clear k1
   rcases h with ⟨rfl, hall, hc, hf⟩ | ⟨rfl, i, hi, hF⟩
   ·have HA : Hid (∀ i, i < n → prevF (l.map (·.id)) i < (l.map (·.id)).getD i 0) := fun i hi => of_decide_eq_true (hall i hi)
    have HZ : Hid (r = decide (z < next)) := by
     unfold Hid
     rw [Bool.eq_iff_iff, HR.out, decide_eq_true_iff]
     exact ⟨fun h => h.2.2.2, fun h => ⟨hA, hB, HA.out, h⟩⟩
    clear hall hb0
    go_wp2_with fail
    go_ret
    exact ⟨by rw [HZ.out]; rfl, K1.out⟩
   ·have hF : r = false := Bool.eq_false_iff.2 fun h => by
     have := (HR.out.1 h).2.2.1 i hi
     have h2 := of_decide_eq_false hF
     omega
    have HF := hid hF
    clear hF hb0
    go_wp2_with fail
    go_ret
    exact ⟨by rw [HF.out]; rfl, K1.out⟩
  ·have HF : Hid (r = false) := Bool.eq_false_iff.2 fun h => hB (HR.out.1 h).2.1
   go_enter Tryz.func118, Tryz.ntmps118
   go_upto_region 2 with fail
   rw [← eW]
   clear eW
   try rw [eg0]
   try rw [eg1]
   go_wp2_with fail
   go_ret
   exact ⟨by rw [HF.out]; rfl, by first | exact KW.out | (rw [← eg0]; exact KW.out)⟩
 ·have HF : Hid (r = false) := Bool.eq_false_iff.2 fun h => hA (HR.out.1 h).1
  go_enter Tryz.func118, Tryz.ntmps118
  go_upto_region 2 with fail
  rw [← eW]
  clear eW
  try rw [eg0]
  try rw [eg1]
  go_wp2_with fail
  go_ret
  exact ⟨by rw [HF.out]; rfl, by first | exact KW.out | (rw [← eg0]; exact KW.out)⟩
theorem idJ_c (x : Jt) (u : World) : Calls Tryz.prog 123 #[jtV x] u fun e v => e = .returned (.int .i64 x.id) ∧ Made u.heap.size u v := by
 obtain ⟨x0, x1, x2, x3, x4, x5, x6, x7⟩ := x
 go_enter Tryz.func123, Tryz.ntmps123
 go_wp2_with fail
 go_ret
 exact ⟨rfl, (Made.rfl_ _ _).cells (Nat.le_refl _) _ _⟩
theorem risesJ_c (x : Jt) (gi gb : Nat) (b0 : Int) (u : World) (h0 : u.cell? ⟨gi, 0, none⟩ = some (.func (.func 123) #[] #[])) (h1 : u.cell? ⟨gb, 0, none⟩ = some (.int .i64 b0)) (h2 : u.frozen? ⟨gb, 0, none⟩ = false) :
  Calls Tryz.prog 145 #[jtV x, .pointer (some ⟨gi, 0, none⟩), .pointer (some ⟨gb, 0, none⟩)] u fun e v => e = .returned (.bool (decide (b0 < x.id))) ∧ But (fun b => b = gb) u v ∧ v.cell? ⟨gb, 0, none⟩ = some (.int .i64 x.id) ∧ v.frozen? ⟨gb, 0, none⟩ = false := by
 have l0 : gi < u.heap.size := World.block_lt_of_cell? u _ h0
 have l1 : gb < u.heap.size := World.block_lt_of_cell? u _ h1
 have eg : ∀ args w, (callFunc 123 args).run Tryz.prog w = .ok (.enter 123 args) w := by intro args w; rfl
 obtain ⟨x0, x1, x2, x3, x4, x5, x6, x7⟩ := x
 have HID := hid (fun w => idJ_c ⟨x0, x1, x2, x3, x4, x5, x6, x7⟩ w)
 obtain ⟨W, eW⟩ : ∃ W, W = u.alloc (.cells #[.int .i64 x0, .int .i64 x1, .int .i64 x2, .int .i64 x3, .int .i64 x4, .int .i64 x5, .int .i64 x6, .int .i64 x7] 102) := ⟨_, rfl⟩
 have KW : Hid (Made u.heap.size u W) := by unfold Hid; rw [eW]; exact (Made.rfl_ _ _).cells (Nat.le_refl _) _ _
 have HB : Hid (Has W u.heap.size 102 #[.int .i64 x0, .int .i64 x1, .int .i64 x2, .int .i64 x3, .int .i64 x4, .int .i64 x5, .int .i64 x6, .int .i64 x7]) := by unfold Hid; rw [eW]; exact has_new _ _ _
 have h0 := KW.out.reads h0
 have h1 := KW.out.reads h1
 have h2 : W.frozen? ⟨gb, 0, none⟩ = false := (KW.out.2 _).trans h2
 obtain ⟨g2, eg2⟩ : ∃ g, u.heap.size = g := ⟨_, rfl⟩
 rw [eg2] at HB
 have b0 := HB.out.at_ 0
 have b1 := HB.out.at_ 1
 have b2 := HB.out.at_ 2
 have b3 := HB.out.at_ 3
 have b4 := HB.out.at_ 4
 have b5 := HB.out.at_ 5
 have b6 := HB.out.at_ 6
 have b7 := HB.out.at_ 7
 simp at b0 b1 b2 b3 b4 b5 b6 b7
 have l2 : g2 < W.heap.size := HB.out.here
 go_enter Tryz.func145, Tryz.ntmps145
 go_upto_region 1 with fail
 rw [← eW]
 clear eW
 try rw [eg2]
 go_wp2_with fail
 refine reg_made (by kernel_rfl) (by kernel_rfl) ?_
 intro T hT fw hf
 have c0 := Class.reads hf h0
 have c1 := Class.reads hf h1
 have d0 := Class.reads hf b0
 have d1 := Class.reads hf b1
 have d2 := Class.reads hf b2
 have d3 := Class.reads hf b3
 have d4 := Class.reads hf b4
 have d5 := Class.reads hf b5
 have d6 := Class.reads hf b6
 have d7 := Class.reads hf b7
 repeat (go_big_quiet_step ((first | (go_at_fn 123; exact hf.made (HID.out _)) | (go_at_call 123; exact hf.made (HID.out _)))))
 refine wpQuiet_nil ?_
 intro w3 h3
 have k3 := hf.here h3
 have K3 := hid (KW.out.then_ (k3.low KW.out.1.size))
 have HB3 := hid (HB.out.stays k3 HB.out.here)
 have h0 := k3.reads h0
 have h1 := k3.reads h1
 have h2 : w3.frozen? ⟨gb, 0, none⟩ = false := (k3.2 _).trans h2
 clear b0 d0 b1 d1 b2 d2 b3 d3 b4 d4 b5 d5 b6 d6 b7 d7 c0 c1 hf h3 k3 l2
 have b0 := HB3.out.at_ 0
 have b1 := HB3.out.at_ 1
 have b2 := HB3.out.at_ 2
 have b3 := HB3.out.at_ 3
 have b4 := HB3.out.at_ 4
 have b5 := HB3.out.at_ 5
 have b6 := HB3.out.at_ 6
 have b7 := HB3.out.at_ 7
 simp at b0 b1 b2 b3 b4 b5 b6 b7
 have l2 : g2 < w3.heap.size := HB3.out.here
 go_wp2_with fail
 refine (HID.out _).mono ?_
 rintro e w' ⟨rfl, k4⟩
 have K4 := hid (K3.out.then_ (k4.low K3.out.1.size))
 have h1 := k4.reads h1
 have h2 : w'.frozen? ⟨gb, 0, none⟩ = false := (k4.2 _).trans h2
 have l1' : gb < w'.heap.size := World.block_lt_of_cell? _ _ h1
 clear k4 b0 b1 b2 b3 b4 b5 b6 b7
 go_wp2_with fail
 go_ret
 refine ⟨rfl, But.put (X := fun b => b = gb) (Made.but K4.out) (p := ⟨gb, 0, none⟩) (.inl rfl) _, ?_, ?_⟩
 ·go_simp
 ·exact (World.frozen?_setCell _ _ _ _).trans h2
theorem numJ_c {l : List Jt} {ao : Option Addr} {n c : Nat} {w : World} (next : Int) (r : Bool) (hn : l.length = n) (hmx : n ≤ 1073741824) (hl : LsT encJ 8 w ao l) (hr : r = true ↔ NumP (l.map (·.id)) next) :
  Calls Tryz.prog 122 #[.slice ao n c, .int .i64 next, .func (.func 123) #[] #[]] w fun e v => e = .returned (.bool r) ∧ Made w.heap.size w v := by
 have hr' : r = true ↔ 1 ≤ next ∧ next ≤ 4611686018427387904 ∧ (∀ i, i < n → prevF (l.map (·.id)) i < (l.map (·.id)).getD i 0) ∧ prevF (l.map (·.id)) n < next := by
  rw [hr, num_iff, List.length_map, hn]
 have HR := hid hr'
 have HP : Hid (∀ i x, l[i]? = some x → (l.map (·.id)).getD i 0 = x.id) := fun i x hx => by simp [List.getD, hx]
 obtain ⟨W, eW⟩ : ∃ W, W = ((w.alloc (.cells #[.func (.func 123) #[] #[]] 169)).alloc (.cells #[.int .i64 0] 3)) := ⟨_, rfl⟩
 have KW : Hid (Made w.heap.size w W) := by unfold Hid; rw [eW]; exact ((Made.rfl_ _ _).cells (Nat.le_refl _) _ _).cells (by simp) _ _
 have hI : Has W w.heap.size 169 #[.func (.func 123) #[] #[]] := by rw [eW]; exact (has_new _ _ _).more _
 have hB : Has W (w.heap.size + 1) 3 #[.int .i64 0] := by rw [eW]; exact has_nxt' _ _ _ _
 obtain ⟨g0, eg0⟩ : ∃ g, w.heap.size = g := ⟨_, rfl⟩
 obtain ⟨g1, eg1⟩ : ∃ g, g0 + 1 = g := ⟨_, rfl⟩
 rw [eg0] at hI
 rw [eg0, eg1] at hB
 have hX : 0 < n → Offs (fun b => b = g1) ao := fun h => by
  obtain ⟨b, off, rfl, hb, _⟩ := hl (by omega)
  intro g o s e hh
  cases e
  rw [eg0] at hb
  have hh : b = g1 := hh
  omega
 have HC : Hid (Calls Tryz.prog 121 #[.slice ao n c, .func (.func 145) #[] #[.pointer (some ⟨g0, 0, none⟩), .pointer (some ⟨g1, 0, none⟩)]] W fun e v => ∃ r, e = .returned (.bool r) ∧ But (fun b => b = g1) W v ∧ ((r = true ∧ (∀ i, i < n → decide (prevF (l.map (·.id)) i < (l.map (·.id)).getD i 0) = true) ∧ (v.cell? ⟨g1, 0, none⟩ = some (.int .i64 (prevF (l.map (·.id)) n)) ∧ v.frozen? ⟨g1, 0, none⟩ = false)) ∨ (r = false ∧ ∃ i, i < n ∧ decide (prevF (l.map (·.id)) i < (l.map (·.id)).getD i 0) = false))) :=
  everyJ_c _ _ (by intro args w; rfl) (fun b => b = g1) (fun i u => u.cell? ⟨g1, 0, none⟩ = some (.int .i64 (prevF (l.map (·.id)) i)) ∧ u.frozen? ⟨g1, 0, none⟩ = false) (fun i => decide (prevF (l.map (·.id)) i < (l.map (·.id)).getD i 0)) hn (by omega) (hl.below KW.out.1) hX (fun b hb => by have hb : b = g1 := hb; subst hb; exact hB.here)
   (fun i u v h k => ⟨k.reads h.1, (k.2 _).trans h.2⟩) ⟨hB.at_ 0, hB.free 0⟩ (fun i x u hx hb hs => by
    have e : (l.map (·.id)).getD i 0 = x.id := HP.out i x hx
    have e2 : prevF (l.map (·.id)) (i + 1) = x.id := e
    rw [e, e2]
    exact (risesJ_c x g0 g1 _ u (hb.cell (hI.at_ 0) (by show ¬ g0 = g1; omega)) hs.1 hs.2).mono fun _ _ ⟨a, b, c, d⟩ => ⟨a, b, c, d⟩)
 have l0 : g0 < W.heap.size := hI.here
 have l1 : g1 < W.heap.size := hB.here
 have HBut : Hid (∀ v, But (fun b => b = g1) W v → Made w.heap.size w v) := fun v k => But.made_ KW.out k (by rw [eg0]; omega) (fun b hb => by have hb : b = g1 := hb; omega)
 have HIs := hid hI
 have HBs := hid hB
 have hb0 := hB.at_ 0
 simp at hb0
 obtain ⟨z, ez⟩ : ∃ z, prevF (l.map (·.id)) n = z := ⟨_, rfl⟩
 rw [ez] at HC HR
 clear hn hl hr hr' hI hB hX ez
 by_cases hA : 1 ≤ next
 ·by_cases hB : next ≤ 4611686018427387904
  ·go_enter Tryz.func122, Tryz.ntmps122
   go_upto_region 2 with fail
   rw [← eW]
   clear eW
   try rw [eg0]
   try rw [eg1]
   go_wp2_with fail
   refine HC.out.mono ?_
   rintro e w1 ⟨q, rfl, k1, h⟩
   have K1 := hid (HBut.out _ k1)
   have l1' : g1 < w1.heap.size := Nat.lt_of_lt_of_le l1 k1.size
   clear k1
   rcases h with ⟨rfl, hall, hc, hf⟩ | ⟨rfl, i, hi, hF⟩
   ·have HA : Hid (∀ i, i < n → prevF (l.map (·.id)) i < (l.map (·.id)).getD i 0) := fun i hi => of_decide_eq_true (hall i hi)
    have HZ : Hid (r = decide (z < next)) := by
     unfold Hid
     rw [Bool.eq_iff_iff, HR.out, decide_eq_true_iff]
     exact ⟨fun h => h.2.2.2, fun h => ⟨hA, hB, HA.out, h⟩⟩
    clear hall hb0
    go_wp2_with fail
    go_ret
    exact ⟨by rw [HZ.out]; rfl, K1.out⟩
   ·have hF : r = false := Bool.eq_false_iff.2 fun h => by
     have := (HR.out.1 h).2.2.1 i hi
     have h2 := of_decide_eq_false hF
     omega
    have HF := hid hF
    clear hF hb0
    go_wp2_with fail
    go_ret
    exact ⟨by rw [HF.out]; rfl, K1.out⟩
  ·have HF : Hid (r = false) := Bool.eq_false_iff.2 fun h => hB (HR.out.1 h).2.1
   go_enter Tryz.func122, Tryz.ntmps122
   go_upto_region 2 with fail
   rw [← eW]
   clear eW
   try rw [eg0]
   try rw [eg1]
   go_wp2_with fail
   go_ret
   exact ⟨by rw [HF.out]; rfl, by first | exact KW.out | (rw [← eg0]; exact KW.out)⟩
 ·have HF : Hid (r = false) := Bool.eq_false_iff.2 fun h => hA (HR.out.1 h).1
  go_enter Tryz.func122, Tryz.ntmps122
  go_upto_region 2 with fail
  rw [← eW]
  clear eW
  try rw [eg0]
  try rw [eg1]
  go_wp2_with fail
  go_ret
  exact ⟨by rw [HF.out]; rfl, by first | exact KW.out | (rw [← eg0]; exact KW.out)⟩
end Go.Proofs.YtgdcphmmehedoaaGreat.Fx