/- WoI -/
import Derived.Test.YtfncelifflebbaaGreatV6
import Derived.Deep.LoopGhost
import Derived.LoopN
import Derived.WalkMore

/- IndexFunc, ContainsFunc and every over bodies, joints and contacts. -/




namespace Go.Proofs.YtfncelifflebbaaGreat.Fx
open Go.ChangeShapes Go.WideShapes Go.ChangeAt Go.RowKit
set_option linter.unusedVariables false

set_option maxRecDepth 100000 in
set_option maxHeartbeats 4000000 in
theorem idxB_c (g : Nat) (lb : Array Value) (eg : ∀ args w, (callFunc g args).run Tryz.prog w = .ok (.enter g args) w) (X : Nat → Prop) (St : Nat → World → Prop) (p : Nat → Bool) {l : List Bd} {ao : Option Addr} {n c : Nat} {w : World}
    (hn : l.length = n) (hmx : n ≤ 4611686018427387904) (hl : LsT encB 11 w ao l) (hX : 0 < n → Offs X ao) (hS0 : St 0 w)
    (hS : ∀ i x u, l[i]? = some x → But X w u → St i u → Calls Tryz.prog g (#[bdV x] ++ lb) u fun e v => e = .returned (.bool (p i)) ∧ But X u v ∧ St (i + 1) v) :
    Calls Tryz.prog 121 #[.slice ao n c, .func (.func g) #[] lb] w fun e v => ∃ r : Int, e = .returned (.int .i64 r) ∧ But X w v ∧ ((r = -1 ∧ (∀ i, i < n → p i = false) ∧ St n v) ∨ ∃ i, i < n ∧ r = i ∧ p i = true ∧ (∀ j, j < i → p j = false) ∧ St (i + 1) v) := by
  have HN := hid hn
  have HL := hid hl
  have HX := hid hX
  have HS := hid hS
  have H0 := hid hS0
  clear hn hl hX hS hS0
  go_enter Tryz.func121, Tryz.ntmps121
  go_wp2_with fail
  go_loopg [5, 8] n (fun gg s5 s8 wx => ∃ k : Nat, k + gg = n ∧ s8 = .int .i64 k ∧ Hid (But X w wx ∧ St k wx ∧ ∀ j, j < k → p j = false))
  case atStart => exact ⟨0, by omega, rfl, But.rfl_ _ _, H0.out, fun j hj => absurd hj (Nat.not_lt_zero _)⟩
  case round =>
    obtain ⟨k, hk, rfl, HB⟩ := hrel
    by_cases hlt : k < n
    · obtain ⟨a, ea⟩ : ∃ a, l[k]? = some a := ⟨_, List.getElem?_eq_getElem (by rw [HN.out]; omega)⟩
      obtain ⟨b, off, rfl, hbl, hLB⟩ := HL.out (by rw [HN.out]; omega)
      have hcall := HS.out k a wr ea HB.out.1 HB.out.2.1
      have hcells := ((hLB.but HB.out.1 (HX.out (by omega) b off _ rfl)) k _ ea).b11
      clear ea hLB
      obtain ⟨x0, x1, x2, x3, x4, x5, x6, x7, x8, x9, x10, x11, x12, x13⟩ := a
      obtain ⟨a0, a1, a2, a3, a4, a5, a6, a7, a8, a9, a10⟩ := hcells
      simp only [] at a0 a1 a2 a3 a4 a5 a6 a7 a8 a9 a10
      obtain ⟨q, eq⟩ : ∃ q, p k = q := ⟨_, rfl⟩
      rw [eq] at hcall
      have EQ := hid eq
      clear eq
      cases q with
      | true =>
        go_wp2_with (go_at_fn g; refine hcall.mono ?_; rintro e w' ⟨rfl, k1, k2⟩)
        go_ret
        exact ⟨_, rfl, HB.out.1.then_ k1, .inr ⟨k, hlt, rfl, EQ.out, HB.out.2.2, k2⟩⟩
      | false =>
        go_wp2_with (go_at_fn g; refine hcall.mono ?_; rintro e w' ⟨rfl, k1, k2⟩)
        go_roundg (n - (k + 1))
        case measure => omega
        case rel =>
          refine ⟨k + 1, by omega, by go_num, HB.out.1.then_ k1, k2, fun j hj => ?_⟩
          by_cases e : j = k
          · subst e; exact EQ.out
          · exact HB.out.2.2 j (by omega)
    · go_wp2_with fail
      go_ret
      have e : k = n := by omega
      subst e
      exact ⟨_, rfl, HB.out.1, .inl ⟨rfl, HB.out.2.2, HB.out.2.1⟩⟩
set_option maxRecDepth 100000 in
set_option maxHeartbeats 4000000 in
theorem containsB_c (g : Nat) (lb : Array Value) (eg : ∀ args w, (callFunc g args).run Tryz.prog w = .ok (.enter g args) w) (X : Nat → Prop) (St : Nat → World → Prop) (p : Nat → Bool) {l : List Bd} {ao : Option Addr} {n c : Nat} {w : World}
    (hn : l.length = n) (hmx : n ≤ 4611686018427387904) (hl : LsT encB 11 w ao l) (hX : 0 < n → Offs X ao) (hS0 : St 0 w)
    (hS : ∀ i x u, l[i]? = some x → But X w u → St i u → Calls Tryz.prog g (#[bdV x] ++ lb) u fun e v => e = .returned (.bool (p i)) ∧ But X u v ∧ St (i + 1) v) :
    Calls Tryz.prog 130 #[.slice ao n c, .func (.func g) #[] lb] w fun e v => ∃ r, e = .returned (.bool r) ∧ But X w v ∧ ((r = false ∧ (∀ i, i < n → p i = false) ∧ St n v) ∨ (r = true ∧ ∃ i, i < n ∧ p i = true)) := by
  have HC := hid (idxB_c g lb eg X St p (c := c) hn hmx hl hX hS0 hS)
  clear hn hl hX hS hS0
  go_enter Tryz.func130, Tryz.ntmps130
  go_wp2_with fail
  refine HC.out.mono ?_
  rintro e w1 ⟨r, rfl, k1, h⟩
  rcases h with ⟨rfl, h1, h2⟩ | ⟨i, hi, rfl, h1, h2, h3⟩
  · go_wp2_with fail
    go_ret
    exact ⟨_, rfl, k1, .inl ⟨rfl, h1, h2⟩⟩
  · go_wp2_with fail
    go_ret
    exact ⟨_, rfl, k1, .inr ⟨by simp, i, hi, h1⟩⟩
set_option maxRecDepth 100000 in
set_option maxHeartbeats 4000000 in
theorem notEB_c (g : Nat) (lb : Array Value) (eg : ∀ args w, (callFunc g args).run Tryz.prog w = .ok (.enter g args) w) (X : Nat → Prop) (S : World → Prop) (q : Bool) (x : Bd) (gb : Nat) (u : World)
    (h0 : u.cell? ⟨gb, 0, none⟩ = some (.func (.func g) #[] lb))
    (H : ∀ u', Made u.heap.size u u' → Calls Tryz.prog g (#[bdV x] ++ lb) u' fun e v => e = .returned (.bool q) ∧ But X u' v ∧ S v) :
    Calls Tryz.prog 131 #[bdV x, .pointer (some ⟨gb, 0, none⟩)] u fun e v => e = .returned (.bool (!q)) ∧ But X u v ∧ S v := by
  have hlt : gb < u.heap.size := World.block_lt_of_cell? u _ h0
  have HH := hid H
  clear H
  obtain ⟨x0, x1, x2, x3, x4, x5, x6, x7, x8, x9, x10, x11, x12, x13⟩ := x
  go_enter Tryz.func131, Tryz.ntmps131
  go_wp2_with (go_at_fn g; refine (HH.out _ ((Made.rfl_ _ _).cells (Nat.le_refl _) _ _)).mono ?_; rintro e w' ⟨rfl, k1, k2⟩)
  go_ret
  exact ⟨rfl, (But.rfl_ X u).alloc _ _ |>.then_ k1, k2⟩
set_option maxRecDepth 100000 in
set_option maxHeartbeats 4000000 in
theorem everyB_c (g : Nat) (lb : Array Value) (eg : ∀ args w, (callFunc g args).run Tryz.prog w = .ok (.enter g args) w) (X : Nat → Prop) (St : Nat → World → Prop) (q : Nat → Bool) {l : List Bd} {ao : Option Addr} {n c : Nat} {w : World}
    (hn : l.length = n) (hmx : n ≤ 4611686018427387904) (hl : LsT encB 11 w ao l) (hX : 0 < n → Offs X ao) (hXw : ∀ b, X b → b < w.heap.size) (hSt : ∀ i u v, St i u → Made u.heap.size u v → St i v) (hS0 : St 0 w)
    (hS : ∀ i x u, l[i]? = some x → But X w u → St i u → Calls Tryz.prog g (#[bdV x] ++ lb) u fun e v => e = .returned (.bool (q i)) ∧ But X u v ∧ St (i + 1) v) :
    Calls Tryz.prog 102 #[.slice ao n c, .func (.func g) #[] lb] w fun e v => ∃ r, e = .returned (.bool r) ∧ But X w v ∧ ((r = true ∧ (∀ i, i < n → q i = true) ∧ St n v) ∨ (r = false ∧ ∃ i, i < n ∧ q i = false)) := by
  obtain ⟨W, eW⟩ : ∃ W, W = w.alloc (.cells #[.func (.func g) #[] lb] 84) := ⟨_, rfl⟩
  have kW : Made w.heap.size w W := by rw [eW]; exact (Made.rfl_ _ _).cells (Nat.le_refl _) _ _
  have c0 : W.cell? ⟨w.heap.size, 0, none⟩ = some (.func (.func g) #[] lb) := by rw [eW]; exact (has_new _ _ _).at_ 0
  have hXn : ¬ X w.heap.size := fun h => Nat.lt_irrefl _ (hXw _ h)
  have HC := hid (containsB_c 131 #[.pointer (some ⟨w.heap.size, 0, none⟩)] (by intro args w; rfl) X St (fun i => !q i) (c := c) (w := W) hn hmx (hl.below kW.1) hX (hSt _ _ _ hS0 kW)
    (fun i x u hx hB hs => notEB_c g lb eg X (St (i + 1)) (q i) x w.heap.size u (hB.cell c0 hXn) (fun u' hu => hS i x u' hx ((Made.but kW).then_ (hB.then_ (Made.but hu))) (hSt _ _ _ hs hu))))
  have KW := hid kW
  clear hn hl hX hS hS0 hSt kW c0
  go_enter Tryz.func102, Tryz.ntmps102
  go_wp2_with (rw [← eW]; refine HC.out.mono ?_; rintro e w1 ⟨r, rfl, k1, h⟩)
  go_ret
  refine ⟨_, rfl, (Made.but KW.out).then_ k1, ?_⟩
  rcases h with ⟨rfl, h1, h2⟩ | ⟨rfl, i, hi, h1⟩
  · exact .inl ⟨rfl, fun i hi => by have := h1 i hi; simpa using this, h2⟩
  · exact .inr ⟨rfl, i, hi, by simpa using h1⟩
set_option maxRecDepth 100000 in
set_option maxHeartbeats 4000000 in
theorem idxJ_c (g : Nat) (lb : Array Value) (eg : ∀ args w, (callFunc g args).run Tryz.prog w = .ok (.enter g args) w) (X : Nat → Prop) (St : Nat → World → Prop) (p : Nat → Bool) {l : List Jt} {ao : Option Addr} {n c : Nat} {w : World}
    (hn : l.length = n) (hmx : n ≤ 4611686018427387904) (hl : LsT encJ 8 w ao l) (hX : 0 < n → Offs X ao) (hS0 : St 0 w)
    (hS : ∀ i x u, l[i]? = some x → But X w u → St i u → Calls Tryz.prog g (#[jtV x] ++ lb) u fun e v => e = .returned (.bool (p i)) ∧ But X u v ∧ St (i + 1) v) :
    Calls Tryz.prog 122 #[.slice ao n c, .func (.func g) #[] lb] w fun e v => ∃ r : Int, e = .returned (.int .i64 r) ∧ But X w v ∧ ((r = -1 ∧ (∀ i, i < n → p i = false) ∧ St n v) ∨ ∃ i, i < n ∧ r = i ∧ p i = true ∧ (∀ j, j < i → p j = false) ∧ St (i + 1) v) := by
  have HN := hid hn
  have HL := hid hl
  have HX := hid hX
  have HS := hid hS
  have H0 := hid hS0
  clear hn hl hX hS hS0
  go_enter Tryz.func122, Tryz.ntmps122
  go_wp2_with fail
  go_loopg [5, 8] n (fun gg s5 s8 wx => ∃ k : Nat, k + gg = n ∧ s8 = .int .i64 k ∧ Hid (But X w wx ∧ St k wx ∧ ∀ j, j < k → p j = false))
  case atStart => exact ⟨0, by omega, rfl, But.rfl_ _ _, H0.out, fun j hj => absurd hj (Nat.not_lt_zero _)⟩
  case round =>
    obtain ⟨k, hk, rfl, HB⟩ := hrel
    by_cases hlt : k < n
    · obtain ⟨a, ea⟩ : ∃ a, l[k]? = some a := ⟨_, List.getElem?_eq_getElem (by rw [HN.out]; omega)⟩
      obtain ⟨b, off, rfl, hbl, hLB⟩ := HL.out (by rw [HN.out]; omega)
      have hcall := HS.out k a wr ea HB.out.1 HB.out.2.1
      have hcells := ((hLB.but HB.out.1 (HX.out (by omega) b off _ rfl)) k _ ea).j8
      clear ea hLB
      obtain ⟨x0, x1, x2, x3, x4, x5, x6, x7⟩ := a
      obtain ⟨a0, a1, a2, a3, a4, a5, a6, a7⟩ := hcells
      simp only [] at a0 a1 a2 a3 a4 a5 a6 a7
      obtain ⟨q, eq⟩ : ∃ q, p k = q := ⟨_, rfl⟩
      rw [eq] at hcall
      have EQ := hid eq
      clear eq
      cases q with
      | true =>
        go_wp2_with (go_at_fn g; refine hcall.mono ?_; rintro e w' ⟨rfl, k1, k2⟩)
        go_ret
        exact ⟨_, rfl, HB.out.1.then_ k1, .inr ⟨k, hlt, rfl, EQ.out, HB.out.2.2, k2⟩⟩
      | false =>
        go_wp2_with (go_at_fn g; refine hcall.mono ?_; rintro e w' ⟨rfl, k1, k2⟩)
        go_roundg (n - (k + 1))
        case measure => omega
        case rel =>
          refine ⟨k + 1, by omega, by go_num, HB.out.1.then_ k1, k2, fun j hj => ?_⟩
          by_cases e : j = k
          · subst e; exact EQ.out
          · exact HB.out.2.2 j (by omega)
    · go_wp2_with fail
      go_ret
      have e : k = n := by omega
      subst e
      exact ⟨_, rfl, HB.out.1, .inl ⟨rfl, HB.out.2.2, HB.out.2.1⟩⟩
set_option maxRecDepth 100000 in
set_option maxHeartbeats 4000000 in
theorem containsJ_c (g : Nat) (lb : Array Value) (eg : ∀ args w, (callFunc g args).run Tryz.prog w = .ok (.enter g args) w) (X : Nat → Prop) (St : Nat → World → Prop) (p : Nat → Bool) {l : List Jt} {ao : Option Addr} {n c : Nat} {w : World}
    (hn : l.length = n) (hmx : n ≤ 4611686018427387904) (hl : LsT encJ 8 w ao l) (hX : 0 < n → Offs X ao) (hS0 : St 0 w)
    (hS : ∀ i x u, l[i]? = some x → But X w u → St i u → Calls Tryz.prog g (#[jtV x] ++ lb) u fun e v => e = .returned (.bool (p i)) ∧ But X u v ∧ St (i + 1) v) :
    Calls Tryz.prog 133 #[.slice ao n c, .func (.func g) #[] lb] w fun e v => ∃ r, e = .returned (.bool r) ∧ But X w v ∧ ((r = false ∧ (∀ i, i < n → p i = false) ∧ St n v) ∨ (r = true ∧ ∃ i, i < n ∧ p i = true)) := by
  have HC := hid (idxJ_c g lb eg X St p (c := c) hn hmx hl hX hS0 hS)
  clear hn hl hX hS hS0
  go_enter Tryz.func133, Tryz.ntmps133
  go_wp2_with fail
  refine HC.out.mono ?_
  rintro e w1 ⟨r, rfl, k1, h⟩
  rcases h with ⟨rfl, h1, h2⟩ | ⟨i, hi, rfl, h1, h2, h3⟩
  · go_wp2_with fail
    go_ret
    exact ⟨_, rfl, k1, .inl ⟨rfl, h1, h2⟩⟩
  · go_wp2_with fail
    go_ret
    exact ⟨_, rfl, k1, .inr ⟨by simp, i, hi, h1⟩⟩
set_option maxRecDepth 100000 in
set_option maxHeartbeats 4000000 in
theorem notEJ_c (g : Nat) (lb : Array Value) (eg : ∀ args w, (callFunc g args).run Tryz.prog w = .ok (.enter g args) w) (X : Nat → Prop) (S : World → Prop) (q : Bool) (x : Jt) (gb : Nat) (u : World)
    (h0 : u.cell? ⟨gb, 0, none⟩ = some (.func (.func g) #[] lb))
    (H : ∀ u', Made u.heap.size u u' → Calls Tryz.prog g (#[jtV x] ++ lb) u' fun e v => e = .returned (.bool q) ∧ But X u' v ∧ S v) :
    Calls Tryz.prog 134 #[jtV x, .pointer (some ⟨gb, 0, none⟩)] u fun e v => e = .returned (.bool (!q)) ∧ But X u v ∧ S v := by
  have hlt : gb < u.heap.size := World.block_lt_of_cell? u _ h0
  have HH := hid H
  clear H
  obtain ⟨x0, x1, x2, x3, x4, x5, x6, x7⟩ := x
  go_enter Tryz.func134, Tryz.ntmps134
  go_wp2_with (go_at_fn g; refine (HH.out _ ((Made.rfl_ _ _).cells (Nat.le_refl _) _ _)).mono ?_; rintro e w' ⟨rfl, k1, k2⟩)
  go_ret
  exact ⟨rfl, (But.rfl_ X u).alloc _ _ |>.then_ k1, k2⟩
set_option maxRecDepth 100000 in
set_option maxHeartbeats 4000000 in
theorem everyJ_c (g : Nat) (lb : Array Value) (eg : ∀ args w, (callFunc g args).run Tryz.prog w = .ok (.enter g args) w) (X : Nat → Prop) (St : Nat → World → Prop) (q : Nat → Bool) {l : List Jt} {ao : Option Addr} {n c : Nat} {w : World}
    (hn : l.length = n) (hmx : n ≤ 4611686018427387904) (hl : LsT encJ 8 w ao l) (hX : 0 < n → Offs X ao) (hXw : ∀ b, X b → b < w.heap.size) (hSt : ∀ i u v, St i u → Made u.heap.size u v → St i v) (hS0 : St 0 w)
    (hS : ∀ i x u, l[i]? = some x → But X w u → St i u → Calls Tryz.prog g (#[jtV x] ++ lb) u fun e v => e = .returned (.bool (q i)) ∧ But X u v ∧ St (i + 1) v) :
    Calls Tryz.prog 106 #[.slice ao n c, .func (.func g) #[] lb] w fun e v => ∃ r, e = .returned (.bool r) ∧ But X w v ∧ ((r = true ∧ (∀ i, i < n → q i = true) ∧ St n v) ∨ (r = false ∧ ∃ i, i < n ∧ q i = false)) := by
  obtain ⟨W, eW⟩ : ∃ W, W = w.alloc (.cells #[.func (.func g) #[] lb] 85) := ⟨_, rfl⟩
  have kW : Made w.heap.size w W := by rw [eW]; exact (Made.rfl_ _ _).cells (Nat.le_refl _) _ _
  have c0 : W.cell? ⟨w.heap.size, 0, none⟩ = some (.func (.func g) #[] lb) := by rw [eW]; exact (has_new _ _ _).at_ 0
  have hXn : ¬ X w.heap.size := fun h => Nat.lt_irrefl _ (hXw _ h)
  have HC := hid (containsJ_c 134 #[.pointer (some ⟨w.heap.size, 0, none⟩)] (by intro args w; rfl) X St (fun i => !q i) (c := c) (w := W) hn hmx (hl.below kW.1) hX (hSt _ _ _ hS0 kW)
    (fun i x u hx hB hs => notEJ_c g lb eg X (St (i + 1)) (q i) x w.heap.size u (hB.cell c0 hXn) (fun u' hu => hS i x u' hx ((Made.but kW).then_ (hB.then_ (Made.but hu))) (hSt _ _ _ hs hu))))
  have KW := hid kW
  clear hn hl hX hS hS0 hSt kW c0
  go_enter Tryz.func106, Tryz.ntmps106
  go_wp2_with (rw [← eW]; refine HC.out.mono ?_; rintro e w1 ⟨r, rfl, k1, h⟩)
  go_ret
  refine ⟨_, rfl, (Made.but KW.out).then_ k1, ?_⟩
  rcases h with ⟨rfl, h1, h2⟩ | ⟨rfl, i, hi, h1⟩
  · exact .inl ⟨rfl, fun i hi => by have := h1 i hi; simpa using this, h2⟩
  · exact .inr ⟨rfl, i, hi, by simpa using h1⟩
set_option maxRecDepth 100000 in
set_option maxHeartbeats 4000000 in
theorem idxC_c (g : Nat) (lb : Array Value) (eg : ∀ args w, (callFunc g args).run Tryz.prog w = .ok (.enter g args) w) (X : Nat → Prop) (St : Nat → World → Prop) (p : Nat → Bool) {l : List Ct} {ao : Option Addr} {n c : Nat} {w : World}
    (hn : l.length = n) (hmx : n ≤ 4611686018427387904) (hl : LsT encC 5 w ao l) (hX : 0 < n → Offs X ao) (hS0 : St 0 w)
    (hS : ∀ i x u, l[i]? = some x → But X w u → St i u → Calls Tryz.prog g (#[ctV x] ++ lb) u fun e v => e = .returned (.bool (p i)) ∧ But X u v ∧ St (i + 1) v) :
    Calls Tryz.prog 123 #[.slice ao n c, .func (.func g) #[] lb] w fun e v => ∃ r : Int, e = .returned (.int .i64 r) ∧ But X w v ∧ ((r = -1 ∧ (∀ i, i < n → p i = false) ∧ St n v) ∨ ∃ i, i < n ∧ r = i ∧ p i = true ∧ (∀ j, j < i → p j = false) ∧ St (i + 1) v) := by
  have HN := hid hn
  have HL := hid hl
  have HX := hid hX
  have HS := hid hS
  have H0 := hid hS0
  clear hn hl hX hS hS0
  go_enter Tryz.func123, Tryz.ntmps123
  go_wp2_with fail
  go_loopg [5, 8] n (fun gg s5 s8 wx => ∃ k : Nat, k + gg = n ∧ s8 = .int .i64 k ∧ Hid (But X w wx ∧ St k wx ∧ ∀ j, j < k → p j = false))
  case atStart => exact ⟨0, by omega, rfl, But.rfl_ _ _, H0.out, fun j hj => absurd hj (Nat.not_lt_zero _)⟩
  case round =>
    obtain ⟨k, hk, rfl, HB⟩ := hrel
    by_cases hlt : k < n
    · obtain ⟨a, ea⟩ : ∃ a, l[k]? = some a := ⟨_, List.getElem?_eq_getElem (by rw [HN.out]; omega)⟩
      obtain ⟨b, off, rfl, hbl, hLB⟩ := HL.out (by rw [HN.out]; omega)
      have hcall := HS.out k a wr ea HB.out.1 HB.out.2.1
      have hcells := ((hLB.but HB.out.1 (HX.out (by omega) b off _ rfl)) k _ ea).c5
      clear ea hLB
      obtain ⟨x0, x1, x2, x3, x4⟩ := a
      obtain ⟨a0, a1, a2, a3, a4⟩ := hcells
      simp only [] at a0 a1 a2 a3 a4
      obtain ⟨q, eq⟩ : ∃ q, p k = q := ⟨_, rfl⟩
      rw [eq] at hcall
      have EQ := hid eq
      clear eq
      cases q with
      | true =>
        go_wp2_with (go_at_fn g; refine hcall.mono ?_; rintro e w' ⟨rfl, k1, k2⟩)
        go_ret
        exact ⟨_, rfl, HB.out.1.then_ k1, .inr ⟨k, hlt, rfl, EQ.out, HB.out.2.2, k2⟩⟩
      | false =>
        go_wp2_with (go_at_fn g; refine hcall.mono ?_; rintro e w' ⟨rfl, k1, k2⟩)
        go_roundg (n - (k + 1))
        case measure => omega
        case rel =>
          refine ⟨k + 1, by omega, by go_num, HB.out.1.then_ k1, k2, fun j hj => ?_⟩
          by_cases e : j = k
          · subst e; exact EQ.out
          · exact HB.out.2.2 j (by omega)
    · go_wp2_with fail
      go_ret
      have e : k = n := by omega
      subst e
      exact ⟨_, rfl, HB.out.1, .inl ⟨rfl, HB.out.2.2, HB.out.2.1⟩⟩
set_option maxRecDepth 100000 in
set_option maxHeartbeats 4000000 in
theorem containsC_c (g : Nat) (lb : Array Value) (eg : ∀ args w, (callFunc g args).run Tryz.prog w = .ok (.enter g args) w) (X : Nat → Prop) (St : Nat → World → Prop) (p : Nat → Bool) {l : List Ct} {ao : Option Addr} {n c : Nat} {w : World}
    (hn : l.length = n) (hmx : n ≤ 4611686018427387904) (hl : LsT encC 5 w ao l) (hX : 0 < n → Offs X ao) (hS0 : St 0 w)
    (hS : ∀ i x u, l[i]? = some x → But X w u → St i u → Calls Tryz.prog g (#[ctV x] ++ lb) u fun e v => e = .returned (.bool (p i)) ∧ But X u v ∧ St (i + 1) v) :
    Calls Tryz.prog 136 #[.slice ao n c, .func (.func g) #[] lb] w fun e v => ∃ r, e = .returned (.bool r) ∧ But X w v ∧ ((r = false ∧ (∀ i, i < n → p i = false) ∧ St n v) ∨ (r = true ∧ ∃ i, i < n ∧ p i = true)) := by
  have HC := hid (idxC_c g lb eg X St p (c := c) hn hmx hl hX hS0 hS)
  clear hn hl hX hS hS0
  go_enter Tryz.func136, Tryz.ntmps136
  go_wp2_with fail
  refine HC.out.mono ?_
  rintro e w1 ⟨r, rfl, k1, h⟩
  rcases h with ⟨rfl, h1, h2⟩ | ⟨i, hi, rfl, h1, h2, h3⟩
  · go_wp2_with fail
    go_ret
    exact ⟨_, rfl, k1, .inl ⟨rfl, h1, h2⟩⟩
  · go_wp2_with fail
    go_ret
    exact ⟨_, rfl, k1, .inr ⟨by simp, i, hi, h1⟩⟩
set_option maxRecDepth 100000 in
set_option maxHeartbeats 4000000 in
theorem notEC_c (g : Nat) (lb : Array Value) (eg : ∀ args w, (callFunc g args).run Tryz.prog w = .ok (.enter g args) w) (X : Nat → Prop) (S : World → Prop) (q : Bool) (x : Ct) (gb : Nat) (u : World)
    (h0 : u.cell? ⟨gb, 0, none⟩ = some (.func (.func g) #[] lb))
    (H : ∀ u', Made u.heap.size u u' → Calls Tryz.prog g (#[ctV x] ++ lb) u' fun e v => e = .returned (.bool q) ∧ But X u' v ∧ S v) :
    Calls Tryz.prog 137 #[ctV x, .pointer (some ⟨gb, 0, none⟩)] u fun e v => e = .returned (.bool (!q)) ∧ But X u v ∧ S v := by
  have hlt : gb < u.heap.size := World.block_lt_of_cell? u _ h0
  have HH := hid H
  clear H
  obtain ⟨x0, x1, x2, x3, x4⟩ := x
  go_enter Tryz.func137, Tryz.ntmps137
  go_wp2_with (go_at_fn g; refine (HH.out _ ((Made.rfl_ _ _).cells (Nat.le_refl _) _ _)).mono ?_; rintro e w' ⟨rfl, k1, k2⟩)
  go_ret
  exact ⟨rfl, (But.rfl_ X u).alloc _ _ |>.then_ k1, k2⟩
set_option maxRecDepth 100000 in
set_option maxHeartbeats 4000000 in
theorem everyC_c (g : Nat) (lb : Array Value) (eg : ∀ args w, (callFunc g args).run Tryz.prog w = .ok (.enter g args) w) (X : Nat → Prop) (St : Nat → World → Prop) (q : Nat → Bool) {l : List Ct} {ao : Option Addr} {n c : Nat} {w : World}
    (hn : l.length = n) (hmx : n ≤ 4611686018427387904) (hl : LsT encC 5 w ao l) (hX : 0 < n → Offs X ao) (hXw : ∀ b, X b → b < w.heap.size) (hSt : ∀ i u v, St i u → Made u.heap.size u v → St i v) (hS0 : St 0 w)
    (hS : ∀ i x u, l[i]? = some x → But X w u → St i u → Calls Tryz.prog g (#[ctV x] ++ lb) u fun e v => e = .returned (.bool (q i)) ∧ But X u v ∧ St (i + 1) v) :
    Calls Tryz.prog 110 #[.slice ao n c, .func (.func g) #[] lb] w fun e v => ∃ r, e = .returned (.bool r) ∧ But X w v ∧ ((r = true ∧ (∀ i, i < n → q i = true) ∧ St n v) ∨ (r = false ∧ ∃ i, i < n ∧ q i = false)) := by
  obtain ⟨W, eW⟩ : ∃ W, W = w.alloc (.cells #[.func (.func g) #[] lb] 102) := ⟨_, rfl⟩
  have kW : Made w.heap.size w W := by rw [eW]; exact (Made.rfl_ _ _).cells (Nat.le_refl _) _ _
  have c0 : W.cell? ⟨w.heap.size, 0, none⟩ = some (.func (.func g) #[] lb) := by rw [eW]; exact (has_new _ _ _).at_ 0
  have hXn : ¬ X w.heap.size := fun h => Nat.lt_irrefl _ (hXw _ h)
  have HC := hid (containsC_c 137 #[.pointer (some ⟨w.heap.size, 0, none⟩)] (by intro args w; rfl) X St (fun i => !q i) (c := c) (w := W) hn hmx (hl.below kW.1) hX (hSt _ _ _ hS0 kW)
    (fun i x u hx hB hs => notEC_c g lb eg X (St (i + 1)) (q i) x w.heap.size u (hB.cell c0 hXn) (fun u' hu => hS i x u' hx ((Made.but kW).then_ (hB.then_ (Made.but hu))) (hSt _ _ _ hs hu))))
  have KW := hid kW
  clear hn hl hX hS hS0 hSt kW c0
  go_enter Tryz.func110, Tryz.ntmps110
  go_wp2_with (rw [← eW]; refine HC.out.mono ?_; rintro e w1 ⟨r, rfl, k1, h⟩)
  go_ret
  refine ⟨_, rfl, (Made.but KW.out).then_ k1, ?_⟩
  rcases h with ⟨rfl, h1, h2⟩ | ⟨rfl, i, hi, h1⟩
  · exact .inl ⟨rfl, fun i hi => by have := h1 i hi; simpa using this, h2⟩
  · exact .inr ⟨rfl, i, hi, by simpa using h1⟩
end Go.Proofs.YtfncelifflebbaaGreat.Fx

