/- WoB -/
import Derived.Test.YtfncelifflebbaaGreatV7
import Derived.BigQuiet

/- find over bodies, joints and contacts; Body, Joint, exist. -/


namespace Go.Proofs.YtfncelifflebbaaGreat.Fx
open Go.ChangeShapes Go.WideShapes Go.ChangeAt Go.RowKit
set_option linter.unusedVariables false

abbrev wdV (tk nb nj gx gy : Int) (sb sj sc : Value) : Value := .agg #[.int .i64 tk, .int .i64 nb, .int .i64 nj, .int .i64 gx, .int .i64 gy, sb, sj, sc]
theorem has_nxt' (w : World) (o : Obj) (t : TypeId) (A : Array Value) : Has ((w.alloc o).alloc (.cells A t)) (w.heap.size + 1) t A := by simpa using has_new (w.alloc o) t A
set_option maxRecDepth 100000 in
set_option maxHeartbeats 4000000 in
theorem findEB_c (g : Nat) (lb : Array Value) (eg : ∀ args w, (callFunc g args).run Tryz.prog w = .ok (.enter g args) w) (z : Int) (x : Bd) {l : List Bd} (ao : Option Addr) (i n c gb gl : Nat) (u : World) (hn : l.length = n) (hl : LsT encB 11 u ao l) (hx : l[i]? = some x)
    (h0 : u.cell? ⟨gb, 0, none⟩ = some (.func (.func g) #[] lb)) (h1 : u.cell? ⟨gl, 0, none⟩ = some (.slice ao n c)) (hmx : n ≤ 1073741824)
    (H : ∀ u', Made u.heap.size u u' → Calls Tryz.prog g (#[bdV x] ++ lb) u' fun e v => e = .returned (.int .i64 z) ∧ Made u'.heap.size u' v) :
    Calls Tryz.prog 142 #[.int .i64 (i : Nat), .pointer (some ⟨gb, 0, none⟩), .pointer (some ⟨gl, 0, none⟩)] u fun e v => e = .returned (.int .i64 z) ∧ Made u.heap.size u v := by
  have hin : i < n := by rw [← hn]; exact (List.getElem?_eq_some_iff.1 hx).1
  obtain ⟨b, off, rfl, hbl, hLB⟩ := hl (by omega)
  have hcells := (hLB i _ hx).b11
  have HH := hid H
  clear H hLB hx hl
  obtain ⟨x0, x1, x2, x3, x4, x5, x6, x7, x8, x9, x10, x11, x12, x13⟩ := x
  obtain ⟨a0, a1, a2, a3, a4, a5, a6, a7, a8, a9, a10⟩ := hcells
  simp only [] at a0 a1 a2 a3 a4 a5 a6 a7 a8 a9 a10
  go_enter Tryz.func142, Tryz.ntmps142
  go_wp2_with fail
  refine reg_made (by kernel_rfl) (by kernel_rfl) ?_
  intro T hT fw hf
  have h0 := Class.reads hf h0
  have h1 := Class.reads hf h1
  have a0 := Class.reads hf a0
  have a1 := Class.reads hf a1
  have a2 := Class.reads hf a2
  have a3 := Class.reads hf a3
  have a4 := Class.reads hf a4
  have a5 := Class.reads hf a5
  have a6 := Class.reads hf a6
  have a7 := Class.reads hf a7
  have a8 := Class.reads hf a8
  have a9 := Class.reads hf a9
  have a10 := Class.reads hf a10
  repeat (go_big_quiet_step ((go_at_fn g; exact hf.made (HH.out _ (hf.1 _)))))
  refine wpQuiet_nil ?_
  intro w3 h3
  have k3 := hf.here h3
  go_wp2_with fail
  go_ret
  exact ⟨rfl, k3⟩
set_option maxRecDepth 100000 in
set_option maxHeartbeats 4000000 in
theorem findB_c (g : Nat) (lb : Array Value) (eg : ∀ args w, (callFunc g args).run Tryz.prog w = .ok (.enter g args) w) (f : Nat → Int) {l : List Bd} {ao : Option Addr} {n c : Nat} {w : World} (hn : l.length = n) (hmx : n ≤ 1073741824) (hl : LsT encB 11 w ao l)
    (hm : ∀ i j, i < j → j < n → f i ≤ 0 → f j < 0)
    (hS : ∀ i x u, l[i]? = some x → Made w.heap.size w u → Calls Tryz.prog g (#[bdV x] ++ lb) u fun e v => e = .returned (.int .i64 (f i)) ∧ Made u.heap.size u v) :
    Calls Tryz.prog 119 #[.slice ao n c, .func (.func g) #[] lb] w fun e v => ∃ (i : Nat) (r : Bool), e = .returned (.tuple #[.int .i64 (i : Nat), .bool r]) ∧ Made w.heap.size w v ∧ (r = true → i < n ∧ f i = 0) ∧ (r = false → i = 0 ∧ ∀ k, k < n → f k ≠ 0) := by
  obtain ⟨W, eW⟩ : ∃ W, W = (w.alloc (.cells #[.slice ao n c] 45)).alloc (.cells #[.func (.func g) #[] lb] 137) := ⟨_, rfl⟩
  have kW : Made w.heap.size w W := by rw [eW]; exact ((Made.rfl_ _ _).cells (Nat.le_refl _) _ _).cells (by simp) _ _
  have c0 : W.cell? ⟨w.heap.size, 0, none⟩ = some (.slice ao n c) := by rw [eW]; exact (((has_new _ _ _).more _).at_ 0)
  have c1 : W.cell? ⟨w.heap.size + 1, 0, none⟩ = some (.func (.func g) #[] lb) := by rw [eW]; exact (has_nxt' _ _ _ _).at_ 0
  have HC := hid (sfind_c 142 #[.pointer (some ⟨w.heap.size + 1, 0, none⟩), .pointer (some ⟨w.heap.size, 0, none⟩)] (by intro args w; rfl) f (n := n) (w := W) hmx
    (fun i j hij hj h => by rcases Nat.lt_or_eq_of_le hij with h1 | h1
                            · exact Int.le_of_lt (hm i j h1 hj h)
                            · subst h1; exact h)
    (fun i u hi hu => by
      have hx : l[i]? = some l[i] := List.getElem?_eq_getElem (by rw [hn]; exact hi)
      exact findEB_c g lb eg (f i) l[i] ao i n c _ _ u hn ((hl.below kW.1).below hu.1) hx (hu.reads c1) (hu.reads c0) hmx (fun u' hu' => hS i _ u' hx (kW.then_ ((hu.then_ (hu'.low hu.1.size)).low kW.1.size)))))
  have KW := hid kW
  have HM := hid hm
  have l0 : w.heap.size < W.heap.size := World.block_lt_of_cell? _ _ c0
  have l1 : w.heap.size + 1 < W.heap.size := World.block_lt_of_cell? _ _ c1
  clear hn hl hS kW hm
  go_enter Tryz.func119, Tryz.ntmps119
  go_upto_region 1 with fail
  rw [← eW]
  clear eW
  go_wp2_with fail
  refine HC.out.mono ?_
  rintro e w1 ⟨i, r, hi, rfl, k1, h1', h2', h3'⟩
  have h1 := hid h1'
  have h2 := hid h2'
  have h3 := hid h3'
  clear h1' h2' h3'
  cases r with
  | true =>
    go_wp2_with fail
    refine bodyPost_ret (v := .tuple #[.int .i64 (i : Nat), .bool true]) (by simp [results, Tryz.results119, go_sem]) rfl ⟨i, true, rfl, KW.out.then_ (k1.low KW.out.1.size), fun _ => h3.out.1 (by simp), fun e => (by cases e)⟩
  | false =>
    go_wp2_with fail
    refine bodyPost_ret (v := .tuple #[.int .i64 ((0 : Nat) : Int), .bool false]) (by simp [results, Tryz.results119, go_sem]) rfl ⟨0, false, rfl, KW.out.then_ (k1.low KW.out.1.size), fun e => (by cases e), fun _ => ⟨rfl, fun k hk hz => ?_⟩⟩
    rcases Nat.lt_or_ge k i with h4 | h4
    · have := h1.out k h4; omega
    · have h5 : i < n := by omega
      have h6 : f i ≠ 0 := fun h => by have := h3.out.2 ⟨h5, h⟩; cases this
      have h7 := h2.out i (Nat.le_refl _) h5
      rcases Nat.lt_or_eq_of_le h4 with h8 | h8
      · have := HM.out i k h8 hk h7; omega
      · subst h8; exact h6 hz
set_option maxRecDepth 100000 in
set_option maxHeartbeats 4000000 in
theorem findEJ_c (g : Nat) (lb : Array Value) (eg : ∀ args w, (callFunc g args).run Tryz.prog w = .ok (.enter g args) w) (z : Int) (x : Jt) {l : List Jt} (ao : Option Addr) (i n c gb gl : Nat) (u : World) (hn : l.length = n) (hl : LsT encJ 8 u ao l) (hx : l[i]? = some x)
    (h0 : u.cell? ⟨gb, 0, none⟩ = some (.func (.func g) #[] lb)) (h1 : u.cell? ⟨gl, 0, none⟩ = some (.slice ao n c)) (hmx : n ≤ 1073741824)
    (H : ∀ u', Made u.heap.size u u' → Calls Tryz.prog g (#[jtV x] ++ lb) u' fun e v => e = .returned (.int .i64 z) ∧ Made u'.heap.size u' v) :
    Calls Tryz.prog 125 #[.int .i64 (i : Nat), .pointer (some ⟨gb, 0, none⟩), .pointer (some ⟨gl, 0, none⟩)] u fun e v => e = .returned (.int .i64 z) ∧ Made u.heap.size u v := by
  have hin : i < n := by rw [← hn]; exact (List.getElem?_eq_some_iff.1 hx).1
  obtain ⟨b, off, rfl, hbl, hLB⟩ := hl (by omega)
  have hcells := (hLB i _ hx).j8
  have HH := hid H
  clear H hLB hx hl
  obtain ⟨x0, x1, x2, x3, x4, x5, x6, x7⟩ := x
  obtain ⟨a0, a1, a2, a3, a4, a5, a6, a7⟩ := hcells
  simp only [] at a0 a1 a2 a3 a4 a5 a6 a7
  go_enter Tryz.func125, Tryz.ntmps125
  go_wp2_with fail
  refine reg_made (by kernel_rfl) (by kernel_rfl) ?_
  intro T hT fw hf
  have h0 := Class.reads hf h0
  have h1 := Class.reads hf h1
  have a0 := Class.reads hf a0
  have a1 := Class.reads hf a1
  have a2 := Class.reads hf a2
  have a3 := Class.reads hf a3
  have a4 := Class.reads hf a4
  have a5 := Class.reads hf a5
  have a6 := Class.reads hf a6
  have a7 := Class.reads hf a7
  repeat (go_big_quiet_step ((go_at_fn g; exact hf.made (HH.out _ (hf.1 _)))))
  refine wpQuiet_nil ?_
  intro w3 h3
  have k3 := hf.here h3
  go_wp2_with fail
  go_ret
  exact ⟨rfl, k3⟩
set_option maxRecDepth 100000 in
set_option maxHeartbeats 4000000 in
theorem findJ_c (g : Nat) (lb : Array Value) (eg : ∀ args w, (callFunc g args).run Tryz.prog w = .ok (.enter g args) w) (f : Nat → Int) {l : List Jt} {ao : Option Addr} {n c : Nat} {w : World} (hn : l.length = n) (hmx : n ≤ 1073741824) (hl : LsT encJ 8 w ao l)
    (hm : ∀ i j, i < j → j < n → f i ≤ 0 → f j < 0)
    (hS : ∀ i x u, l[i]? = some x → Made w.heap.size w u → Calls Tryz.prog g (#[jtV x] ++ lb) u fun e v => e = .returned (.int .i64 (f i)) ∧ Made u.heap.size u v) :
    Calls Tryz.prog 91 #[.slice ao n c, .func (.func g) #[] lb] w fun e v => ∃ (i : Nat) (r : Bool), e = .returned (.tuple #[.int .i64 (i : Nat), .bool r]) ∧ Made w.heap.size w v ∧ (r = true → i < n ∧ f i = 0) ∧ (r = false → i = 0 ∧ ∀ k, k < n → f k ≠ 0) := by
  obtain ⟨W, eW⟩ : ∃ W, W = (w.alloc (.cells #[.slice ao n c] 46)).alloc (.cells #[.func (.func g) #[] lb] 126) := ⟨_, rfl⟩
  have kW : Made w.heap.size w W := by rw [eW]; exact ((Made.rfl_ _ _).cells (Nat.le_refl _) _ _).cells (by simp) _ _
  have c0 : W.cell? ⟨w.heap.size, 0, none⟩ = some (.slice ao n c) := by rw [eW]; exact (((has_new _ _ _).more _).at_ 0)
  have c1 : W.cell? ⟨w.heap.size + 1, 0, none⟩ = some (.func (.func g) #[] lb) := by rw [eW]; exact (has_nxt' _ _ _ _).at_ 0
  have HC := hid (sfind_c 125 #[.pointer (some ⟨w.heap.size + 1, 0, none⟩), .pointer (some ⟨w.heap.size, 0, none⟩)] (by intro args w; rfl) f (n := n) (w := W) hmx
    (fun i j hij hj h => by rcases Nat.lt_or_eq_of_le hij with h1 | h1
                            · exact Int.le_of_lt (hm i j h1 hj h)
                            · subst h1; exact h)
    (fun i u hi hu => by
      have hx : l[i]? = some l[i] := List.getElem?_eq_getElem (by rw [hn]; exact hi)
      exact findEJ_c g lb eg (f i) l[i] ao i n c _ _ u hn ((hl.below kW.1).below hu.1) hx (hu.reads c1) (hu.reads c0) hmx (fun u' hu' => hS i _ u' hx (kW.then_ ((hu.then_ (hu'.low hu.1.size)).low kW.1.size)))))
  have KW := hid kW
  have HM := hid hm
  have l0 : w.heap.size < W.heap.size := World.block_lt_of_cell? _ _ c0
  have l1 : w.heap.size + 1 < W.heap.size := World.block_lt_of_cell? _ _ c1
  clear hn hl hS kW hm
  go_enter Tryz.func91, Tryz.ntmps91
  go_upto_region 1 with fail
  rw [← eW]
  clear eW
  go_wp2_with fail
  refine HC.out.mono ?_
  rintro e w1 ⟨i, r, hi, rfl, k1, h1', h2', h3'⟩
  have h1 := hid h1'
  have h2 := hid h2'
  have h3 := hid h3'
  clear h1' h2' h3'
  cases r with
  | true =>
    go_wp2_with fail
    refine bodyPost_ret (v := .tuple #[.int .i64 (i : Nat), .bool true]) (by simp [results, Tryz.results91, go_sem]) rfl ⟨i, true, rfl, KW.out.then_ (k1.low KW.out.1.size), fun _ => h3.out.1 (by simp), fun e => (by cases e)⟩
  | false =>
    go_wp2_with fail
    refine bodyPost_ret (v := .tuple #[.int .i64 ((0 : Nat) : Int), .bool false]) (by simp [results, Tryz.results91, go_sem]) rfl ⟨0, false, rfl, KW.out.then_ (k1.low KW.out.1.size), fun e => (by cases e), fun _ => ⟨rfl, fun k hk hz => ?_⟩⟩
    rcases Nat.lt_or_ge k i with h4 | h4
    · have := h1.out k h4; omega
    · have h5 : i < n := by omega
      have h6 : f i ≠ 0 := fun h => by have := h3.out.2 ⟨h5, h⟩; cases this
      have h7 := h2.out i (Nat.le_refl _) h5
      rcases Nat.lt_or_eq_of_le h4 with h8 | h8
      · have := HM.out i k h8 hk h7; omega
      · subst h8; exact h6 hz
set_option maxRecDepth 100000 in
set_option maxHeartbeats 4000000 in
theorem body1_c (id : Int) (x : Bd) (gi : Nat) (u : World) (h0 : u.cell? ⟨gi, 0, none⟩ = some (.int .i64 id)) :
    Calls Tryz.prog 120 #[bdV x, .pointer (some ⟨gi, 0, none⟩)] u fun e v => e = .returned (.int .i64 (cmpG id x.id)) ∧ Made u.heap.size u v := by
  have hlt : gi < u.heap.size := World.block_lt_of_cell? u _ h0
  obtain ⟨x0, x1, x2, x3, x4, x5, x6, x7, x8, x9, x10, x11, x12, x13⟩ := x
  have H := hid (fun w => cmpW_c id x0 w)
  simp only []
  generalize cmpG id x0 = r at H ⊢
  go_enter Tryz.func120, Tryz.ntmps120
  go_wp2_with (go_at_call 93; refine (H.out _).mono ?_; rintro e w' ⟨rfl, rfl⟩)
  go_ret
  exact ⟨rfl, (Made.rfl_ _ _).cells (Nat.le_refl _) _ _⟩
set_option maxRecDepth 100000 in
set_option maxHeartbeats 4000000 in
theorem wbody_c (tk nb nj gx gy : Int) (oj oc : Option Addr) (nn cj nc cc : Nat) {l : List Bd} {ao : Option Addr} {n c : Nat} {w : World} (id : Int) (hn : l.length = n) (hmx : n ≤ 1073741824) (hl : LsT encB 11 w ao l) (hup : (l.map (·.id)).Pairwise (· < ·)) :
    Calls Tryz.prog 86 #[wdV tk nb nj gx gy (.slice ao n c) (.slice oj nn cj) (.slice oc nc cc), .int .i64 id] w fun e v => ∃ (i : Nat) (r : Bool), e = .returned (.tuple #[.int .i64 (i : Nat), .bool r]) ∧ Made w.heap.size w v ∧ (r = true → ∃ x, l[i]? = some x ∧ x.id = id) ∧ (r = false → i = 0 ∧ ∀ x ∈ l, x.id ≠ id) := by
  obtain ⟨W, eW⟩ : ∃ W, W = (w.alloc (.cells #[.int .i64 tk, .int .i64 nb, .int .i64 nj, .int .i64 gx, .int .i64 gy, .slice ao n c, .slice oj nn cj, .slice oc nc cc] 49)).alloc (.cells #[.int .i64 id] 3) := ⟨_, rfl⟩
  have kW : Made w.heap.size w W := by rw [eW]; exact ((Made.rfl_ _ _).cells (Nat.le_refl _) _ _).cells (by simp) _ _
  have c5 : W.cell? ⟨w.heap.size, 5, none⟩ = some (.slice ao n c) := by rw [eW]; exact (((has_new _ _ _).more _).at_ 5)
  have c1 : W.cell? ⟨w.heap.size + 1, 0, none⟩ = some (.int .i64 id) := by rw [eW]; exact (has_nxt' _ _ _ _).at_ 0
  have hlt : ∀ i j (x y : Bd), i < j → l[i]? = some x → l[j]? = some y → x.id < y.id := fun i j x y hij hx hy => by
    have := List.pairwise_iff_getElem.1 hup i j (by simpa using (List.getElem?_eq_some_iff.1 hx).1) (by simpa using (List.getElem?_eq_some_iff.1 hy).1) hij
    simpa [(List.getElem?_eq_some_iff.1 hx).2, (List.getElem?_eq_some_iff.1 hy).2] using this
  have gx : ∀ i, i < n → ∃ x, l[i]? = some x := fun i hi => ⟨_, List.getElem?_eq_getElem (by rw [hn]; exact hi)⟩
  have HC := hid (findB_c 120 #[.pointer (some ⟨w.heap.size + 1, 0, none⟩)] (by intro args w; rfl) (fun i => match l[i]? with | some x => cmpG id x.id | none => 0) (c := c) (w := W) hn hmx (hl.below kW.1)
    (fun i j hij hj h => by
      obtain ⟨x, hx⟩ := gx i (by omega)
      obtain ⟨y, hy⟩ := gx j hj
      have := hlt i j x y hij hx hy
      simp only [hx, hy] at h ⊢
      have h1 := cmpG_pos id x.id
      have h2 := cmpG_neg id y.id
      omega)
    (fun i x u hx hu => by
      simp only [hx]
      exact body1_c id x _ u (hu.reads c1)))
  have KW := hid kW
  have HG := hid gx
  have l0 : w.heap.size < W.heap.size := World.block_lt_of_cell? _ _ c5
  have l1 : w.heap.size + 1 < W.heap.size := World.block_lt_of_cell? _ _ c1
  clear hl kW hup hlt gx
  have HN := hid hn
  clear hn
  go_enter Tryz.func86, Tryz.ntmps86
  go_upto_region 1 with fail
  rw [← eW]
  clear eW
  go_wp2_with fail
  refine HC.out.mono ?_
  rintro e w1 ⟨i, r, rfl, k1, h1, h2⟩
  go_wp2_with fail
  refine bodyPost_ret (v := .tuple #[.int .i64 (i : Nat), .bool r]) (by simp [results, Tryz.results86, go_sem]) rfl ⟨i, r, rfl, KW.out.then_ (k1.low KW.out.1.size), fun hr => ?_, fun hr => ⟨(h2 hr).1, fun x hx e => ?_⟩⟩
  · obtain ⟨h3, h4⟩ := h1 hr
    obtain ⟨x, hx⟩ := HG.out i h3
    simp only [hx] at h4
    exact ⟨x, hx, ((cmpG_zero _ _).1 h4).symm⟩
  · obtain ⟨j, hj⟩ := List.mem_iff_getElem?.1 hx
    have h3 := (h2 hr).2 j (by rw [← HN.out]; exact (List.getElem?_eq_some_iff.1 hj).1)
    simp only [hj] at h3
    exact h3 ((cmpG_zero _ _).2 e.symm)
set_option maxRecDepth 100000 in
set_option maxHeartbeats 4000000 in
theorem joint1_c (id : Int) (x : Jt) (gi : Nat) (u : World) (h0 : u.cell? ⟨gi, 0, none⟩ = some (.int .i64 id)) :
    Calls Tryz.prog 92 #[jtV x, .pointer (some ⟨gi, 0, none⟩)] u fun e v => e = .returned (.int .i64 (cmpG id x.id)) ∧ Made u.heap.size u v := by
  have hlt : gi < u.heap.size := World.block_lt_of_cell? u _ h0
  obtain ⟨x0, x1, x2, x3, x4, x5, x6, x7⟩ := x
  have H := hid (fun w => cmpW_c id x0 w)
  simp only []
  generalize cmpG id x0 = r at H ⊢
  go_enter Tryz.func92, Tryz.ntmps92
  go_wp2_with (go_at_call 93; refine (H.out _).mono ?_; rintro e w' ⟨rfl, rfl⟩)
  go_ret
  exact ⟨rfl, (Made.rfl_ _ _).cells (Nat.le_refl _) _ _⟩
set_option maxRecDepth 100000 in
set_option maxHeartbeats 4000000 in
theorem wjoint_c (tk nb nj gx gy : Int) (ob oc : Option Addr) (nn cb nc cc : Nat) {l : List Jt} {ao : Option Addr} {n c : Nat} {w : World} (id : Int) (hn : l.length = n) (hmx : n ≤ 1073741824) (hl : LsT encJ 8 w ao l) (hup : (l.map (·.id)).Pairwise (· < ·)) :
    Calls Tryz.prog 57 #[wdV tk nb nj gx gy (.slice ob nn cb) (.slice ao n c) (.slice oc nc cc), .int .i64 id] w fun e v => ∃ (i : Nat) (r : Bool), e = .returned (.tuple #[.int .i64 (i : Nat), .bool r]) ∧ Made w.heap.size w v ∧ (r = true → ∃ x, l[i]? = some x ∧ x.id = id) ∧ (r = false → i = 0 ∧ ∀ x ∈ l, x.id ≠ id) := by
  obtain ⟨W, eW⟩ : ∃ W, W = (w.alloc (.cells #[.int .i64 tk, .int .i64 nb, .int .i64 nj, .int .i64 gx, .int .i64 gy, .slice ob nn cb, .slice ao n c, .slice oc nc cc] 49)).alloc (.cells #[.int .i64 id] 3) := ⟨_, rfl⟩
  have kW : Made w.heap.size w W := by rw [eW]; exact ((Made.rfl_ _ _).cells (Nat.le_refl _) _ _).cells (by simp) _ _
  have c5 : W.cell? ⟨w.heap.size, 6, none⟩ = some (.slice ao n c) := by rw [eW]; exact (((has_new _ _ _).more _).at_ 6)
  have c1 : W.cell? ⟨w.heap.size + 1, 0, none⟩ = some (.int .i64 id) := by rw [eW]; exact (has_nxt' _ _ _ _).at_ 0
  have hlt : ∀ i j (x y : Jt), i < j → l[i]? = some x → l[j]? = some y → x.id < y.id := fun i j x y hij hx hy => by
    have := List.pairwise_iff_getElem.1 hup i j (by simpa using (List.getElem?_eq_some_iff.1 hx).1) (by simpa using (List.getElem?_eq_some_iff.1 hy).1) hij
    simpa [(List.getElem?_eq_some_iff.1 hx).2, (List.getElem?_eq_some_iff.1 hy).2] using this
  have gx : ∀ i, i < n → ∃ x, l[i]? = some x := fun i hi => ⟨_, List.getElem?_eq_getElem (by rw [hn]; exact hi)⟩
  have HC := hid (findJ_c 92 #[.pointer (some ⟨w.heap.size + 1, 0, none⟩)] (by intro args w; rfl) (fun i => match l[i]? with | some x => cmpG id x.id | none => 0) (c := c) (w := W) hn hmx (hl.below kW.1)
    (fun i j hij hj h => by
      obtain ⟨x, hx⟩ := gx i (by omega)
      obtain ⟨y, hy⟩ := gx j hj
      have := hlt i j x y hij hx hy
      simp only [hx, hy] at h ⊢
      have h1 := cmpG_pos id x.id
      have h2 := cmpG_neg id y.id
      omega)
    (fun i x u hx hu => by
      simp only [hx]
      exact joint1_c id x _ u (hu.reads c1)))
  have KW := hid kW
  have HG := hid gx
  have l0 : w.heap.size < W.heap.size := World.block_lt_of_cell? _ _ c5
  have l1 : w.heap.size + 1 < W.heap.size := World.block_lt_of_cell? _ _ c1
  clear hl kW hup hlt gx
  have HN := hid hn
  clear hn
  go_enter Tryz.func57, Tryz.ntmps57
  go_upto_region 1 with fail
  rw [← eW]
  clear eW
  go_wp2_with fail
  refine HC.out.mono ?_
  rintro e w1 ⟨i, r, rfl, k1, h1, h2⟩
  go_wp2_with fail
  refine bodyPost_ret (v := .tuple #[.int .i64 (i : Nat), .bool r]) (by simp [results, Tryz.results57, go_sem]) rfl ⟨i, r, rfl, KW.out.then_ (k1.low KW.out.1.size), fun hr => ?_, fun hr => ⟨(h2 hr).1, fun x hx e => ?_⟩⟩
  · obtain ⟨h3, h4⟩ := h1 hr
    obtain ⟨x, hx⟩ := HG.out i h3
    simp only [hx] at h4
    exact ⟨x, hx, ((cmpG_zero _ _).1 h4).symm⟩
  · obtain ⟨j, hj⟩ := List.mem_iff_getElem?.1 hx
    have h3 := (h2 hr).2 j (by rw [← HN.out]; exact (List.getElem?_eq_some_iff.1 hj).1)
    simp only [hj] at h3
    exact h3 ((cmpG_zero _ _).2 e.symm)
set_option maxRecDepth 100000 in
set_option maxHeartbeats 4000000 in
theorem exist_c (tk nb nj gx gy : Int) (oj oc : Option Addr) (nn cj nc cc : Nat) {l : List Bd} {ao : Option Addr} {n c : Nat} {w : World} (a b : Int) (r : Bool) (hn : l.length = n) (hmx : n ≤ 1073741824) (hl : LsT encB 11 w ao l) (hup : (l.map (·.id)).Pairwise (· < ·)) (hr : r = true ↔ a ∈ l.map (·.id) ∧ b ∈ l.map (·.id)) :
    Calls Tryz.prog 49 #[wdV tk nb nj gx gy (.slice ao n c) (.slice oj nn cj) (.slice oc nc cc), .int .i64 a, .int .i64 b] w fun e v => e = .returned (.bool r) ∧ Made w.heap.size w v := by
  obtain ⟨W, eW⟩ : ∃ W, W = w.alloc (.cells #[.int .i64 tk, .int .i64 nb, .int .i64 nj, .int .i64 gx, .int .i64 gy, .slice ao n c, .slice oj nn cj, .slice oc nc cc] 49) := ⟨_, rfl⟩
  have kW : Made w.heap.size w W := by rw [eW]; exact (Made.rfl_ _ _).cells (Nat.le_refl _) _ _
  have hW : Has W w.heap.size 49 #[.int .i64 tk, .int .i64 nb, .int .i64 nj, .int .i64 gx, .int .i64 gy, .slice ao n c, .slice oj nn cj, .slice oc nc cc] := by rw [eW]; exact has_new _ _ _
  have HL := hid (fun v (k : Made w.heap.size w v) => hl.below k.1)
  have HU := hid hup
  have HR := hid hr
  have HN := hid hn
  clear hl hup hr hn
  obtain ⟨g0, eg⟩ : ∃ g, w.heap.size = g := ⟨_, rfl⟩
  have KW := hid kW
  have HB := hid hW
  rw [eg] at HB
  clear kW hW
  have b0 := HB.out.at_ 0
  have b1 := HB.out.at_ 1
  have b2 := HB.out.at_ 2
  have b3 := HB.out.at_ 3
  have b4 := HB.out.at_ 4
  have b5 := HB.out.at_ 5
  have b6 := HB.out.at_ 6
  have b7 := HB.out.at_ 7
  simp at b0 b1 b2 b3 b4 b5 b6 b7
  have lt0 : g0 < W.heap.size := HB.out.here
  go_enter Tryz.func49, Tryz.ntmps49
  go_upto_region 1 with fail
  rw [← eW]
  clear eW
  try rw [eg]
  go_wp2_with fail
  refine (wbody_c tk nb nj gx gy oj oc nn cj nc cc a HN.out hmx (HL.out _ KW.out) HU.out).mono ?_
  rintro e w1 ⟨i, r1, rfl, k1, h1, h2⟩
  have K1 : Hid (Made w.heap.size w w1) := KW.out.then_ (k1.low KW.out.1.size)
  have HB1 := hid (HB.out.stays k1 HB.out.here)
  have H1 : Hid (r1 = true ↔ a ∈ l.map (·.id)) := by
    unfold Hid
    cases r1 with
    | true => obtain ⟨x, hx, e⟩ := h1 rfl; exact ⟨fun _ => List.mem_map.2 ⟨x, List.mem_of_getElem? hx, e⟩, fun _ => rfl⟩
    | false => exact ⟨fun e => (by cases e), fun h => by obtain ⟨x, hx, e⟩ := List.mem_map.1 h; exact absurd e ((h2 rfl).2 x hx)⟩
  clear b0 b1 b2 b3 b4 b5 b6 b7 k1 h1 h2 lt0
  have b0 := HB1.out.at_ 0
  have b1 := HB1.out.at_ 1
  have b2 := HB1.out.at_ 2
  have b3 := HB1.out.at_ 3
  have b4 := HB1.out.at_ 4
  have b5 := HB1.out.at_ 5
  have b6 := HB1.out.at_ 6
  have b7 := HB1.out.at_ 7
  simp at b0 b1 b2 b3 b4 b5 b6 b7
  go_wp2_with fail
  refine (wbody_c tk nb nj gx gy oj oc nn cj nc cc b HN.out hmx (HL.out _ K1.out) HU.out).mono ?_
  rintro e w2 ⟨j, r2, rfl, k2, h1, h2⟩
  have K2 : Hid (Made w.heap.size w w2) := K1.out.then_ (k2.low K1.out.1.size)
  have H2 : Hid (r2 = true ↔ b ∈ l.map (·.id)) := by
    unfold Hid
    cases r2 with
    | true => obtain ⟨x, hx, e⟩ := h1 rfl; exact ⟨fun _ => List.mem_map.2 ⟨x, List.mem_of_getElem? hx, e⟩, fun _ => rfl⟩
    | false => exact ⟨fun e => (by cases e), fun h => by obtain ⟨x, hx, e⟩ := List.mem_map.1 h; exact absurd e ((h2 rfl).2 x hx)⟩
  clear b0 b1 b2 b3 b4 b5 b6 b7 k2 h1 h2
  have HF : Hid (r = (r1 && r2)) := by
    unfold Hid; rw [Bool.eq_iff_iff, HR.out, Bool.and_eq_true, H1.out, H2.out]
  cases r1 with
  | true =>
    go_wp2_with fail
    go_ret
    exact ⟨by rw [HF.out]; rfl, eg ▸ K2.out⟩
  | false =>
    go_wp2_with fail
    go_ret
    exact ⟨by rw [HF.out]; rfl, eg ▸ K2.out⟩
end Go.Proofs.YtfncelifflebbaaGreat.Fx

