/- WoB WoC WoI -/
import Derived.Test.YtgdcphmmehedoaaGreatCa3
import Derived.Test.YtgdcphmmehedoaaGreatCa7
import Derived.BigQuiet
import Derived.Deep.LoopGhost
import Derived.LoopN
import Derived.WalkMore
set_option maxRecDepth 100000
set_option maxHeartbeats 64000000
/- find over bodies, joints and contacts; Body, Joint, exist. -/
namespace Go.Proofs.YtgdcphmmehedoaaGreat.Fx
open Go.ChangeShapes Go.WideShapes Go.ChangeAt Go.RowKit
set_option linter.unusedVariables false
abbrev wdV (tk nb nj gx gy : Int) (sb sj sc : Value) : Value := .agg #[.int .i64 tk, .int .i64 nb, .int .i64 nj, .int .i64 gx, .int .i64 gy, sb, sj, sc]
theorem has_nxt' (w : World) (o : Obj) (t : TypeId) (A : Array Value) : Has ((w.alloc o).alloc (.cells A t)) (w.heap.size + 1) t A := by simpa using has_new (w.alloc o) t A
theorem findEB_c (g : Nat) (lb : Array Value) (eg : ∀ args w, (callFunc g args).run Tryz.prog w = .ok (.enter g args) w) (z : Int) (x : Bd) {l : List Bd} (ao : Option Addr) (i n c gb gl : Nat) (u : World) (hn : l.length = n) (hl : LsT encB 11 u ao l) (hx : l[i]? = some x)
  (h0 : u.cell? ⟨gb, 0, none⟩ = some (.func (.func g) #[] lb)) (h1 : u.cell? ⟨gl, 0, none⟩ = some (.slice ao n c)) (hmx : n ≤ 1073741824)
  (H : ∀ u', Made u.heap.size u u' → Calls Tryz.prog g (#[bdV x] ++ lb) u' fun e v => e = .returned (.int .i64 z) ∧ Made u'.heap.size u' v) :
  Calls Tryz.prog 152 #[.int .i64 (i : Nat), .pointer (some ⟨gb, 0, none⟩), .pointer (some ⟨gl, 0, none⟩)] u fun e v => e = .returned (.int .i64 z) ∧ Made u.heap.size u v := by
 have hin : i < n := by rw [← hn]; exact (List.getElem?_eq_some_iff.1 hx).1
 obtain ⟨b, off, rfl, hbl, hLB⟩ := hl (by omega)
 have hcells := (hLB i _ hx).b11
 have HH := hid H
 clear H hLB hx hl
 obtain ⟨x0, x1, x2, x3, x4, x5, x6, x7, x8, x9, x10, x11, x12, x13⟩ := x
 obtain ⟨a0, a1, a2, a3, a4, a5, a6, a7, a8, a9, a10⟩ := hcells
 simp only [] at a0 a1 a2 a3 a4 a5 a6 a7 a8 a9 a10
 go_enter Tryz.func152, Tryz.ntmps152
 go_wp2_with fail
 refine reg_made (by kernel_rfl) (by kernel_rfl) ?_
 intro T hT fw hf
 have h0 := Class.reads hf h0
 have h1 := Class.reads hf h1
 have a0 := Class.reads hf a0
 have a1 := Class.reads hf a1
 have a2 := Class.reads hf a2
 have a3 := Class.reads hf a3
 have a4 := Class.reads hf a4
 have a5 := Class.reads hf a5
 have a6 := Class.reads hf a6
 have a7 := Class.reads hf a7
 have a8 := Class.reads hf a8
 have a9 := Class.reads hf a9
 have a10 := Class.reads hf a10
 repeat (go_big_quiet_step ((go_at_fn g; exact hf.made (HH.out _ (hf.1 _)))))
 refine wpQuiet_nil ?_
 intro w3 h3
 have k3 := hf.here h3
 go_wp2_with fail
 go_ret
 exact ⟨rfl, k3⟩
theorem findB_c (g : Nat) (lb : Array Value) (eg : ∀ args w, (callFunc g args).run Tryz.prog w = .ok (.enter g args) w) (f : Nat → Int) {l : List Bd} {ao : Option Addr} {n c : Nat} {w : World} (hn : l.length = n) (hmx : n ≤ 1073741824) (hl : LsT encB 11 w ao l)
  (hm : ∀ i j, i < j → j < n → f i ≤ 0 → f j < 0)
  (hS : ∀ i x u, l[i]? = some x → Made w.heap.size w u → Calls Tryz.prog g (#[bdV x] ++ lb) u fun e v => e = .returned (.int .i64 (f i)) ∧ Made u.heap.size u v) :
  Calls Tryz.prog 130 #[.slice ao n c, .func (.func g) #[] lb] w fun e v => ∃ (i : Nat) (r : Bool), e = .returned (.tuple #[.int .i64 (i : Nat), .bool r]) ∧ Made w.heap.size w v ∧ (r = true → i < n ∧ f i = 0) ∧ (r = false → i = 0 ∧ ∀ k, k < n → f k ≠ 0) := by
 obtain ⟨W, eW⟩ : ∃ W, W = (w.alloc (.cells #[.slice ao n c] 52)).alloc (.cells #[.func (.func g) #[] lb] 172) := ⟨_, rfl⟩
 have kW : Made w.heap.size w W := by rw [eW]; exact ((Made.rfl_ _ _).cells (Nat.le_refl _) _ _).cells (by simp) _ _
 have c0 : W.cell? ⟨w.heap.size, 0, none⟩ = some (.slice ao n c) := by rw [eW]; exact (((has_new _ _ _).more _).at_ 0)
 have c1 : W.cell? ⟨w.heap.size + 1, 0, none⟩ = some (.func (.func g) #[] lb) := by rw [eW]; exact (has_nxt' _ _ _ _).at_ 0
 have HC := hid (sfind_c 152 #[.pointer (some ⟨w.heap.size + 1, 0, none⟩), .pointer (some ⟨w.heap.size, 0, none⟩)] (by intro args w; rfl) f (n := n) (w := W) hmx
  (fun i j hij hj h => by rcases Nat.lt_or_eq_of_le hij with h1 | h1
                          ·exact Int.le_of_lt (hm i j h1 hj h)
                          ·subst h1; exact h)
  (fun i u hi hu => by
   have hx : l[i]? = some l[i] := List.getElem?_eq_getElem (by rw [hn]; exact hi)
   exact findEB_c g lb eg (f i) l[i] ao i n c _ _ u hn ((hl.below kW.1).below hu.1) hx (hu.reads c1) (hu.reads c0) hmx (fun u' hu' => hS i _ u' hx (kW.then_ ((hu.then_ (hu'.low hu.1.size)).low kW.1.size)))))
 have KW := hid kW
 have HM := hid hm
 have l0 : w.heap.size < W.heap.size := World.block_lt_of_cell? _ _ c0
 have l1 : w.heap.size + 1 < W.heap.size := World.block_lt_of_cell? _ _ c1
 clear hn hl hS kW hm
 go_enter Tryz.func130, Tryz.ntmps130
 go_upto_region 1 with fail
 rw [← eW]
 clear eW
 go_wp2_with fail
 refine HC.out.mono ?_
 rintro e w1 ⟨i, r, hi, rfl, k1, h1', h2', h3'⟩
 have h1 := hid h1'
 have h2 := hid h2'
 have h3 := hid h3'
 clear h1' h2' h3'
 cases r with
 | true =>
  go_wp2_with fail
  refine bodyPost_ret (v := .tuple #[.int .i64 (i : Nat), .bool true]) (by simp [results, Tryz.results130, go_sem]) rfl ⟨i, true, rfl, KW.out.then_ (k1.low KW.out.1.size), fun _ => h3.out.1 (by simp), fun e => (by cases e)⟩
 | false =>
  go_wp2_with fail
  refine bodyPost_ret (v := .tuple #[.int .i64 ((0 : Nat) : Int), .bool false]) (by simp [results, Tryz.results130, go_sem]) rfl ⟨0, false, rfl, KW.out.then_ (k1.low KW.out.1.size), fun e => (by cases e), fun _ => ⟨rfl, fun k hk hz => ?_⟩⟩
  rcases Nat.lt_or_ge k i with h4 | h4
  ·have := h1.out k h4; omega
  ·have h5 : i < n := by omega
   have h6 : f i ≠ 0 := fun h => by have := h3.out.2 ⟨h5, h⟩; cases this
   have h7 := h2.out i (Nat.le_refl _) h5
   rcases Nat.lt_or_eq_of_le h4 with h8 | h8
   ·have := HM.out i k h8 hk h7; omega
   ·subst h8; exact h6 hz
theorem body1_c (id : Int) (x : Bd) (gi : Nat) (u : World) (h0 : u.cell? ⟨gi, 0, none⟩ = some (.int .i64 id)) :
  Calls Tryz.prog 131 #[bdV x, .pointer (some ⟨gi, 0, none⟩)] u fun e v => e = .returned (.int .i64 (cmpG id x.id)) ∧ Made u.heap.size u v := by
 have hlt : gi < u.heap.size := World.block_lt_of_cell? u _ h0
 obtain ⟨x0, x1, x2, x3, x4, x5, x6, x7, x8, x9, x10, x11, x12, x13⟩ := x
 have H := hid (fun w => cmpW_c id x0 w)
 simp only []
 generalize cmpG id x0 = r at H ⊢
 go_enter Tryz.func131, Tryz.ntmps131
 go_wp2_with (go_at_call 114; refine (H.out _).mono ?_; rintro e w' ⟨rfl, rfl⟩)
 go_ret
 exact ⟨rfl, (Made.rfl_ _ _).cells (Nat.le_refl _) _ _⟩
theorem wbody_c (tk nb nj gx gy : Int) (oj oc : Option Addr) (nn cj nc cc : Nat) {l : List Bd} {ao : Option Addr} {n c : Nat} {w : World} (id : Int) (hn : l.length = n) (hmx : n ≤ 1073741824) (hl : LsT encB 11 w ao l) (hup : (l.map (·.id)).Pairwise (· < ·)) :
  Calls Tryz.prog 107 #[wdV tk nb nj gx gy (.slice ao n c) (.slice oj nn cj) (.slice oc nc cc), .int .i64 id] w fun e v => ∃ (i : Nat) (r : Bool), e = .returned (.tuple #[.int .i64 (i : Nat), .bool r]) ∧ Made w.heap.size w v ∧ (r = true → ∃ x, l[i]? = some x ∧ x.id = id) ∧ (r = false → i = 0 ∧ ∀ x ∈ l, x.id ≠ id) := by
 obtain ⟨W, eW⟩ : ∃ W, W = (w.alloc (.cells #[.int .i64 tk, .int .i64 nb, .int .i64 nj, .int .i64 gx, .int .i64 gy, .slice ao n c, .slice oj nn cj, .slice oc nc cc] 56)).alloc (.cells #[.int .i64 id] 3) := ⟨_, rfl⟩
 have kW : Made w.heap.size w W := by rw [eW]; exact ((Made.rfl_ _ _).cells (Nat.le_refl _) _ _).cells (by simp) _ _
 have c5 : W.cell? ⟨w.heap.size, 5, none⟩ = some (.slice ao n c) := by rw [eW]; exact (((has_new _ _ _).more _).at_ 5)
 have c1 : W.cell? ⟨w.heap.size + 1, 0, none⟩ = some (.int .i64 id) := by rw [eW]; exact (has_nxt' _ _ _ _).at_ 0
 have hlt : ∀ i j (x y : Bd), i < j → l[i]? = some x → l[j]? = some y → x.id < y.id := fun i j x y hij hx hy => by
  have := List.pairwise_iff_getElem.1 hup i j (by simpa using (List.getElem?_eq_some_iff.1 hx).1) (by simpa using (List.getElem?_eq_some_iff.1 hy).1) hij
  simpa [(List.getElem?_eq_some_iff.1 hx).2, (List.getElem?_eq_some_iff.1 hy).2] using this
 have gx : ∀ i, i < n → ∃ x, l[i]? = some x := fun i hi => ⟨_, List.getElem?_eq_getElem (by rw [hn]; exact hi)⟩
 have HC := hid (findB_c 131 #[.pointer (some ⟨w.heap.size + 1, 0, none⟩)] (by intro args w; rfl) (fun i => match l[i]? with | some x => cmpG id x.id | none => 0) (c := c) (w := W) hn hmx (hl.below kW.1)
  (fun i j hij hj h => by
   obtain ⟨x, hx⟩ := gx i (by omega)
   obtain ⟨y, hy⟩ := gx j hj
   have := hlt i j x y hij hx hy
   simp only [hx, hy] at h ⊢
   have h1 := cmpG_pos id x.id
   have h2 := cmpG_neg id y.id
   omega)
  (fun i x u hx hu => by
   simp only [hx]
   exact body1_c id x _ u (hu.reads c1)))
 have KW := hid kW
 have HG := hid gx
 have l0 : w.heap.size < W.heap.size := World.block_lt_of_cell? _ _ c5
 have l1 : w.heap.size + 1 < W.heap.size := World.block_lt_of_cell? _ _ c1
 clear hl kW hup hlt gx
 have HN := hid hn
 clear hn
 go_enter Tryz.func107, Tryz.ntmps107
 go_upto_region 1 with fail
 rw [← eW]
 clear eW
 go_wp2_with fail
 refine HC.out.mono ?_
 rintro e w1 ⟨i, r, rfl, k1, h1, h2⟩
 go_wp2_with fail
 refine bodyPost_ret (v := .tuple #[.int .i64 (i : Nat), .bool r]) (by simp [results, Tryz.results107, go_sem]) rfl ⟨i, r, rfl, KW.out.then_ (k1.low KW.out.1.size), fun hr => ?_, fun hr => ⟨(h2 hr).1, fun x hx e => ?_⟩⟩
 ·obtain ⟨h3, h4⟩ := h1 hr
  obtain ⟨x, hx⟩ := HG.out i h3
  simp only [hx] at h4
  exact ⟨x, hx, ((cmpG_zero _ _).1 h4).symm⟩
 ·obtain ⟨j, hj⟩ := List.mem_iff_getElem?.1 hx
  have h3 := (h2 hr).2 j (by rw [← HN.out]; exact (List.getElem?_eq_some_iff.1 hj).1)
  simp only [hj] at h3
  exact h3 ((cmpG_zero _ _).2 e.symm)
theorem exist_c (tk nb nj gx gy : Int) (oj oc : Option Addr) (nn cj nc cc : Nat) {l : List Bd} {ao : Option Addr} {n c : Nat} {w : World} (a b : Int) (r : Bool) (hn : l.length = n) (hmx : n ≤ 1073741824) (hl : LsT encB 11 w ao l) (hup : (l.map (·.id)).Pairwise (· < ·)) (hr : r = true ↔ a ∈ l.map (·.id) ∧ b ∈ l.map (·.id)) :
  Calls Tryz.prog 84 #[wdV tk nb nj gx gy (.slice ao n c) (.slice oj nn cj) (.slice oc nc cc), .int .i64 a, .int .i64 b] w fun e v => e = .returned (.bool r) ∧ Made w.heap.size w v := by
 obtain ⟨W, eW⟩ : ∃ W, W = w.alloc (.cells #[.int .i64 tk, .int .i64 nb, .int .i64 nj, .int .i64 gx, .int .i64 gy, .slice ao n c, .slice oj nn cj, .slice oc nc cc] 56) := ⟨_, rfl⟩
 have kW : Made w.heap.size w W := by rw [eW]; exact (Made.rfl_ _ _).cells (Nat.le_refl _) _ _
 have hW : Has W w.heap.size 56 #[.int .i64 tk, .int .i64 nb, .int .i64 nj, .int .i64 gx, .int .i64 gy, .slice ao n c, .slice oj nn cj, .slice oc nc cc] := by rw [eW]; exact has_new _ _ _
 have HL := hid (fun v (k : Made w.heap.size w v) => hl.below k.1)
 have HU := hid hup
 have HR := hid hr
 have HN := hid hn
 clear hl hup hr hn
 obtain ⟨g0, eg⟩ : ∃ g, w.heap.size = g := ⟨_, rfl⟩
 have KW := hid kW
 have HB := hid hW
 rw [eg] at HB
 clear kW hW
 have b0 := HB.out.at_ 0
 have b1 := HB.out.at_ 1
 have b2 := HB.out.at_ 2
 have b3 := HB.out.at_ 3
 have b4 := HB.out.at_ 4
 have b5 := HB.out.at_ 5
 have b6 := HB.out.at_ 6
 have b7 := HB.out.at_ 7
 simp at b0 b1 b2 b3 b4 b5 b6 b7
 have lt0 : g0 < W.heap.size := HB.out.here
 go_enter Tryz.func84, Tryz.ntmps84
 go_upto_region 1 with fail
 rw [← eW]
 clear eW
 try rw [eg]
 go_wp2_with fail
 refine (wbody_c tk nb nj gx gy oj oc nn cj nc cc a HN.out hmx (HL.out _ KW.out) HU.out).mono ?_
 rintro e w1 ⟨i, r1, rfl, k1, h1, h2⟩
 have K1 : Hid (Made w.heap.size w w1) := KW.out.then_ (k1.low KW.out.1.size)
 have HB1 := hid (HB.out.stays k1 HB.out.here)
 have H1 : Hid (r1 = true ↔ a ∈ l.map (·.id)) := by
  unfold Hid
  cases r1 with
  | true => obtain ⟨x, hx, e⟩ := h1 rfl; exact ⟨fun _ => List.mem_map.2 ⟨x, List.mem_of_getElem? hx, e⟩, fun _ => rfl⟩
  | false => exact ⟨fun e => (by cases e), fun h => by obtain ⟨x, hx, e⟩ := List.mem_map.1 h; exact absurd e ((h2 rfl).2 x hx)⟩
 clear b0 b1 b2 b3 b4 b5 b6 b7 k1 h1 h2 lt0
 have b0 := HB1.out.at_ 0
 have b1 := HB1.out.at_ 1
 have b2 := HB1.out.at_ 2
 have b3 := HB1.out.at_ 3
 have b4 := HB1.out.at_ 4
 have b5 := HB1.out.at_ 5
 have b6 := HB1.out.at_ 6
 have b7 := HB1.out.at_ 7
 simp at b0 b1 b2 b3 b4 b5 b6 b7
 go_wp2_with fail
 refine (wbody_c tk nb nj gx gy oj oc nn cj nc cc b HN.out hmx (HL.out _ K1.out) HU.out).mono ?_
 rintro e w2 ⟨j, r2, rfl, k2, h1, h2⟩
 have K2 : Hid (Made w.heap.size w w2) := K1.out.then_ (k2.low K1.out.1.size)
 have H2 : Hid (r2 = true ↔ b ∈ l.map (·.id)) := by
  unfold Hid
  cases r2 with
  | true => obtain ⟨x, hx, e⟩ := h1 rfl; exact ⟨fun _ => List.mem_map.2 ⟨x, List.mem_of_getElem? hx, e⟩, fun _ => rfl⟩
  | false => exact ⟨fun e => (by cases e), fun h => by obtain ⟨x, hx, e⟩ := List.mem_map.1 h; exact absurd e ((h2 rfl).2 x hx)⟩
 clear b0 b1 b2 b3 b4 b5 b6 b7 k2 h1 h2
 have HF : Hid (r = (r1 && r2)) := by
  unfold Hid; rw [Bool.eq_iff_iff, HR.out, Bool.and_eq_true, H1.out, H2.out]
 cases r1 with
 | true =>
  go_wp2_with fail
  go_ret
  exact ⟨by rw [HF.out]; rfl, eg ▸ K2.out⟩
 | false =>
  go_wp2_with fail
  go_ret
  exact ⟨by rw [HF.out]; rfl, eg ▸ K2.out⟩
end Go.Proofs.YtgdcphmmehedoaaGreat.Fx
/- Contacts compared, found, in order. -/
namespace Go.Proofs.YtgdcphmmehedoaaGreat.Fx
open Go.ChangeShapes Go.WideShapes Go.ChangeAt Go.RowKit
set_option linter.unusedVariables false
def cmpC (x y : Ct) : Int := if cmpG x.a y.a ≠ 0 then cmpG x.a y.a else if cmpG x.b y.b ≠ 0 then cmpG x.b y.b else cmpG x.key y.key
theorem cmpC_neg (x y : Ct) : cmpC x y < 0 ↔ LtC x y := by
 have h1 := cmpG_neg x.a y.a; have h2 := cmpG_neg x.b y.b; have h3 := cmpG_neg x.key y.key
 have g1 := cmpG_zero x.a y.a; have g2 := cmpG_zero x.b y.b
 unfold cmpC LtC
 (repeat' split) <;> omega
theorem cor_c (f : Nat → Int) (b : Nat) (w : World) (h : ∀ i, i < 3 → w.cell? ⟨b, i, none⟩ = some (.int .i64 (f i))) :
  Calls Tryz.prog 148 #[.slice (some ⟨b, 0, none⟩) 3 3] w fun e v => ∃ r, e = .returned (.int .i64 r) ∧ v = w ∧ ((∃ k, k < 3 ∧ f k = r ∧ r ≠ 0 ∧ ∀ j, j < k → f j = 0) ∨ (r = 0 ∧ ∀ j, j < 3 → f j = 0)) := by
 have HH := hid h
 clear h
 go_enter Tryz.func148, Tryz.ntmps148
 go_wp2_with fail
 go_loopg [5, 8] 3 (fun gg s5 s8 wx => ∃ k : Nat, k + gg = 3 ∧ s8 = .int .i64 (k : Nat) ∧ wx = w ∧ Hid (∀ j, j < k → f j = 0))
 case atStart => exact ⟨0, by omega, rfl, rfl, fun j hj => absurd hj (Nat.not_lt_zero _)⟩
 case round =>
  obtain ⟨k, hk, rfl, rfl, HB⟩ := hrel
  by_cases hlt : k < 3
  ·obtain ⟨z, ez⟩ : ∃ z, f k = z := ⟨_, rfl⟩
   have a0 := HH.out k hlt
   rw [ez] at a0
   have EZ := hid ez
   clear ez
   by_cases hz : z = 0
   ·have q : (z != 0) = false := by simp [hz]
    have HZ := hid hz
    clear hz
    go_wp2_with fail
    go_roundg (3 - (k + 1))
    case measure => omega
    case rel =>
     refine ⟨k + 1, by omega, by go_num, rfl, fun j hj => ?_⟩
     by_cases e : j = k
     ·subst e; exact EZ.out.trans HZ.out
     ·exact HB.out j (by omega)
   ·have q : (z != 0) = true := by simpa using hz
    have HZ := hid hz
    clear hz
    go_wp2_with fail
    go_ret
    exact ⟨_, rfl, rfl, .inl ⟨k, hlt, EZ.out, HZ.out, HB.out⟩⟩
  ·go_wp2_with fail
   go_ret
   have e : k = 3 := by omega
   subst e
   exact ⟨_, rfl, rfl, .inr ⟨rfl, HB.out⟩⟩
theorem cmpW_s (a b r : Int) (w : World) (h : cmpG a b = r) : Calls Tryz.prog 114 #[.int .i64 a, .int .i64 b] w fun e w' => e = .returned (.int .i64 r) ∧ w = w' := by
 subst h
 exact (cmpW_c a b w).mono fun _ _ ⟨x, y⟩ => ⟨x, y.symm⟩
theorem compareC_c (x y : Ct) (w : World) : Calls Tryz.prog 127 #[ctV x, ctV y] w fun e v => e = .returned (.int .i64 (cmpC x y)) ∧ Made w.heap.size w v := by
 have HC : Hid (∀ r, ((∃ k, k < 3 ∧ (fun i => if i = 0 then cmpG x.a y.a else if i = 1 then cmpG x.b y.b else cmpG x.key y.key) k = r ∧ r ≠ 0 ∧ ∀ j, j < k → (fun i => if i = 0 then cmpG x.a y.a else if i = 1 then cmpG x.b y.b else cmpG x.key y.key) j = 0) ∨ (r = 0 ∧ ∀ j, j < 3 → (fun i => if i = 0 then cmpG x.a y.a else if i = 1 then cmpG x.b y.b else cmpG x.key y.key) j = 0)) → r = cmpC x y) := by
  intro r h
  unfold cmpC
  rcases h with ⟨k, hk, h1, h2, h3⟩ | ⟨rfl, h⟩
  ·match k, hk with
   | 0, _ => simp at h1; rw [if_pos (by rw [h1]; exact h2)]; exact h1.symm
   | 1, _ =>
    have := h3 0 (by omega)
    simp at h1 this
    rw [if_neg (by rw [this]; simp), if_pos (by rw [h1]; exact h2)]; exact h1.symm
   | 2, _ =>
    have a := h3 0 (by omega)
    have b := h3 1 (by omega)
    simp at h1 a b
    rw [if_neg (by rw [a]; simp), if_neg (by rw [b]; simp)]; exact h1.symm
  ·have a := h 0 (by omega)
   have b := h 1 (by omega)
   have c := h 2 (by omega)
   simp at a b c
   rw [if_neg (by rw [a]; simp), if_neg (by rw [b]; simp)]; exact c.symm
 generalize cmpC x y = R at HC ⊢
 obtain ⟨x0, x1, x2, x3, x4⟩ := x
 obtain ⟨y0, y1, y2, y3, y4⟩ := y
 simp only [] at HC ⊢
 obtain ⟨p0, e0⟩ : ∃ z, cmpG x0 y0 = z := ⟨_, rfl⟩
 obtain ⟨p1, e1⟩ : ∃ z, cmpG x1 y1 = z := ⟨_, rfl⟩
 obtain ⟨p2, e2⟩ : ∃ z, cmpG x2 y2 = z := ⟨_, rfl⟩
 rw [e0, e1, e2] at HC
 have E0 := hid e0; have E1 := hid e1; have E2 := hid e2
 clear e0 e1 e2
 go_enter Tryz.func127, Tryz.ntmps127
 go_wp2_with fail
 refine reg_made_tail 15 (by kernel_rfl) (by kernel_rfl) ?_
 intro T hT fw hf
 have a0 := Class.reads hf (p := ⟨w.heap.size, 0, none⟩) (u := .int .i64 x0) (by go_simp)
 have b0 := Class.reads hf (p := ⟨w.heap.size + 1, 0, none⟩) (u := .int .i64 y0) (by go_simp)
 have a1 := Class.reads hf (p := ⟨w.heap.size, 1, none⟩) (u := .int .i64 x1) (by go_simp)
 have b1 := Class.reads hf (p := ⟨w.heap.size + 1, 1, none⟩) (u := .int .i64 y1) (by go_simp)
 have a2 := Class.reads hf (p := ⟨w.heap.size, 2, none⟩) (u := .int .i64 x2) (by go_simp)
 have b2 := Class.reads hf (p := ⟨w.heap.size + 1, 2, none⟩) (u := .int .i64 y2) (by go_simp)
 simp only [List.take_succ_cons, List.take_zero, List.drop_succ_cons, List.drop_zero]
 repeat (go_big_quiet_step ((first
  | (go_at_call 114; with_reducible exact hf.same (cmpW_s _ _ _ _ E0.out))
  | (go_at_call 114; with_reducible exact hf.same (cmpW_s _ _ _ _ E1.out))
  | (go_at_call 114; with_reducible exact hf.same (cmpW_s _ _ _ _ E2.out)))))
 refine wpQuiet_nil ?_
 intro w3 h3
 have k3 := hf.here h3
 have K3 := hid (made_box (made_box k3))
 clear a0 a1 a2 b0 b1 b2 hf h3 k3
 go_wp2_with fail
 refine (cor_c (fun i => if i = 0 then p0 else if i = 1 then p1 else p2) w3.heap.size _ (fun i hi => by
  match i, hi with
  | 0, _ => exact (has_new _ _ _).at_ 0
  | 1, _ => exact (has_new _ _ _).at_ 1
  | 2, _ => exact (has_new _ _ _).at_ 2)).mono ?_
 rintro e w4 ⟨r, rfl, rfl, h⟩
 have e := HC.out r h
 subst e
 go_wp2_with fail
 go_ret
 exact ⟨rfl, K3.out.cells K3.out.1.size _ _⟩
theorem ascend_c {l : List Ct} {ao : Option Addr} {n c : Nat} {w : World} (r : Bool) (hn : l.length = n) (hmx : n ≤ 1073741824) (hl : LsT encC 5 w ao l) (hr : r = true ↔ ∀ i x y, l[i]? = some x → l[i + 1]? = some y → LtC x y) :
  Calls Tryz.prog 126 #[.slice ao n c, .func (.func 127) #[] #[]] w fun e v => e = .returned (.bool r) ∧ Made w.heap.size w v := by
 have HN := hid hn
 have HL := hid hl
 have HR := hid hr
 clear hn hl hr
 have eg : ∀ args w, (callFunc 127 args).run Tryz.prog w = .ok (.enter 127 args) w := by intro args w; rfl
 go_enter Tryz.func126, Tryz.ntmps126
 go_wp2_with fail
 go_loopg [5, 6, 9] n (fun gg s5 s6 s9 wx => ∃ k : Nat, k + gg = n ∧ s9 = .int .i64 (k : Nat) ∧ Hid (Made w.heap.size w wx ∧ ∀ i x y, i + 1 < k → l[i]? = some x → l[i + 1]? = some y → LtC x y))
 case atStart => exact ⟨0, by omega, rfl, Made.rfl_ _ _, fun i x y hi => absurd hi (by omega)⟩
 case round =>
  obtain ⟨k, hk, rfl, HB⟩ := hrel
  by_cases hlt : k < n
  ·obtain ⟨y, ey⟩ : ∃ a, l[k]? = some a := ⟨_, List.getElem?_eq_getElem (by rw [HN.out]; omega)⟩
   obtain ⟨b, off, rfl, hbl, hLB⟩ := HL.out (by rw [HN.out]; omega)
   have HLB := hid (hLB.below HB.out.1.1 hbl)
   have hcells := (HLB.out k _ ey).c5
   have EY := hid ey
   clear ey hLB
   obtain ⟨y0, y1, y2, y3, y4⟩ := y
   obtain ⟨a0, a1, a2, a3, a4⟩ := hcells
   simp only [] at a0 a1 a2 a3 a4
   have hb : b < wr.heap.size := Nat.lt_of_lt_of_le hbl HB.out.1.1.size
   rcases Nat.eq_zero_or_pos k with hk0 | hk0
   ·subst hk0
    simp only [Nat.zero_mul, Nat.add_zero] at a0 a1 a2 a3 a4
    go_wp2_with fail
    refine reg_made (by kernel_rfl) (by kernel_rfl) ?_
    intro T hT fw hf
    repeat (go_big_quiet_step ((fail)))
    refine wpQuiet_nil ?_
    intro w3 h3
    have k3 := hf.here h3
    go_wp2_with fail
    go_roundg (n - 1)
    case measure => omega
    case rel => exact ⟨1, by omega, by go_num, HB.out.1.then_ ((made_box k3).low HB.out.1.1.size), fun i x y hi => absurd hi (by omega)⟩
   ·obtain ⟨m, em⟩ : ∃ m, k = m + 1 := ⟨k - 1, by omega⟩
    have hm1 : (k : Int) - 1 = (m : Int) := by omega
    have hkz : (0 : Int) < (k : Int) := by omega
    have hkd : decide ((0 : Int) < (k : Int)) = true := decide_eq_true hkz
    have hmn : m < n := by omega
    obtain ⟨x, ex⟩ : ∃ a, l[m]? = some a := ⟨_, List.getElem?_eq_getElem (by rw [HN.out]; omega)⟩
    have hcells := (HLB.out m _ ex).c5
    have EX := hid ex
    have hcmp := hid (fun w => compareC_c x ⟨y0, y1, y2, y3, y4⟩ w)
    have hneg := hid (cmpC_neg x ⟨y0, y1, y2, y3, y4⟩)
    clear ex
    obtain ⟨x0, x1, x2, x3, x4⟩ := x
    obtain ⟨b0, b1, b2, b3, b4⟩ := hcells
    simp only [] at b0 b1 b2 b3 b4 hcmp
    obtain ⟨z, ez⟩ : ∃ z, cmpC ⟨x0, x1, x2, x3, x4⟩ ⟨y0, y1, y2, y3, y4⟩ = z := ⟨_, rfl⟩
    rw [ez] at hcmp hneg
    have EM := hid em
    clear ez em
    go_wp2_with fail
    refine reg_made (by kernel_rfl) (by kernel_rfl) ?_
    intro T hT fw hf
    have b0 := Class.reads hf (cell_more (c := #[.int .i64 y0, .int .i64 y1, .int .i64 y2, .int .i64 y3, .int .i64 y4]) (t := 105) b0)
    have q0 := Class.reads hf (p := ⟨wr.heap.size, 0, none⟩) (u := .int .i64 y0) (by go_simp)
    have b1 := Class.reads hf (cell_more (c := #[.int .i64 y0, .int .i64 y1, .int .i64 y2, .int .i64 y3, .int .i64 y4]) (t := 105) b1)
    have q1 := Class.reads hf (p := ⟨wr.heap.size, 1, none⟩) (u := .int .i64 y1) (by go_simp)
    have b2 := Class.reads hf (cell_more (c := #[.int .i64 y0, .int .i64 y1, .int .i64 y2, .int .i64 y3, .int .i64 y4]) (t := 105) b2)
    have q2 := Class.reads hf (p := ⟨wr.heap.size, 2, none⟩) (u := .int .i64 y2) (by go_simp)
    have b3 := Class.reads hf (cell_more (c := #[.int .i64 y0, .int .i64 y1, .int .i64 y2, .int .i64 y3, .int .i64 y4]) (t := 105) b3)
    have q3 := Class.reads hf (p := ⟨wr.heap.size, 3, none⟩) (u := .int .i64 y3) (by go_simp)
    have b4 := Class.reads hf (cell_more (c := #[.int .i64 y0, .int .i64 y1, .int .i64 y2, .int .i64 y3, .int .i64 y4]) (t := 105) b4)
    have q4 := Class.reads hf (p := ⟨wr.heap.size, 4, none⟩) (u := .int .i64 y4) (by go_simp)
    repeat (go_big_quiet_step ((first | (go_at_fn 127; exact hf.made (hcmp.out _)) | (go_at_call 127; exact hf.made (hcmp.out _)))))
    refine wpQuiet_nil ?_
    intro w3 h3
    have k3 := hf.here h3
    have K3 := hid (HB.out.1.then_ ((made_box k3).low HB.out.1.1.size))
    clear a0 a1 a2 a3 a4 b0 b1 b2 b3 b4 q0 q1 q2 q3 q4 hf h3 k3
    by_cases hz : 0 ≤ z
    ·go_wp2_with fail
     go_ret
     refine ⟨?_, K3.out⟩
     have : r = false := Bool.eq_false_iff.2 fun h => by
      have := HR.out.1 h m _ _ EX.out (by rw [← EM.out]; exact EY.out)
      have := hneg.out.2 this
      omega
     rw [this]; rfl
    ·go_wp2_with fail
     go_roundg (n - (k + 1))
     case measure => omega
     case rel =>
      refine ⟨k + 1, by omega, by go_num, K3.out, fun i x y hi hx hy => ?_⟩
      by_cases e : i + 1 = k
      ·have e2 : i = m := by have := EM.out; omega
       have h0 := EY.out
       rw [← e] at h0
       have h2 := Option.some.inj (h0.symm.trans hy)
       have h1' := EX.out
       rw [← e2] at h1'
       have h1 := Option.some.inj (h1'.symm.trans hx)
       rw [← h1, ← h2]
       exact hneg.out.1 (by omega)
      ·exact HB.out.2 i x y (by omega) hx hy
  ·go_wp2_with fail
   go_ret
   have e : k = n := by omega
   subst e
   have : r = true := HR.out.2 fun i x y hx hy => HB.out.2 i x y (by rw [← HN.out]; exact (List.getElem?_eq_some_iff.1 hy).1) hx hy
   exact ⟨by rw [this]; rfl, HB.out.1⟩
end Go.Proofs.YtgdcphmmehedoaaGreat.Fx
/- IndexFunc, ContainsFunc and every over bodies, joints and contacts. -/
namespace Go.Proofs.YtgdcphmmehedoaaGreat.Fx
open Go.ChangeShapes Go.WideShapes Go.ChangeAt Go.RowKit
set_option linter.unusedVariables false
theorem idxB_c (g : Nat) (lb : Array Value) (eg : ∀ args w, (callFunc g args).run Tryz.prog w = .ok (.enter g args) w) (X : Nat → Prop) (St : Nat → World → Prop) (p : Nat → Bool) {l : List Bd} {ao : Option Addr} {n c : Nat} {w : World}
  (hn : l.length = n) (hmx : n ≤ 4611686018427387904) (hl : LsT encB 11 w ao l) (hX : 0 < n → Offs X ao) (hS0 : St 0 w)
  (hS : ∀ i x u, l[i]? = some x → But X w u → St i u → Calls Tryz.prog g (#[bdV x] ++ lb) u fun e v => e = .returned (.bool (p i)) ∧ But X u v ∧ St (i + 1) v) :
  Calls Tryz.prog 132 #[.slice ao n c, .func (.func g) #[] lb] w fun e v => ∃ r : Int, e = .returned (.int .i64 r) ∧ But X w v ∧ ((r = -1 ∧ (∀ i, i < n → p i = false) ∧ St n v) ∨ ∃ i, i < n ∧ r = i ∧ p i = true ∧ (∀ j, j < i → p j = false) ∧ St (i + 1) v) := by
 have HN := hid hn
 have HL := hid hl
 have HX := hid hX
 have HS := hid hS
 have H0 := hid hS0
 clear hn hl hX hS hS0
 go_enter Tryz.func132, Tryz.ntmps132
 go_wp2_with fail
 go_loopg [5, 8] n (fun gg s5 s8 wx => ∃ k : Nat, k + gg = n ∧ s8 = .int .i64 k ∧ Hid (But X w wx ∧ St k wx ∧ ∀ j, j < k → p j = false))
 case atStart => exact ⟨0, by omega, rfl, But.rfl_ _ _, H0.out, fun j hj => absurd hj (Nat.not_lt_zero _)⟩
 case round =>
  obtain ⟨k, hk, rfl, HB⟩ := hrel
  by_cases hlt : k < n
  ·obtain ⟨a, ea⟩ : ∃ a, l[k]? = some a := ⟨_, List.getElem?_eq_getElem (by rw [HN.out]; omega)⟩
   obtain ⟨b, off, rfl, hbl, hLB⟩ := HL.out (by rw [HN.out]; omega)
   have hcall := HS.out k a wr ea HB.out.1 HB.out.2.1
   have hcells := ((hLB.but HB.out.1 (HX.out (by omega) b off _ rfl)) k _ ea).b11
   clear ea hLB
   obtain ⟨x0, x1, x2, x3, x4, x5, x6, x7, x8, x9, x10, x11, x12, x13⟩ := a
   obtain ⟨a0, a1, a2, a3, a4, a5, a6, a7, a8, a9, a10⟩ := hcells
   simp only [] at a0 a1 a2 a3 a4 a5 a6 a7 a8 a9 a10
   obtain ⟨q, eq⟩ : ∃ q, p k = q := ⟨_, rfl⟩
   rw [eq] at hcall
   have EQ := hid eq
   clear eq
   cases q with
   | true =>
    go_wp2_with (go_at_fn g; refine hcall.mono ?_; rintro e w' ⟨rfl, k1, k2⟩)
    go_ret
    exact ⟨_, rfl, HB.out.1.then_ k1, .inr ⟨k, hlt, rfl, EQ.out, HB.out.2.2, k2⟩⟩
   | false =>
    go_wp2_with (go_at_fn g; refine hcall.mono ?_; rintro e w' ⟨rfl, k1, k2⟩)
    go_roundg (n - (k + 1))
    case measure => omega
    case rel =>
     refine ⟨k + 1, by omega, by go_num, HB.out.1.then_ k1, k2, fun j hj => ?_⟩
     by_cases e : j = k
     ·subst e; exact EQ.out
     ·exact HB.out.2.2 j (by omega)
  ·go_wp2_with fail
   go_ret
   have e : k = n := by omega
   subst e
   exact ⟨_, rfl, HB.out.1, .inl ⟨rfl, HB.out.2.2, HB.out.2.1⟩⟩
theorem containsB_c (g : Nat) (lb : Array Value) (eg : ∀ args w, (callFunc g args).run Tryz.prog w = .ok (.enter g args) w) (X : Nat → Prop) (St : Nat → World → Prop) (p : Nat → Bool) {l : List Bd} {ao : Option Addr} {n c : Nat} {w : World}
  (hn : l.length = n) (hmx : n ≤ 4611686018427387904) (hl : LsT encB 11 w ao l) (hX : 0 < n → Offs X ao) (hS0 : St 0 w)
  (hS : ∀ i x u, l[i]? = some x → But X w u → St i u → Calls Tryz.prog g (#[bdV x] ++ lb) u fun e v => e = .returned (.bool (p i)) ∧ But X u v ∧ St (i + 1) v) :
  Calls Tryz.prog 140 #[.slice ao n c, .func (.func g) #[] lb] w fun e v => ∃ r, e = .returned (.bool r) ∧ But X w v ∧ ((r = false ∧ (∀ i, i < n → p i = false) ∧ St n v) ∨ (r = true ∧ ∃ i, i < n ∧ p i = true)) := by
 have HC := hid (idxB_c g lb eg X St p (c := c) hn hmx hl hX hS0 hS)
 clear hn hl hX hS hS0
 go_enter Tryz.func140, Tryz.ntmps140
 go_wp2_with fail
 refine HC.out.mono ?_
 rintro e w1 ⟨r, rfl, k1, h⟩
 rcases h with ⟨rfl, h1, h2⟩ | ⟨i, hi, rfl, h1, h2, h3⟩
 ·go_wp2_with fail
  go_ret
  exact ⟨_, rfl, k1, .inl ⟨rfl, h1, h2⟩⟩
 ·go_wp2_with fail
  go_ret
  exact ⟨_, rfl, k1, .inr ⟨by simp, i, hi, h1⟩⟩
theorem notEB_c (g : Nat) (lb : Array Value) (eg : ∀ args w, (callFunc g args).run Tryz.prog w = .ok (.enter g args) w) (X : Nat → Prop) (S : World → Prop) (q : Bool) (x : Bd) (gb : Nat) (u : World)
  (h0 : u.cell? ⟨gb, 0, none⟩ = some (.func (.func g) #[] lb))
  (H : ∀ u', Made u.heap.size u u' → Calls Tryz.prog g (#[bdV x] ++ lb) u' fun e v => e = .returned (.bool q) ∧ But X u' v ∧ S v) :
  Calls Tryz.prog 141 #[bdV x, .pointer (some ⟨gb, 0, none⟩)] u fun e v => e = .returned (.bool (!q)) ∧ But X u v ∧ S v := by
 have hlt : gb < u.heap.size := World.block_lt_of_cell? u _ h0
 have HH := hid H
 clear H
 obtain ⟨x0, x1, x2, x3, x4, x5, x6, x7, x8, x9, x10, x11, x12, x13⟩ := x
 go_enter Tryz.func141, Tryz.ntmps141
 go_wp2_with (go_at_fn g; refine (HH.out _ ((Made.rfl_ _ _).cells (Nat.le_refl _) _ _)).mono ?_; rintro e w' ⟨rfl, k1, k2⟩)
 go_ret
 exact ⟨rfl, (But.rfl_ X u).alloc _ _ |>.then_ k1, k2⟩
theorem everyB_c (g : Nat) (lb : Array Value) (eg : ∀ args w, (callFunc g args).run Tryz.prog w = .ok (.enter g args) w) (X : Nat → Prop) (St : Nat → World → Prop) (q : Nat → Bool) {l : List Bd} {ao : Option Addr} {n c : Nat} {w : World}
  (hn : l.length = n) (hmx : n ≤ 4611686018427387904) (hl : LsT encB 11 w ao l) (hX : 0 < n → Offs X ao) (hXw : ∀ b, X b → b < w.heap.size) (hSt : ∀ i u v, St i u → Made u.heap.size u v → St i v) (hS0 : St 0 w)
  (hS : ∀ i x u, l[i]? = some x → But X w u → St i u → Calls Tryz.prog g (#[bdV x] ++ lb) u fun e v => e = .returned (.bool (q i)) ∧ But X u v ∧ St (i + 1) v) :
  Calls Tryz.prog 117 #[.slice ao n c, .func (.func g) #[] lb] w fun e v => ∃ r, e = .returned (.bool r) ∧ But X w v ∧ ((r = true ∧ (∀ i, i < n → q i = true) ∧ St n v) ∨ (r = false ∧ ∃ i, i < n ∧ q i = false)) := by
 obtain ⟨W, eW⟩ : ∃ W, W = w.alloc (.cells #[.func (.func g) #[] lb] 144) := ⟨_, rfl⟩
 have kW : Made w.heap.size w W := by rw [eW]; exact (Made.rfl_ _ _).cells (Nat.le_refl _) _ _
 have c0 : W.cell? ⟨w.heap.size, 0, none⟩ = some (.func (.func g) #[] lb) := by rw [eW]; exact (has_new _ _ _).at_ 0
 have hXn : ¬ X w.heap.size := fun h => Nat.lt_irrefl _ (hXw _ h)
 have HC := hid (containsB_c 141 #[.pointer (some ⟨w.heap.size, 0, none⟩)] (by intro args w; rfl) X St (fun i => !q i) (c := c) (w := W) hn hmx (hl.below kW.1) hX (hSt _ _ _ hS0 kW)
  (fun i x u hx hB hs => notEB_c g lb eg X (St (i + 1)) (q i) x w.heap.size u (hB.cell c0 hXn) (fun u' hu => hS i x u' hx ((Made.but kW).then_ (hB.then_ (Made.but hu))) (hSt _ _ _ hs hu))))
 have KW := hid kW
 clear hn hl hX hS hS0 hSt kW c0
 go_enter Tryz.func117, Tryz.ntmps117
 go_wp2_with (rw [← eW]; refine HC.out.mono ?_; rintro e w1 ⟨r, rfl, k1, h⟩)
 go_ret
 refine ⟨_, rfl, (Made.but KW.out).then_ k1, ?_⟩
 rcases h with ⟨rfl, h1, h2⟩ | ⟨rfl, i, hi, h1⟩
 ·exact .inl ⟨rfl, fun i hi => by have := h1 i hi; simpa using this, h2⟩
 ·exact .inr ⟨rfl, i, hi, by simpa using h1⟩
theorem idxJ_c (g : Nat) (lb : Array Value) (eg : ∀ args w, (callFunc g args).run Tryz.prog w = .ok (.enter g args) w) (X : Nat → Prop) (St : Nat → World → Prop) (p : Nat → Bool) {l : List Jt} {ao : Option Addr} {n c : Nat} {w : World}
  (hn : l.length = n) (hmx : n ≤ 4611686018427387904) (hl : LsT encJ 8 w ao l) (hX : 0 < n → Offs X ao) (hS0 : St 0 w)
  (hS : ∀ i x u, l[i]? = some x → But X w u → St i u → Calls Tryz.prog g (#[jtV x] ++ lb) u fun e v => e = .returned (.bool (p i)) ∧ But X u v ∧ St (i + 1) v) :
  Calls Tryz.prog 133 #[.slice ao n c, .func (.func g) #[] lb] w fun e v => ∃ r : Int, e = .returned (.int .i64 r) ∧ But X w v ∧ ((r = -1 ∧ (∀ i, i < n → p i = false) ∧ St n v) ∨ ∃ i, i < n ∧ r = i ∧ p i = true ∧ (∀ j, j < i → p j = false) ∧ St (i + 1) v) := by
 have HN := hid hn
 have HL := hid hl
 have HX := hid hX
 have HS := hid hS
 have H0 := hid hS0
 clear hn hl hX hS hS0
 go_enter Tryz.func133, Tryz.ntmps133
 go_wp2_with fail
 go_loopg [5, 8] n (fun gg s5 s8 wx => ∃ k : Nat, k + gg = n ∧ s8 = .int .i64 k ∧ Hid (But X w wx ∧ St k wx ∧ ∀ j, j < k → p j = false))
 case atStart => exact ⟨0, by omega, rfl, But.rfl_ _ _, H0.out, fun j hj => absurd hj (Nat.not_lt_zero _)⟩
 case round =>
  obtain ⟨k, hk, rfl, HB⟩ := hrel
  by_cases hlt : k < n
  ·obtain ⟨a, ea⟩ : ∃ a, l[k]? = some a := ⟨_, List.getElem?_eq_getElem (by rw [HN.out]; omega)⟩
   obtain ⟨b, off, rfl, hbl, hLB⟩ := HL.out (by rw [HN.out]; omega)
   have hcall := HS.out k a wr ea HB.out.1 HB.out.2.1
   have hcells := ((hLB.but HB.out.1 (HX.out (by omega) b off _ rfl)) k _ ea).j8
   clear ea hLB
   obtain ⟨x0, x1, x2, x3, x4, x5, x6, x7⟩ := a
   obtain ⟨a0, a1, a2, a3, a4, a5, a6, a7⟩ := hcells
   simp only [] at a0 a1 a2 a3 a4 a5 a6 a7
   obtain ⟨q, eq⟩ : ∃ q, p k = q := ⟨_, rfl⟩
   rw [eq] at hcall
   have EQ := hid eq
   clear eq
   cases q with
   | true =>
    go_wp2_with (go_at_fn g; refine hcall.mono ?_; rintro e w' ⟨rfl, k1, k2⟩)
    go_ret
    exact ⟨_, rfl, HB.out.1.then_ k1, .inr ⟨k, hlt, rfl, EQ.out, HB.out.2.2, k2⟩⟩
   | false =>
    go_wp2_with (go_at_fn g; refine hcall.mono ?_; rintro e w' ⟨rfl, k1, k2⟩)
    go_roundg (n - (k + 1))
    case measure => omega
    case rel =>
     refine ⟨k + 1, by omega, by go_num, HB.out.1.then_ k1, k2, fun j hj => ?_⟩
     by_cases e : j = k
     ·subst e; exact EQ.out
     ·exact HB.out.2.2 j (by omega)
  ·go_wp2_with fail
   go_ret
   have e : k = n := by omega
   subst e
   exact ⟨_, rfl, HB.out.1, .inl ⟨rfl, HB.out.2.2, HB.out.2.1⟩⟩
theorem containsJ_c (g : Nat) (lb : Array Value) (eg : ∀ args w, (callFunc g args).run Tryz.prog w = .ok (.enter g args) w) (X : Nat → Prop) (St : Nat → World → Prop) (p : Nat → Bool) {l : List Jt} {ao : Option Addr} {n c : Nat} {w : World}
  (hn : l.length = n) (hmx : n ≤ 4611686018427387904) (hl : LsT encJ 8 w ao l) (hX : 0 < n → Offs X ao) (hS0 : St 0 w)
  (hS : ∀ i x u, l[i]? = some x → But X w u → St i u → Calls Tryz.prog g (#[jtV x] ++ lb) u fun e v => e = .returned (.bool (p i)) ∧ But X u v ∧ St (i + 1) v) :
  Calls Tryz.prog 143 #[.slice ao n c, .func (.func g) #[] lb] w fun e v => ∃ r, e = .returned (.bool r) ∧ But X w v ∧ ((r = false ∧ (∀ i, i < n → p i = false) ∧ St n v) ∨ (r = true ∧ ∃ i, i < n ∧ p i = true)) := by
 have HC := hid (idxJ_c g lb eg X St p (c := c) hn hmx hl hX hS0 hS)
 clear hn hl hX hS hS0
 go_enter Tryz.func143, Tryz.ntmps143
 go_wp2_with fail
 refine HC.out.mono ?_
 rintro e w1 ⟨r, rfl, k1, h⟩
 rcases h with ⟨rfl, h1, h2⟩ | ⟨i, hi, rfl, h1, h2, h3⟩
 ·go_wp2_with fail
  go_ret
  exact ⟨_, rfl, k1, .inl ⟨rfl, h1, h2⟩⟩
 ·go_wp2_with fail
  go_ret
  exact ⟨_, rfl, k1, .inr ⟨by simp, i, hi, h1⟩⟩
theorem notEJ_c (g : Nat) (lb : Array Value) (eg : ∀ args w, (callFunc g args).run Tryz.prog w = .ok (.enter g args) w) (X : Nat → Prop) (S : World → Prop) (q : Bool) (x : Jt) (gb : Nat) (u : World)
  (h0 : u.cell? ⟨gb, 0, none⟩ = some (.func (.func g) #[] lb))
  (H : ∀ u', Made u.heap.size u u' → Calls Tryz.prog g (#[jtV x] ++ lb) u' fun e v => e = .returned (.bool q) ∧ But X u' v ∧ S v) :
  Calls Tryz.prog 144 #[jtV x, .pointer (some ⟨gb, 0, none⟩)] u fun e v => e = .returned (.bool (!q)) ∧ But X u v ∧ S v := by
 have hlt : gb < u.heap.size := World.block_lt_of_cell? u _ h0
 have HH := hid H
 clear H
 obtain ⟨x0, x1, x2, x3, x4, x5, x6, x7⟩ := x
 go_enter Tryz.func144, Tryz.ntmps144
 go_wp2_with (go_at_fn g; refine (HH.out _ ((Made.rfl_ _ _).cells (Nat.le_refl _) _ _)).mono ?_; rintro e w' ⟨rfl, k1, k2⟩)
 go_ret
 exact ⟨rfl, (But.rfl_ X u).alloc _ _ |>.then_ k1, k2⟩
theorem everyJ_c (g : Nat) (lb : Array Value) (eg : ∀ args w, (callFunc g args).run Tryz.prog w = .ok (.enter g args) w) (X : Nat → Prop) (St : Nat → World → Prop) (q : Nat → Bool) {l : List Jt} {ao : Option Addr} {n c : Nat} {w : World}
  (hn : l.length = n) (hmx : n ≤ 4611686018427387904) (hl : LsT encJ 8 w ao l) (hX : 0 < n → Offs X ao) (hXw : ∀ b, X b → b < w.heap.size) (hSt : ∀ i u v, St i u → Made u.heap.size u v → St i v) (hS0 : St 0 w)
  (hS : ∀ i x u, l[i]? = some x → But X w u → St i u → Calls Tryz.prog g (#[jtV x] ++ lb) u fun e v => e = .returned (.bool (q i)) ∧ But X u v ∧ St (i + 1) v) :
  Calls Tryz.prog 121 #[.slice ao n c, .func (.func g) #[] lb] w fun e v => ∃ r, e = .returned (.bool r) ∧ But X w v ∧ ((r = true ∧ (∀ i, i < n → q i = true) ∧ St n v) ∨ (r = false ∧ ∃ i, i < n ∧ q i = false)) := by
 obtain ⟨W, eW⟩ : ∃ W, W = w.alloc (.cells #[.func (.func g) #[] lb] 146) := ⟨_, rfl⟩
 have kW : Made w.heap.size w W := by rw [eW]; exact (Made.rfl_ _ _).cells (Nat.le_refl _) _ _
 have c0 : W.cell? ⟨w.heap.size, 0, none⟩ = some (.func (.func g) #[] lb) := by rw [eW]; exact (has_new _ _ _).at_ 0
 have hXn : ¬ X w.heap.size := fun h => Nat.lt_irrefl _ (hXw _ h)
 have HC := hid (containsJ_c 144 #[.pointer (some ⟨w.heap.size, 0, none⟩)] (by intro args w; rfl) X St (fun i => !q i) (c := c) (w := W) hn hmx (hl.below kW.1) hX (hSt _ _ _ hS0 kW)
  (fun i x u hx hB hs => notEJ_c g lb eg X (St (i + 1)) (q i) x w.heap.size u (hB.cell c0 hXn) (fun u' hu => hS i x u' hx ((Made.but kW).then_ (hB.then_ (Made.but hu))) (hSt _ _ _ hs hu))))
 have KW := hid kW
 clear hn hl hX hS hS0 hSt kW c0
 go_enter Tryz.func121, Tryz.ntmps121
 go_wp2_with (rw [← eW]; refine HC.out.mono ?_; rintro e w1 ⟨r, rfl, k1, h⟩)
 go_ret
 refine ⟨_, rfl, (Made.but KW.out).then_ k1, ?_⟩
 rcases h with ⟨rfl, h1, h2⟩ | ⟨rfl, i, hi, h1⟩
 ·exact .inl ⟨rfl, fun i hi => by have := h1 i hi; simpa using this, h2⟩
 ·exact .inr ⟨rfl, i, hi, by simpa using h1⟩
theorem idxC_c (g : Nat) (lb : Array Value) (eg : ∀ args w, (callFunc g args).run Tryz.prog w = .ok (.enter g args) w) (X : Nat → Prop) (St : Nat → World → Prop) (p : Nat → Bool) {l : List Ct} {ao : Option Addr} {n c : Nat} {w : World}
  (hn : l.length = n) (hmx : n ≤ 4611686018427387904) (hl : LsT encC 5 w ao l) (hX : 0 < n → Offs X ao) (hS0 : St 0 w)
  (hS : ∀ i x u, l[i]? = some x → But X w u → St i u → Calls Tryz.prog g (#[ctV x] ++ lb) u fun e v => e = .returned (.bool (p i)) ∧ But X u v ∧ St (i + 1) v) :
  Calls Tryz.prog 134 #[.slice ao n c, .func (.func g) #[] lb] w fun e v => ∃ r : Int, e = .returned (.int .i64 r) ∧ But X w v ∧ ((r = -1 ∧ (∀ i, i < n → p i = false) ∧ St n v) ∨ ∃ i, i < n ∧ r = i ∧ p i = true ∧ (∀ j, j < i → p j = false) ∧ St (i + 1) v) := by
 have HN := hid hn
 have HL := hid hl
 have HX := hid hX
 have HS := hid hS
 have H0 := hid hS0
 clear hn hl hX hS hS0
 go_enter Tryz.func134, Tryz.ntmps134
 go_wp2_with fail
 go_loopg [5, 8] n (fun gg s5 s8 wx => ∃ k : Nat, k + gg = n ∧ s8 = .int .i64 k ∧ Hid (But X w wx ∧ St k wx ∧ ∀ j, j < k → p j = false))
 case atStart => exact ⟨0, by omega, rfl, But.rfl_ _ _, H0.out, fun j hj => absurd hj (Nat.not_lt_zero _)⟩
 case round =>
  obtain ⟨k, hk, rfl, HB⟩ := hrel
  by_cases hlt : k < n
  ·obtain ⟨a, ea⟩ : ∃ a, l[k]? = some a := ⟨_, List.getElem?_eq_getElem (by rw [HN.out]; omega)⟩
   obtain ⟨b, off, rfl, hbl, hLB⟩ := HL.out (by rw [HN.out]; omega)
   have hcall := HS.out k a wr ea HB.out.1 HB.out.2.1
   have hcells := ((hLB.but HB.out.1 (HX.out (by omega) b off _ rfl)) k _ ea).c5
   clear ea hLB
   obtain ⟨x0, x1, x2, x3, x4⟩ := a
   obtain ⟨a0, a1, a2, a3, a4⟩ := hcells
   simp only [] at a0 a1 a2 a3 a4
   obtain ⟨q, eq⟩ : ∃ q, p k = q := ⟨_, rfl⟩
   rw [eq] at hcall
   have EQ := hid eq
   clear eq
   cases q with
   | true =>
    go_wp2_with (go_at_fn g; refine hcall.mono ?_; rintro e w' ⟨rfl, k1, k2⟩)
    go_ret
    exact ⟨_, rfl, HB.out.1.then_ k1, .inr ⟨k, hlt, rfl, EQ.out, HB.out.2.2, k2⟩⟩
   | false =>
    go_wp2_with (go_at_fn g; refine hcall.mono ?_; rintro e w' ⟨rfl, k1, k2⟩)
    go_roundg (n - (k + 1))
    case measure => omega
    case rel =>
     refine ⟨k + 1, by omega, by go_num, HB.out.1.then_ k1, k2, fun j hj => ?_⟩
     by_cases e : j = k
     ·subst e; exact EQ.out
     ·exact HB.out.2.2 j (by omega)
  ·go_wp2_with fail
   go_ret
   have e : k = n := by omega
   subst e
   exact ⟨_, rfl, HB.out.1, .inl ⟨rfl, HB.out.2.2, HB.out.2.1⟩⟩
theorem containsC_c (g : Nat) (lb : Array Value) (eg : ∀ args w, (callFunc g args).run Tryz.prog w = .ok (.enter g args) w) (X : Nat → Prop) (St : Nat → World → Prop) (p : Nat → Bool) {l : List Ct} {ao : Option Addr} {n c : Nat} {w : World}
  (hn : l.length = n) (hmx : n ≤ 4611686018427387904) (hl : LsT encC 5 w ao l) (hX : 0 < n → Offs X ao) (hS0 : St 0 w)
  (hS : ∀ i x u, l[i]? = some x → But X w u → St i u → Calls Tryz.prog g (#[ctV x] ++ lb) u fun e v => e = .returned (.bool (p i)) ∧ But X u v ∧ St (i + 1) v) :
  Calls Tryz.prog 146 #[.slice ao n c, .func (.func g) #[] lb] w fun e v => ∃ r, e = .returned (.bool r) ∧ But X w v ∧ ((r = false ∧ (∀ i, i < n → p i = false) ∧ St n v) ∨ (r = true ∧ ∃ i, i < n ∧ p i = true)) := by
 have HC := hid (idxC_c g lb eg X St p (c := c) hn hmx hl hX hS0 hS)
 clear hn hl hX hS hS0
 go_enter Tryz.func146, Tryz.ntmps146
 go_wp2_with fail
 refine HC.out.mono ?_
 rintro e w1 ⟨r, rfl, k1, h⟩
 rcases h with ⟨rfl, h1, h2⟩ | ⟨i, hi, rfl, h1, h2, h3⟩
 ·go_wp2_with fail
  go_ret
  exact ⟨_, rfl, k1, .inl ⟨rfl, h1, h2⟩⟩
 ·go_wp2_with fail
  go_ret
  exact ⟨_, rfl, k1, .inr ⟨by simp, i, hi, h1⟩⟩
theorem notEC_c (g : Nat) (lb : Array Value) (eg : ∀ args w, (callFunc g args).run Tryz.prog w = .ok (.enter g args) w) (X : Nat → Prop) (S : World → Prop) (q : Bool) (x : Ct) (gb : Nat) (u : World)
  (h0 : u.cell? ⟨gb, 0, none⟩ = some (.func (.func g) #[] lb))
  (H : ∀ u', Made u.heap.size u u' → Calls Tryz.prog g (#[ctV x] ++ lb) u' fun e v => e = .returned (.bool q) ∧ But X u' v ∧ S v) :
  Calls Tryz.prog 147 #[ctV x, .pointer (some ⟨gb, 0, none⟩)] u fun e v => e = .returned (.bool (!q)) ∧ But X u v ∧ S v := by
 have hlt : gb < u.heap.size := World.block_lt_of_cell? u _ h0
 have HH := hid H
 clear H
 obtain ⟨x0, x1, x2, x3, x4⟩ := x
 go_enter Tryz.func147, Tryz.ntmps147
 go_wp2_with (go_at_fn g; refine (HH.out _ ((Made.rfl_ _ _).cells (Nat.le_refl _) _ _)).mono ?_; rintro e w' ⟨rfl, k1, k2⟩)
 go_ret
 exact ⟨rfl, (But.rfl_ X u).alloc _ _ |>.then_ k1, k2⟩
theorem everyC_c (g : Nat) (lb : Array Value) (eg : ∀ args w, (callFunc g args).run Tryz.prog w = .ok (.enter g args) w) (X : Nat → Prop) (St : Nat → World → Prop) (q : Nat → Bool) {l : List Ct} {ao : Option Addr} {n c : Nat} {w : World}
  (hn : l.length = n) (hmx : n ≤ 4611686018427387904) (hl : LsT encC 5 w ao l) (hX : 0 < n → Offs X ao) (hXw : ∀ b, X b → b < w.heap.size) (hSt : ∀ i u v, St i u → Made u.heap.size u v → St i v) (hS0 : St 0 w)
  (hS : ∀ i x u, l[i]? = some x → But X w u → St i u → Calls Tryz.prog g (#[ctV x] ++ lb) u fun e v => e = .returned (.bool (q i)) ∧ But X u v ∧ St (i + 1) v) :
  Calls Tryz.prog 125 #[.slice ao n c, .func (.func g) #[] lb] w fun e v => ∃ r, e = .returned (.bool r) ∧ But X w v ∧ ((r = true ∧ (∀ i, i < n → q i = true) ∧ St n v) ∨ (r = false ∧ ∃ i, i < n ∧ q i = false)) := by
 obtain ⟨W, eW⟩ : ∃ W, W = w.alloc (.cells #[.func (.func g) #[] lb] 156) := ⟨_, rfl⟩
 have kW : Made w.heap.size w W := by rw [eW]; exact (Made.rfl_ _ _).cells (Nat.le_refl _) _ _
 have c0 : W.cell? ⟨w.heap.size, 0, none⟩ = some (.func (.func g) #[] lb) := by rw [eW]; exact (has_new _ _ _).at_ 0
 have hXn : ¬ X w.heap.size := fun h => Nat.lt_irrefl _ (hXw _ h)
 have HC := hid (containsC_c 147 #[.pointer (some ⟨w.heap.size, 0, none⟩)] (by intro args w; rfl) X St (fun i => !q i) (c := c) (w := W) hn hmx (hl.below kW.1) hX (hSt _ _ _ hS0 kW)
  (fun i x u hx hB hs => notEC_c g lb eg X (St (i + 1)) (q i) x w.heap.size u (hB.cell c0 hXn) (fun u' hu => hS i x u' hx ((Made.but kW).then_ (hB.then_ (Made.but hu))) (hSt _ _ _ hs hu))))
 have KW := hid kW
 clear hn hl hX hS hS0 hSt kW c0
 go_enter Tryz.func125, Tryz.ntmps125
 go_wp2_with (rw [← eW]; refine HC.out.mono ?_; rintro e w1 ⟨r, rfl, k1, h⟩)
 go_ret
 refine ⟨_, rfl, (Made.but KW.out).then_ k1, ?_⟩
 rcases h with ⟨rfl, h1, h2⟩ | ⟨rfl, i, hi, h1⟩
 ·exact .inl ⟨rfl, fun i hi => by have := h1 i hi; simpa using this, h2⟩
 ·exact .inr ⟨rfl, i, hi, by simpa using h1⟩
end Go.Proofs.YtgdcphmmehedoaaGreat.Fx