/- WoN WoR WoK WoD WoV -/
import Derived.Test.YtgdcphmmehedoaaGreatCa4
import Derived.Test.YtgdcphmmehedoaaGreatCa8
import Derived.BigQuiet
import Derived.Deep.LoopGhost
import Derived.LoopN
import Derived.WalkMore
set_option maxRecDepth 100000
set_option maxHeartbeats 64000000
/- What may be: numbered, rightBodies, rightJoints, rightContacts, Right. -/
namespace Go.Proofs.YtgdcphmmehedoaaGreat.Fx
open Go.ChangeShapes Go.WideShapes Go.ChangeAt Go.RowKit
set_option linter.unusedVariables false
def prevF (ids : List Int) : Nat → Int
 | 0 => 0
 | i + 1 => ids.getD i 0
theorem num_iff (ids : List Int) (next : Int) : NumP ids next ↔ 1 ≤ next ∧ next ≤ 4611686018427387904 ∧ (∀ i, i < ids.length → prevF ids i < ids.getD i 0) ∧ prevF ids ids.length < next := by
 have at_ : ∀ i (h : i < ids.length), ids.getD i 0 = ids[i] := fun i h => by simp [h]
 constructor
 ·rintro ⟨h1, h2, h3, h4⟩
  have hp := List.pairwise_iff_getElem.1 h3
  refine ⟨h1, h2, fun i hi => ?_, ?_⟩
  ·match i, hi with
   | 0, hi => rw [at_ 0 hi]; exact Int.lt_of_lt_of_le (show (0 : Int) < 1 by decide) (h4 _ (List.getElem_mem hi)).1
   | i + 1, hi =>
    show ids.getD i 0 < ids.getD (i + 1) 0
    rw [at_ _ hi, at_ i (by omega)]
    exact hp i (i + 1) (by omega) hi (by omega)
  ·match hn : ids.length with
   | 0 => exact Int.lt_of_lt_of_le (show (0 : Int) < 1 by decide) h1
   | n + 1 =>
    show ids.getD n 0 < next
    rw [at_ n (by omega)]
    exact (h4 _ (List.getElem_mem _)).2
 ·rintro ⟨h1, h2, h3, h4⟩
  have up : ∀ j i, i < j → j < ids.length → ids.getD i 0 < ids.getD j 0 := by
   intro j
   induction j with
   | zero => intro i h; omega
   | succ j ih =>
    intro i hi hj
    have a := h3 (j + 1) hj
    have a : ids.getD j 0 < ids.getD (j + 1) 0 := a
    rcases Nat.lt_or_ge i j with h | h
    ·exact Int.lt_trans (ih i h (by omega)) a
    ·have e : i = j := by omega
     rw [e]; exact a
  have lo : ∀ i, i < ids.length → 1 ≤ ids.getD i 0 := fun i hi => by
   have a : 0 < ids.getD 0 0 := h3 0 (by omega)
   rcases Nat.eq_zero_or_pos i with h | h
   ·subst h; omega
   ·have := up i 0 h hi; omega
  have hi_ : ∀ i, i < ids.length → ids.getD i 0 < next := fun i hi => by
   match hn : ids.length with
   | 0 => omega
   | n + 1 =>
    rw [hn] at h4
    have a : ids.getD n 0 < next := h4
    rcases Nat.lt_or_ge i n with h | h
    ·exact Int.lt_trans (up n i h (by omega)) a
    ·have e : i = n := by omega
     rw [e]; exact a
  refine ⟨h1, h2, List.pairwise_iff_getElem.2 fun i j hi hj hij => ?_, fun x hx => ?_⟩
  ·have := up j i hij hj
   rwa [at_ i hi, at_ j hj] at this
  ·obtain ⟨i, hi, rfl⟩ := List.mem_iff_getElem.1 hx
   rw [← at_ i hi]
   exact ⟨lo i hi, hi_ i hi⟩
theorem idB_c (x : Bd) (u : World) : Calls Tryz.prog 119 #[bdV x] u fun e v => e = .returned (.int .i64 x.id) ∧ Made u.heap.size u v := by
 obtain ⟨x0, x1, x2, x3, x4, x5, x6, x7, x8, x9, x10, x11, x12, x13⟩ := x
 go_enter Tryz.func119, Tryz.ntmps119
 go_wp2_with fail
 go_ret
 exact ⟨rfl, (Made.rfl_ _ _).cells (Nat.le_refl _) _ _⟩
theorem risesB_c (x : Bd) (gi gb : Nat) (b0 : Int) (u : World) (h0 : u.cell? ⟨gi, 0, none⟩ = some (.func (.func 119) #[] #[])) (h1 : u.cell? ⟨gb, 0, none⟩ = some (.int .i64 b0)) (h2 : u.frozen? ⟨gb, 0, none⟩ = false) :
  Calls Tryz.prog 142 #[bdV x, .pointer (some ⟨gi, 0, none⟩), .pointer (some ⟨gb, 0, none⟩)] u fun e v => e = .returned (.bool (decide (b0 < x.id))) ∧ But (fun b => b = gb) u v ∧ v.cell? ⟨gb, 0, none⟩ = some (.int .i64 x.id) ∧ v.frozen? ⟨gb, 0, none⟩ = false := by
 have l0 : gi < u.heap.size := World.block_lt_of_cell? u _ h0
 have l1 : gb < u.heap.size := World.block_lt_of_cell? u _ h1
 have eg : ∀ args w, (callFunc 119 args).run Tryz.prog w = .ok (.enter 119 args) w := by intro args w; rfl
 obtain ⟨x0, x1, x2, x3, x4, x5, x6, x7, x8, x9, x10, x11, x12, x13⟩ := x
 have HID := hid (fun w => idB_c ⟨x0, x1, x2, x3, x4, x5, x6, x7, x8, x9, x10, x11, x12, x13⟩ w)
 obtain ⟨W, eW⟩ : ∃ W, W = u.alloc (.cells #[.int .i64 x0, .int .i64 x1, .int .i64 x2, .int .i64 x3, .int .i64 x4, .int .i64 x5, .int .i64 x6, .int .i64 x7, .int .i64 x8, .int .i64 x9, .slice x10 x11 x12] 35) := ⟨_, rfl⟩
 have KW : Hid (Made u.heap.size u W) := by unfold Hid; rw [eW]; exact (Made.rfl_ _ _).cells (Nat.le_refl _) _ _
 have HB : Hid (Has W u.heap.size 35 #[.int .i64 x0, .int .i64 x1, .int .i64 x2, .int .i64 x3, .int .i64 x4, .int .i64 x5, .int .i64 x6, .int .i64 x7, .int .i64 x8, .int .i64 x9, .slice x10 x11 x12]) := by unfold Hid; rw [eW]; exact has_new _ _ _
 have h0 := KW.out.reads h0
 have h1 := KW.out.reads h1
 have h2 : W.frozen? ⟨gb, 0, none⟩ = false := (KW.out.2 _).trans h2
 obtain ⟨g2, eg2⟩ : ∃ g, u.heap.size = g := ⟨_, rfl⟩
 rw [eg2] at HB
 have b0 := HB.out.at_ 0
 have b1 := HB.out.at_ 1
 have b2 := HB.out.at_ 2
 have b3 := HB.out.at_ 3
 have b4 := HB.out.at_ 4
 have b5 := HB.out.at_ 5
 have b6 := HB.out.at_ 6
 have b7 := HB.out.at_ 7
 have b8 := HB.out.at_ 8
 have b9 := HB.out.at_ 9
 have b10 := HB.out.at_ 10
 simp at b0 b1 b2 b3 b4 b5 b6 b7 b8 b9 b10
 have l2 : g2 < W.heap.size := HB.out.here
 go_enter Tryz.func142, Tryz.ntmps142
 go_upto_region 1 with fail
 rw [← eW]
 clear eW
 try rw [eg2]
 go_wp2_with fail
 refine reg_made (by kernel_rfl) (by kernel_rfl) ?_
 intro T hT fw hf
 have c0 := Class.reads hf h0
 have c1 := Class.reads hf h1
 have d0 := Class.reads hf b0
 have d1 := Class.reads hf b1
 have d2 := Class.reads hf b2
 have d3 := Class.reads hf b3
 have d4 := Class.reads hf b4
 have d5 := Class.reads hf b5
 have d6 := Class.reads hf b6
 have d7 := Class.reads hf b7
 have d8 := Class.reads hf b8
 have d9 := Class.reads hf b9
 have d10 := Class.reads hf b10
 repeat (go_big_quiet_step ((first | (go_at_fn 119; exact hf.made (HID.out _)) | (go_at_call 119; exact hf.made (HID.out _)))))
 refine wpQuiet_nil ?_
 intro w3 h3
 have k3 := hf.here h3
 have K3 := hid (KW.out.then_ (k3.low KW.out.1.size))
 have HB3 := hid (HB.out.stays k3 HB.out.here)
 have h0 := k3.reads h0
 have h1 := k3.reads h1
 have h2 : w3.frozen? ⟨gb, 0, none⟩ = false := (k3.2 _).trans h2
 clear b0 d0 b1 d1 b2 d2 b3 d3 b4 d4 b5 d5 b6 d6 b7 d7 b8 d8 b9 d9 b10 d10 c0 c1 hf h3 k3 l2
 have b0 := HB3.out.at_ 0
 have b1 := HB3.out.at_ 1
 have b2 := HB3.out.at_ 2
 have b3 := HB3.out.at_ 3
 have b4 := HB3.out.at_ 4
 have b5 := HB3.out.at_ 5
 have b6 := HB3.out.at_ 6
 have b7 := HB3.out.at_ 7
 have b8 := HB3.out.at_ 8
 have b9 := HB3.out.at_ 9
 have b10 := HB3.out.at_ 10
 simp at b0 b1 b2 b3 b4 b5 b6 b7 b8 b9 b10
 have l2 : g2 < w3.heap.size := HB3.out.here
 go_wp2_with fail
 refine (HID.out _).mono ?_
 rintro e w' ⟨rfl, k4⟩
 have K4 := hid (K3.out.then_ (k4.low K3.out.1.size))
 have h1 := k4.reads h1
 have h2 : w'.frozen? ⟨gb, 0, none⟩ = false := (k4.2 _).trans h2
 have l1' : gb < w'.heap.size := World.block_lt_of_cell? _ _ h1
 clear k4 b0 b1 b2 b3 b4 b5 b6 b7 b8 b9 b10
 go_wp2_with fail
 go_ret
 refine ⟨rfl, But.put (X := fun b => b = gb) (Made.but K4.out) (p := ⟨gb, 0, none⟩) (.inl rfl) _, ?_, ?_⟩
 ·go_simp
 ·exact (World.frozen?_setCell _ _ _ _).trans h2
theorem numB_c {l : List Bd} {ao : Option Addr} {n c : Nat} {w : World} (next : Int) (r : Bool) (hn : l.length = n) (hmx : n ≤ 1073741824) (hl : LsT encB 11 w ao l) (hr : r = true ↔ NumP (l.map (·.id)) next) :
  Calls Tryz.prog 118 #[.slice ao n c, .int .i64 next, .func (.func 119) #[] #[]] w fun e v => e = .returned (.bool r) ∧ Made w.heap.size w v := by
 have hr' : r = true ↔ 1 ≤ next ∧ next ≤ 4611686018427387904 ∧ (∀ i, i < n → prevF (l.map (·.id)) i < (l.map (·.id)).getD i 0) ∧ prevF (l.map (·.id)) n < next := by
  rw [hr, num_iff, List.length_map, hn]
 have HR := hid hr'
 have HP : Hid (∀ i x, l[i]? = some x → (l.map (·.id)).getD i 0 = x.id) := fun i x hx => by simp [List.getD, hx]
 obtain ⟨W, eW⟩ : ∃ W, W = ((w.alloc (.cells #[.func (.func 119) #[] #[]] 172)).alloc (.cells #[.int .i64 0] 3)) := ⟨_, rfl⟩
 have KW : Hid (Made w.heap.size w W) := by unfold Hid; rw [eW]; exact ((Made.rfl_ _ _).cells (Nat.le_refl _) _ _).cells (by simp) _ _
 have hI : Has W w.heap.size 172 #[.func (.func 119) #[] #[]] := by rw [eW]; exact (has_new _ _ _).more _
 have hB : Has W (w.heap.size + 1) 3 #[.int .i64 0] := by rw [eW]; exact has_nxt' _ _ _ _
 obtain ⟨g0, eg0⟩ : ∃ g, w.heap.size = g := ⟨_, rfl⟩
 obtain ⟨g1, eg1⟩ : ∃ g, g0 + 1 = g := ⟨_, rfl⟩
 rw [eg0] at hI
 rw [eg0, eg1] at hB
 have hX : 0 < n → Offs (fun b => b = g1) ao := fun h => by
  obtain ⟨b, off, rfl, hb, _⟩ := hl (by omega)
  intro g o s e hh
  cases e
  rw [eg0] at hb
  have hh : b = g1 := hh
  omega
 have HC : Hid (Calls Tryz.prog 117 #[.slice ao n c, .func (.func 142) #[] #[.pointer (some ⟨g0, 0, none⟩), .pointer (some ⟨g1, 0, none⟩)]] W fun e v => ∃ r, e = .returned (.bool r) ∧ But (fun b => b = g1) W v ∧ ((r = true ∧ (∀ i, i < n → decide (prevF (l.map (·.id)) i < (l.map (·.id)).getD i 0) = true) ∧ (v.cell? ⟨g1, 0, none⟩ = some (.int .i64 (prevF (l.map (·.id)) n)) ∧ v.frozen? ⟨g1, 0, none⟩ = false)) ∨ (r = false ∧ ∃ i, i < n ∧ decide (prevF (l.map (·.id)) i < (l.map (·.id)).getD i 0) = false))) :=
  everyB_c _ _ (by intro args w; rfl) (fun b => b = g1) (fun i u => u.cell? ⟨g1, 0, none⟩ = some (.int .i64 (prevF (l.map (·.id)) i)) ∧ u.frozen? ⟨g1, 0, none⟩ = false) (fun i => decide (prevF (l.map (·.id)) i < (l.map (·.id)).getD i 0)) hn (by omega) (hl.below KW.out.1) hX (fun b hb => by have hb : b = g1 := hb; subst hb; exact hB.here)
   (fun i u v h k => ⟨k.reads h.1, (k.2 _).trans h.2⟩) ⟨hB.at_ 0, hB.free 0⟩ (fun i x u hx hb hs => by
    have e : (l.map (·.id)).getD i 0 = x.id := HP.out i x hx
    have e2 : prevF (l.map (·.id)) (i + 1) = x.id := e
    rw [e, e2]
    exact (risesB_c x g0 g1 _ u (hb.cell (hI.at_ 0) (by show ¬ g0 = g1; omega)) hs.1 hs.2).mono fun _ _ ⟨a, b, c, d⟩ => ⟨a, b, c, d⟩)
 have l0 : g0 < W.heap.size := hI.here
 have l1 : g1 < W.heap.size := hB.here
 have HBut : Hid (∀ v, But (fun b => b = g1) W v → Made w.heap.size w v) := fun v k => But.made_ KW.out k (by rw [eg0]; omega) (fun b hb => by have hb : b = g1 := hb; omega)
 have HIs := hid hI
 have HBs := hid hB
 have hb0 := hB.at_ 0
 simp at hb0
 obtain ⟨z, ez⟩ : ∃ z, prevF (l.map (·.id)) n = z := ⟨_, rfl⟩
 rw [ez] at HC HR
 clear hn hl hr hr' hI hB hX ez
 by_cases hA : 1 ≤ next
 ·by_cases hB : next ≤ 4611686018427387904
  ·go_enter Tryz.func118, Tryz.ntmps118
   go_upto_region 2 with fail
   rw [← eW]
   clear eW
   try rw [eg0]
   try rw [eg1]
   go_wp2_with fail
   refine HC.out.mono ?_
   rintro e w1 ⟨q, rfl, k1, h⟩
   have K1 := hid (HBut.out _ k1)
   have l1' : g1 < w1.heap.size := Nat.lt_of_lt_of_le l1 k1.size
   clear k1
   rcases h with ⟨rfl, hall, hc, hf⟩ | ⟨rfl, i, hi, hF⟩
   ·have HA : Hid (∀ i, i < n → prevF (l.map (·.id)) i < (l.map (·.id)).getD i 0) := fun i hi => of_decide_eq_true (hall i hi)
    have HZ : Hid (r = decide (z < next)) := by
     unfold Hid
     rw [Bool.eq_iff_iff, HR.out, decide_eq_true_iff]
     exact ⟨fun h => h.2.2.2, fun h => ⟨hA, hB, HA.out, h⟩⟩
    clear hall hb0
    go_wp2_with fail
    go_ret
    exact ⟨by rw [HZ.out]; rfl, K1.out⟩
   ·have hF : r = false := Bool.eq_false_iff.2 fun h => by
     have := (HR.out.1 h).2.2.1 i hi
     have h2 := of_decide_eq_false hF
     omega
    have HF := hid hF
    clear hF hb0
    go_wp2_with fail
    go_ret
    exact ⟨by rw [HF.out]; rfl, K1.out⟩
  ·have HF : Hid (r = false) := Bool.eq_false_iff.2 fun h => hB (HR.out.1 h).2.1
   go_enter Tryz.func118, Tryz.ntmps118
   go_upto_region 2 with fail
   rw [← eW]
   clear eW
   try rw [eg0]
   try rw [eg1]
   go_wp2_with fail
   go_ret
   exact ⟨by rw [HF.out]; rfl, by first | exact KW.out | (rw [← eg0]; exact KW.out)⟩
 ·have HF : Hid (r = false) := Bool.eq_false_iff.2 fun h => hA (HR.out.1 h).1
  go_enter Tryz.func118, Tryz.ntmps118
  go_upto_region 2 with fail
  rw [← eW]
  clear eW
  try rw [eg0]
  try rw [eg1]
  go_wp2_with fail
  go_ret
  exact ⟨by rw [HF.out]; rfl, by first | exact KW.out | (rw [← eg0]; exact KW.out)⟩
theorem idJ_c (x : Jt) (u : World) : Calls Tryz.prog 123 #[jtV x] u fun e v => e = .returned (.int .i64 x.id) ∧ Made u.heap.size u v := by
 obtain ⟨x0, x1, x2, x3, x4, x5, x6, x7⟩ := x
 go_enter Tryz.func123, Tryz.ntmps123
 go_wp2_with fail
 go_ret
 exact ⟨rfl, (Made.rfl_ _ _).cells (Nat.le_refl _) _ _⟩
theorem risesJ_c (x : Jt) (gi gb : Nat) (b0 : Int) (u : World) (h0 : u.cell? ⟨gi, 0, none⟩ = some (.func (.func 123) #[] #[])) (h1 : u.cell? ⟨gb, 0, none⟩ = some (.int .i64 b0)) (h2 : u.frozen? ⟨gb, 0, none⟩ = false) :
  Calls Tryz.prog 145 #[jtV x, .pointer (some ⟨gi, 0, none⟩), .pointer (some ⟨gb, 0, none⟩)] u fun e v => e = .returned (.bool (decide (b0 < x.id))) ∧ But (fun b => b = gb) u v ∧ v.cell? ⟨gb, 0, none⟩ = some (.int .i64 x.id) ∧ v.frozen? ⟨gb, 0, none⟩ = false := by
 have l0 : gi < u.heap.size := World.block_lt_of_cell? u _ h0
 have l1 : gb < u.heap.size := World.block_lt_of_cell? u _ h1
 have eg : ∀ args w, (callFunc 123 args).run Tryz.prog w = .ok (.enter 123 args) w := by intro args w; rfl
 obtain ⟨x0, x1, x2, x3, x4, x5, x6, x7⟩ := x
 have HID := hid (fun w => idJ_c ⟨x0, x1, x2, x3, x4, x5, x6, x7⟩ w)
 obtain ⟨W, eW⟩ : ∃ W, W = u.alloc (.cells #[.int .i64 x0, .int .i64 x1, .int .i64 x2, .int .i64 x3, .int .i64 x4, .int .i64 x5, .int .i64 x6, .int .i64 x7] 102) := ⟨_, rfl⟩
 have KW : Hid (Made u.heap.size u W) := by unfold Hid; rw [eW]; exact (Made.rfl_ _ _).cells (Nat.le_refl _) _ _
 have HB : Hid (Has W u.heap.size 102 #[.int .i64 x0, .int .i64 x1, .int .i64 x2, .int .i64 x3, .int .i64 x4, .int .i64 x5, .int .i64 x6, .int .i64 x7]) := by unfold Hid; rw [eW]; exact has_new _ _ _
 have h0 := KW.out.reads h0
 have h1 := KW.out.reads h1
 have h2 : W.frozen? ⟨gb, 0, none⟩ = false := (KW.out.2 _).trans h2
 obtain ⟨g2, eg2⟩ : ∃ g, u.heap.size = g := ⟨_, rfl⟩
 rw [eg2] at HB
 have b0 := HB.out.at_ 0
 have b1 := HB.out.at_ 1
 have b2 := HB.out.at_ 2
 have b3 := HB.out.at_ 3
 have b4 := HB.out.at_ 4
 have b5 := HB.out.at_ 5
 have b6 := HB.out.at_ 6
 have b7 := HB.out.at_ 7
 simp at b0 b1 b2 b3 b4 b5 b6 b7
 have l2 : g2 < W.heap.size := HB.out.here
 go_enter Tryz.func145, Tryz.ntmps145
 go_upto_region 1 with fail
 rw [← eW]
 clear eW
 try rw [eg2]
 go_wp2_with fail
 refine reg_made (by kernel_rfl) (by kernel_rfl) ?_
 intro T hT fw hf
 have c0 := Class.reads hf h0
 have c1 := Class.reads hf h1
 have d0 := Class.reads hf b0
 have d1 := Class.reads hf b1
 have d2 := Class.reads hf b2
 have d3 := Class.reads hf b3
 have d4 := Class.reads hf b4
 have d5 := Class.reads hf b5
 have d6 := Class.reads hf b6
 have d7 := Class.reads hf b7
 repeat (go_big_quiet_step ((first | (go_at_fn 123; exact hf.made (HID.out _)) | (go_at_call 123; exact hf.made (HID.out _)))))
 refine wpQuiet_nil ?_
 intro w3 h3
 have k3 := hf.here h3
 have K3 := hid (KW.out.then_ (k3.low KW.out.1.size))
 have HB3 := hid (HB.out.stays k3 HB.out.here)
 have h0 := k3.reads h0
 have h1 := k3.reads h1
 have h2 : w3.frozen? ⟨gb, 0, none⟩ = false := (k3.2 _).trans h2
 clear b0 d0 b1 d1 b2 d2 b3 d3 b4 d4 b5 d5 b6 d6 b7 d7 c0 c1 hf h3 k3 l2
 have b0 := HB3.out.at_ 0
 have b1 := HB3.out.at_ 1
 have b2 := HB3.out.at_ 2
 have b3 := HB3.out.at_ 3
 have b4 := HB3.out.at_ 4
 have b5 := HB3.out.at_ 5
 have b6 := HB3.out.at_ 6
 have b7 := HB3.out.at_ 7
 simp at b0 b1 b2 b3 b4 b5 b6 b7
 have l2 : g2 < w3.heap.size := HB3.out.here
 go_wp2_with fail
 refine (HID.out _).mono ?_
 rintro e w' ⟨rfl, k4⟩
 have K4 := hid (K3.out.then_ (k4.low K3.out.1.size))
 have h1 := k4.reads h1
 have h2 : w'.frozen? ⟨gb, 0, none⟩ = false := (k4.2 _).trans h2
 have l1' : gb < w'.heap.size := World.block_lt_of_cell? _ _ h1
 clear k4 b0 b1 b2 b3 b4 b5 b6 b7
 go_wp2_with fail
 go_ret
 refine ⟨rfl, But.put (X := fun b => b = gb) (Made.but K4.out) (p := ⟨gb, 0, none⟩) (.inl rfl) _, ?_, ?_⟩
 ·go_simp
 ·exact (World.frozen?_setCell _ _ _ _).trans h2
theorem numJ_c {l : List Jt} {ao : Option Addr} {n c : Nat} {w : World} (next : Int) (r : Bool) (hn : l.length = n) (hmx : n ≤ 1073741824) (hl : LsT encJ 8 w ao l) (hr : r = true ↔ NumP (l.map (·.id)) next) :
  Calls Tryz.prog 122 #[.slice ao n c, .int .i64 next, .func (.func 123) #[] #[]] w fun e v => e = .returned (.bool r) ∧ Made w.heap.size w v := by
 have hr' : r = true ↔ 1 ≤ next ∧ next ≤ 4611686018427387904 ∧ (∀ i, i < n → prevF (l.map (·.id)) i < (l.map (·.id)).getD i 0) ∧ prevF (l.map (·.id)) n < next := by
  rw [hr, num_iff, List.length_map, hn]
 have HR := hid hr'
 have HP : Hid (∀ i x, l[i]? = some x → (l.map (·.id)).getD i 0 = x.id) := fun i x hx => by simp [List.getD, hx]
 obtain ⟨W, eW⟩ : ∃ W, W = ((w.alloc (.cells #[.func (.func 123) #[] #[]] 169)).alloc (.cells #[.int .i64 0] 3)) := ⟨_, rfl⟩
 have KW : Hid (Made w.heap.size w W) := by unfold Hid; rw [eW]; exact ((Made.rfl_ _ _).cells (Nat.le_refl _) _ _).cells (by simp) _ _
 have hI : Has W w.heap.size 169 #[.func (.func 123) #[] #[]] := by rw [eW]; exact (has_new _ _ _).more _
 have hB : Has W (w.heap.size + 1) 3 #[.int .i64 0] := by rw [eW]; exact has_nxt' _ _ _ _
 obtain ⟨g0, eg0⟩ : ∃ g, w.heap.size = g := ⟨_, rfl⟩
 obtain ⟨g1, eg1⟩ : ∃ g, g0 + 1 = g := ⟨_, rfl⟩
 rw [eg0] at hI
 rw [eg0, eg1] at hB
 have hX : 0 < n → Offs (fun b => b = g1) ao := fun h => by
  obtain ⟨b, off, rfl, hb, _⟩ := hl (by omega)
  intro g o s e hh
  cases e
  rw [eg0] at hb
  have hh : b = g1 := hh
  omega
 have HC : Hid (Calls Tryz.prog 121 #[.slice ao n c, .func (.func 145) #[] #[.pointer (some ⟨g0, 0, none⟩), .pointer (some ⟨g1, 0, none⟩)]] W fun e v => ∃ r, e = .returned (.bool r) ∧ But (fun b => b = g1) W v ∧ ((r = true ∧ (∀ i, i < n → decide (prevF (l.map (·.id)) i < (l.map (·.id)).getD i 0) = true) ∧ (v.cell? ⟨g1, 0, none⟩ = some (.int .i64 (prevF (l.map (·.id)) n)) ∧ v.frozen? ⟨g1, 0, none⟩ = false)) ∨ (r = false ∧ ∃ i, i < n ∧ decide (prevF (l.map (·.id)) i < (l.map (·.id)).getD i 0) = false))) :=
  everyJ_c _ _ (by intro args w; rfl) (fun b => b = g1) (fun i u => u.cell? ⟨g1, 0, none⟩ = some (.int .i64 (prevF (l.map (·.id)) i)) ∧ u.frozen? ⟨g1, 0, none⟩ = false) (fun i => decide (prevF (l.map (·.id)) i < (l.map (·.id)).getD i 0)) hn (by omega) (hl.below KW.out.1) hX (fun b hb => by have hb : b = g1 := hb; subst hb; exact hB.here)
   (fun i u v h k => ⟨k.reads h.1, (k.2 _).trans h.2⟩) ⟨hB.at_ 0, hB.free 0⟩ (fun i x u hx hb hs => by
    have e : (l.map (·.id)).getD i 0 = x.id := HP.out i x hx
    have e2 : prevF (l.map (·.id)) (i + 1) = x.id := e
    rw [e, e2]
    exact (risesJ_c x g0 g1 _ u (hb.cell (hI.at_ 0) (by show ¬ g0 = g1; omega)) hs.1 hs.2).mono fun _ _ ⟨a, b, c, d⟩ => ⟨a, b, c, d⟩)
 have l0 : g0 < W.heap.size := hI.here
 have l1 : g1 < W.heap.size := hB.here
 have HBut : Hid (∀ v, But (fun b => b = g1) W v → Made w.heap.size w v) := fun v k => But.made_ KW.out k (by rw [eg0]; omega) (fun b hb => by have hb : b = g1 := hb; omega)
 have HIs := hid hI
 have HBs := hid hB
 have hb0 := hB.at_ 0
 simp at hb0
 obtain ⟨z, ez⟩ : ∃ z, prevF (l.map (·.id)) n = z := ⟨_, rfl⟩
 rw [ez] at HC HR
 clear hn hl hr hr' hI hB hX ez
 by_cases hA : 1 ≤ next
 ·by_cases hB : next ≤ 4611686018427387904
  ·go_enter Tryz.func122, Tryz.ntmps122
   go_upto_region 2 with fail
   rw [← eW]
   clear eW
   try rw [eg0]
   try rw [eg1]
   go_wp2_with fail
   refine HC.out.mono ?_
   rintro e w1 ⟨q, rfl, k1, h⟩
   have K1 := hid (HBut.out _ k1)
   have l1' : g1 < w1.heap.size := Nat.lt_of_lt_of_le l1 k1.size
   clear k1
   rcases h with ⟨rfl, hall, hc, hf⟩ | ⟨rfl, i, hi, hF⟩
   ·have HA : Hid (∀ i, i < n → prevF (l.map (·.id)) i < (l.map (·.id)).getD i 0) := fun i hi => of_decide_eq_true (hall i hi)
    have HZ : Hid (r = decide (z < next)) := by
     unfold Hid
     rw [Bool.eq_iff_iff, HR.out, decide_eq_true_iff]
     exact ⟨fun h => h.2.2.2, fun h => ⟨hA, hB, HA.out, h⟩⟩
    clear hall hb0
    go_wp2_with fail
    go_ret
    exact ⟨by rw [HZ.out]; rfl, K1.out⟩
   ·have hF : r = false := Bool.eq_false_iff.2 fun h => by
     have := (HR.out.1 h).2.2.1 i hi
     have h2 := of_decide_eq_false hF
     omega
    have HF := hid hF
    clear hF hb0
    go_wp2_with fail
    go_ret
    exact ⟨by rw [HF.out]; rfl, K1.out⟩
  ·have HF : Hid (r = false) := Bool.eq_false_iff.2 fun h => hB (HR.out.1 h).2.1
   go_enter Tryz.func122, Tryz.ntmps122
   go_upto_region 2 with fail
   rw [← eW]
   clear eW
   try rw [eg0]
   try rw [eg1]
   go_wp2_with fail
   go_ret
   exact ⟨by rw [HF.out]; rfl, by first | exact KW.out | (rw [← eg0]; exact KW.out)⟩
 ·have HF : Hid (r = false) := Bool.eq_false_iff.2 fun h => hA (HR.out.1 h).1
  go_enter Tryz.func122, Tryz.ntmps122
  go_upto_region 2 with fail
  rw [← eW]
  clear eW
  try rw [eg0]
  try rw [eg1]
  go_wp2_with fail
  go_ret
  exact ⟨by rw [HF.out]; rfl, by first | exact KW.out | (rw [← eg0]; exact KW.out)⟩
end Go.Proofs.YtgdcphmmehedoaaGreat.Fx
/- What may be: rightBodies, rightJoints, rightContacts, Right. -/
namespace Go.Proofs.YtgdcphmmehedoaaGreat.Fx
open Go.ChangeShapes Go.WideShapes Go.ChangeAt Go.RowKit
set_option linter.unusedVariables false
noncomputable def bodyB (b : Bd) : Bool := @decide (BodyP b) (Classical.propDecidable _)
theorem bodyB_iff (b : Bd) : bodyB b = true ↔ BodyP b := by unfold bodyB; exact @decide_eq_true_iff _ (Classical.propDecidable _)
def qOf {α : Type} (l : List α) (p : α → Bool) (i : Nat) : Bool := match l[i]? with | some x => p x | none => true
theorem qOf_at {α : Type} {l : List α} {p : α → Bool} {i : Nat} {x : α} (h : l[i]? = some x) : qOf l p i = p x := by unfold qOf; rw [h]
theorem qOf_all {α : Type} {l : List α} {p : α → Bool} {n : Nat} (hn : l.length = n) (h : ∀ i, i < n → qOf l p i = true) : ∀ x ∈ l, p x = true := by
 intro x hx
 obtain ⟨i, hi⟩ := List.mem_iff_getElem?.1 hx
 have := h i (by rw [← hn]; exact (List.getElem?_eq_some_iff.1 hi).1)
 rwa [qOf_at hi] at this
theorem qOf_one {α : Type} {l : List α} {p : α → Bool} {n : Nat} (hn : l.length = n) (h : ∃ i, i < n ∧ qOf l p i = false) : ¬ ∀ x ∈ l, p x = true := by
 obtain ⟨i, hi, h⟩ := h
 intro hall
 have hx : l[i]? = some l[i] := List.getElem?_eq_getElem (by rw [hn]; exact hi)
 rw [qOf_at hx] at h
 rw [hall _ (List.mem_of_getElem? hx)] at h
 cases h
def BdsIn (w : World) (B : List Bd) : Prop := ∀ b ∈ B, Sl w b.ao b.n b.f ∧ BdI b
theorem BdsIn.kept {w v : World} {B : List Bd} (h : BdsIn w B) (k : Made w.heap.size w v) : BdsIn v B := fun b hb => ⟨fun hn => by
 obtain ⟨g, off, e, hp⟩ := (h b hb).1 hn
 exact ⟨g, off, e, hp.kept k⟩, (h b hb).2⟩
theorem rbodies_c (tk nb nj gx gy : Int) (ob oj oc : Option Addr) (nB cb nJ cj nC cc : Nat) {B : List Bd} {w : World} (r : Bool) (hn : B.length = nB) (hmx : nB ≤ 1073741824) (hl : LsT encB 11 w ob B) (hs : BdsIn w B) (hr : r = true ↔ BodiesP B nb) :
  Calls Tryz.prog 97 #[wdV tk nb nj gx gy (.slice ob nB cb) (.slice oj nJ cj) (.slice oc nC cc)] w fun e v => e = .returned (.bool r) ∧ Made w.heap.size w v := by
 obtain ⟨r2, hr2⟩ := a_bool (NumP (B.map (·.id)) nb)
 have HR2 := hid hr2
 have HR : Hid (r = true ↔ B.length ≤ 1024 ∧ (∀ b ∈ B, bodyB b = true) ∧ r2 = true) := by
  unfold Hid
  rw [hr, hr2]
  exact ⟨fun h => ⟨h.len, fun b hb => (bodyB_iff b).2 (h.all b hb), h.num⟩, fun h => ⟨h.1, fun b hb => (bodyB_iff b).1 (h.2.1 b hb), h.2.2⟩⟩
 obtain ⟨W, eW⟩ : ∃ W, W = w.alloc (.cells #[.int .i64 tk, .int .i64 nb, .int .i64 nj, .int .i64 gx, .int .i64 gy, .slice ob nB cb, .slice oj nJ cj, .slice oc nC cc] 56) := ⟨_, rfl⟩
 have KW : Hid (Made w.heap.size w W) := by unfold Hid; rw [eW]; exact (Made.rfl_ _ _).cells (Nat.le_refl _) _ _
 have HB : Hid (Has W w.heap.size 56 #[.int .i64 tk, .int .i64 nb, .int .i64 nj, .int .i64 gx, .int .i64 gy, .slice ob nB cb, .slice oj nJ cj, .slice oc nC cc]) := by unfold Hid; rw [eW]; exact has_new _ _ _
 obtain ⟨g0, eg⟩ : ∃ g, w.heap.size = g := ⟨_, rfl⟩
 rw [eg] at HB
 have HE := hid (everyB_c 77 #[] (by intro args w; rfl) Nil0 (fun _ _ => True) (qOf B bodyB) (c := cb) (w := W) hn (by omega) (hl.below KW.out.1) (fun _ => Offs.nil _) (fun b h => h.elim) (fun _ _ _ _ _ => trivial) trivial
  (fun i x u hx hu _ => by
   rw [qOf_at hx]
   obtain ⟨h1, h2⟩ := (hs.kept KW.out).kept hu.made x (List.mem_of_getElem? hx)
   exact (rbody_c x.id x.x x.y x.vx x.vy x.an x.sp x.de x.k x.r x.ao x.n x.c x.f (bodyB x) u h1 h2 (bodyB_iff x)).mono fun _ _ ⟨a, b⟩ => ⟨a, Made.but b, trivial⟩))
 have HNm := hid (fun v (k : Made W.heap.size W v) => numB_c (c := cb) (w := v) nb r2 hn hmx ((hl.below KW.out.1).below k.1) hr2)
 have HN := hid hn
 have b0 := HB.out.at_ 0
 have b1 := HB.out.at_ 1
 have b2 := HB.out.at_ 2
 have b3 := HB.out.at_ 3
 have b4 := HB.out.at_ 4
 have b5 := HB.out.at_ 5
 have b6 := HB.out.at_ 6
 have b7 := HB.out.at_ 7
 simp at b0 b1 b2 b3 b4 b5 b6 b7
 have l0 : g0 < W.heap.size := HB.out.here
 clear hn hl hs hr hr2
 by_cases hA : nB ≤ 1024
 ·go_enter Tryz.func97, Tryz.ntmps97
  go_upto_region 1 with fail
  rw [← eW]
  clear eW
  try rw [eg]
  go_wp2_with fail
  refine HE.out.mono ?_
  rintro e w1 ⟨q, rfl, k1, h⟩
  have k1 := k1.made
  have K1 := hid (KW.out.then_ (k1.low KW.out.1.size))
  have K1W := hid k1
  have HB1 := hid (HB.out.stays k1 HB.out.here)
  clear k1 b0 b1 b2 b3 b4 b5 b6 b7 l0
  have b0 := HB1.out.at_ 0
  have b1 := HB1.out.at_ 1
  have b2 := HB1.out.at_ 2
  have b3 := HB1.out.at_ 3
  have b4 := HB1.out.at_ 4
  have b5 := HB1.out.at_ 5
  have b6 := HB1.out.at_ 6
  have b7 := HB1.out.at_ 7
  simp at b0 b1 b2 b3 b4 b5 b6 b7
  have l0 : g0 < w1.heap.size := HB1.out.here
  rcases h with ⟨rfl, hall, _⟩ | ⟨rfl, hone⟩
  ·have HF : Hid (r = r2) := by
    unfold Hid
    rw [Bool.eq_iff_iff, HR.out]
    exact ⟨fun h => h.2.2, fun h => ⟨by rw [HN.out]; exact hA, qOf_all HN.out hall, h⟩⟩
   clear hall
   go_wp2_with fail
   refine (HNm.out _ K1W.out).mono ?_
   rintro e w2 ⟨rfl, k2⟩
   have K2 := hid (K1.out.then_ (k2.low K1.out.1.size))
   clear k2 b0 b1 b2 b3 b4 b5 b6 b7 l0
   go_wp2_with fail
   go_ret
   exact ⟨by rw [HF.out]; rfl, by first | exact K2.out | exact eg ▸ K2.out⟩
  ·have HF : Hid (r = false) := Bool.eq_false_iff.2 fun h => qOf_one HN.out hone (HR.out.1 h).2.1
   clear hone
   go_wp2_with fail
   go_ret
   exact ⟨by rw [HF.out]; rfl, by first | exact K1.out | exact eg ▸ K1.out⟩
 ·have HF : Hid (r = false) := Bool.eq_false_iff.2 fun h => hA (by rw [← HN.out]; exact (HR.out.1 h).1)
  go_enter Tryz.func97, Tryz.ntmps97
  go_upto_region 1 with fail
  rw [← eW]
  clear eW
  try rw [eg]
  go_wp2_with fail
  go_ret
  exact ⟨by rw [HF.out]; rfl, by first | exact KW.out | exact eg ▸ KW.out⟩
noncomputable def jointB (B : List Bd) (j : Jt) : Bool := @decide (JointP j ∧ j.a ∈ B.map (·.id) ∧ j.b ∈ B.map (·.id)) (Classical.propDecidable _)
theorem jointB_iff (B : List Bd) (j : Jt) : jointB B j = true ↔ JointP j ∧ j.a ∈ B.map (·.id) ∧ j.b ∈ B.map (·.id) := by unfold jointB; exact @decide_eq_true_iff _ (Classical.propDecidable _)
theorem rj1_c (tk nb nj gx gy : Int) (ob oj oc : Option Addr) (nB cb nJ cj nC cc : Nat) {B : List Bd} {u : World} (j : Jt) (gw : Nat) (hi : JtI j) (hH : Has u gw 56 #[.int .i64 tk, .int .i64 nb, .int .i64 nj, .int .i64 gx, .int .i64 gy, .slice ob nB cb, .slice oj nJ cj, .slice oc nC cc]) (hn : B.length = nB) (hmx : nB ≤ 1073741824) (hl : LsT encB 11 u ob B) (hup : (B.map (·.id)).Pairwise (· < ·)) :
  Calls Tryz.prog 120 #[jtV j, .pointer (some ⟨gw, 0, none⟩)] u fun e v => e = .returned (.bool (jointB B j)) ∧ Made u.heap.size u v := by
 obtain ⟨c1, h1⟩ := a_bool (JointP j)
 obtain ⟨c2, h2⟩ := a_bool (j.a ∈ B.map (·.id) ∧ j.b ∈ B.map (·.id))
 have HR : Hid (jointB B j = (c1 && c2)) := by unfold Hid; rw [Bool.eq_iff_iff, jointB_iff, Bool.and_eq_true, h1, h2]
 have HJ := hid (fun v => rjoint_c j c1 v hi h1)
 have HX := hid (fun v (k : Made u.heap.size u v) => exist_c tk nb nj gx gy oj oc nJ cj nC cc (c := cb) j.a j.b c2 hn hmx (hl.below k.1) hup h2)
 generalize jointB B j = rr at HR ⊢
 obtain ⟨x0, x1, x2, x3, x4, x5, x6, x7⟩ := j
 simp only [] at HX
 have l0 : gw < u.heap.size := hH.here
 obtain ⟨W, eW⟩ : ∃ W, W = u.alloc (.cells #[.int .i64 x0, .int .i64 x1, .int .i64 x2, .int .i64 x3, .int .i64 x4, .int .i64 x5, .int .i64 x6, .int .i64 x7] 102) := ⟨_, rfl⟩
 have KW : Hid (Made u.heap.size u W) := by unfold Hid; rw [eW]; exact (Made.rfl_ _ _).cells (Nat.le_refl _) _ _
 have HJB : Hid (Has W u.heap.size 102 #[.int .i64 x0, .int .i64 x1, .int .i64 x2, .int .i64 x3, .int .i64 x4, .int .i64 x5, .int .i64 x6, .int .i64 x7]) := by unfold Hid; rw [eW]; exact has_new _ _ _
 have HB := hid (hH.stays KW.out l0)
 obtain ⟨g0, eg⟩ : ∃ g, u.heap.size = g := ⟨_, rfl⟩
 rw [eg] at HJB
 have d0 := HJB.out.at_ 0
 have d1 := HJB.out.at_ 1
 have d2 := HJB.out.at_ 2
 have d3 := HJB.out.at_ 3
 have d4 := HJB.out.at_ 4
 have d5 := HJB.out.at_ 5
 have d6 := HJB.out.at_ 6
 have d7 := HJB.out.at_ 7
 simp at d0 d1 d2 d3 d4 d5 d6 d7
 have l1 : g0 < W.heap.size := HJB.out.here
 clear hi hH hn hl hup h1 h2
 go_enter Tryz.func120, Tryz.ntmps120
 go_upto_region 1 with fail
 rw [← eW]
 clear eW
 try rw [eg]
 go_wp2_with fail
 refine (HJ.out _).mono ?_
 rintro e w1 ⟨rfl, k1⟩
 have K1 := hid (KW.out.then_ (k1.low KW.out.1.size))
 have HB1 := hid (HB.out.stays k1 HB.out.here)
 have HJ1 := hid (HJB.out.stays k1 HJB.out.here)
 clear k1 d0 d1 d2 d3 d4 d5 d6 d7 l0 l1
 have b0 := HB1.out.at_ 0
 have b1 := HB1.out.at_ 1
 have b2 := HB1.out.at_ 2
 have b3 := HB1.out.at_ 3
 have b4 := HB1.out.at_ 4
 have b5 := HB1.out.at_ 5
 have b6 := HB1.out.at_ 6
 have b7 := HB1.out.at_ 7
 simp at b0 b1 b2 b3 b4 b5 b6 b7
 have d0 := HJ1.out.at_ 0
 have d1 := HJ1.out.at_ 1
 have d2 := HJ1.out.at_ 2
 have d3 := HJ1.out.at_ 3
 have d4 := HJ1.out.at_ 4
 have d5 := HJ1.out.at_ 5
 have d6 := HJ1.out.at_ 6
 have d7 := HJ1.out.at_ 7
 simp at d0 d1 d2 d3 d4 d5 d6 d7
 have l0 : gw < w1.heap.size := HB1.out.here
 have l1 : g0 < w1.heap.size := HJ1.out.here
 cases c1 with
 | true =>
  go_wp2_with fail
  refine (HX.out _ K1.out).mono ?_
  rintro e w2 ⟨rfl, k2⟩
  have K2 := hid (K1.out.then_ (k2.low K1.out.1.size))
  clear k2 b0 b1 b2 b3 b4 b5 b6 b7 d0 d1 d2 d3 d4 d5 d6 d7 l0 l1
  go_wp2_with fail
  go_ret
  exact ⟨by rw [HR.out]; rfl, by first | exact K2.out | exact eg ▸ K2.out⟩
 | false =>
  go_wp2_with fail
  go_ret
  exact ⟨by rw [HR.out]; rfl, by first | exact K1.out | exact eg ▸ K1.out⟩
theorem rjoints_c (tk nb nj gx gy : Int) (ob oj oc : Option Addr) (nB cb nJ cj nC cc : Nat) {B : List Bd} {J : List Jt} {w : World} (r : Bool) (hn : B.length = nB) (hmx : nB ≤ 1073741824) (hl : LsT encB 11 w ob B) (hup : (B.map (·.id)).Pairwise (· < ·)) (hnJ : J.length = nJ) (hmxJ : nJ ≤ 1073741824) (hlJ : LsT encJ 8 w oj J) (hiJ : ∀ j ∈ J, JtI j) (hr : r = true ↔ JointsP B J nj) :
  Calls Tryz.prog 98 #[wdV tk nb nj gx gy (.slice ob nB cb) (.slice oj nJ cj) (.slice oc nC cc)] w fun e v => e = .returned (.bool r) ∧ Made w.heap.size w v := by
 obtain ⟨r2, hr2⟩ := a_bool (NumP (J.map (·.id)) nj)
 have HR2 := hid hr2
 have HR : Hid (r = true ↔ J.length ≤ 1024 ∧ (∀ b ∈ J, jointB B b = true) ∧ r2 = true) := by
  unfold Hid
  rw [hr, hr2]
  exact ⟨fun h => ⟨h.len, fun b hb => (jointB_iff B b).2 (h.all b hb), h.num⟩, fun h => ⟨h.1, fun b hb => (jointB_iff B b).1 (h.2.1 b hb), h.2.2⟩⟩
 obtain ⟨W, eW⟩ : ∃ W, W = w.alloc (.cells #[.int .i64 tk, .int .i64 nb, .int .i64 nj, .int .i64 gx, .int .i64 gy, .slice ob nB cb, .slice oj nJ cj, .slice oc nC cc] 56) := ⟨_, rfl⟩
 have KW : Hid (Made w.heap.size w W) := by unfold Hid; rw [eW]; exact (Made.rfl_ _ _).cells (Nat.le_refl _) _ _
 have HB : Hid (Has W w.heap.size 56 #[.int .i64 tk, .int .i64 nb, .int .i64 nj, .int .i64 gx, .int .i64 gy, .slice ob nB cb, .slice oj nJ cj, .slice oc nC cc]) := by unfold Hid; rw [eW]; exact has_new _ _ _
 obtain ⟨g0, eg⟩ : ∃ g, w.heap.size = g := ⟨_, rfl⟩
 rw [eg] at HB
 have HE := hid (everyJ_c 120 #[.pointer (some ⟨g0, 0, none⟩)] (by intro args w; rfl) Nil0 (fun _ _ => True) (qOf J (jointB B)) (c := cj) (w := W) hnJ (by omega) (hlJ.below KW.out.1) (fun _ => Offs.nil _) (fun b h => h.elim) (fun _ _ _ _ _ => trivial) trivial
  (fun i x u hx hu _ => by
   rw [qOf_at hx]
   have hu := hu.made
   exact (rj1_c tk nb nj gx gy ob oj oc nB cb nJ cj nC cc x g0 (hiJ x (List.mem_of_getElem? hx)) (HB.out.stays hu HB.out.here) hn hmx ((hl.below KW.out.1).below hu.1) hup).mono fun _ _ ⟨a, b⟩ => ⟨a, Made.but b, trivial⟩))
 have HNm := hid (fun v (k : Made W.heap.size W v) => numJ_c (c := cj) (w := v) nj r2 hnJ hmxJ ((hlJ.below KW.out.1).below k.1) hr2)
 have HN := hid hnJ
 have b0 := HB.out.at_ 0
 have b1 := HB.out.at_ 1
 have b2 := HB.out.at_ 2
 have b3 := HB.out.at_ 3
 have b4 := HB.out.at_ 4
 have b5 := HB.out.at_ 5
 have b6 := HB.out.at_ 6
 have b7 := HB.out.at_ 7
 simp at b0 b1 b2 b3 b4 b5 b6 b7
 have l0 : g0 < W.heap.size := HB.out.here
 clear hn hl hup hnJ hlJ hiJ hr hr2
 by_cases hA : nJ ≤ 1024
 ·go_enter Tryz.func98, Tryz.ntmps98
  go_upto_region 1 with fail
  rw [← eW]
  clear eW
  try rw [eg]
  go_wp2_with fail
  refine HE.out.mono ?_
  rintro e w1 ⟨q, rfl, k1, h⟩
  have k1 := k1.made
  have K1 := hid (KW.out.then_ (k1.low KW.out.1.size))
  have K1W := hid k1
  have HB1 := hid (HB.out.stays k1 HB.out.here)
  clear k1 b0 b1 b2 b3 b4 b5 b6 b7 l0
  have b0 := HB1.out.at_ 0
  have b1 := HB1.out.at_ 1
  have b2 := HB1.out.at_ 2
  have b3 := HB1.out.at_ 3
  have b4 := HB1.out.at_ 4
  have b5 := HB1.out.at_ 5
  have b6 := HB1.out.at_ 6
  have b7 := HB1.out.at_ 7
  simp at b0 b1 b2 b3 b4 b5 b6 b7
  have l0 : g0 < w1.heap.size := HB1.out.here
  rcases h with ⟨rfl, hall, _⟩ | ⟨rfl, hone⟩
  ·have HF : Hid (r = r2) := by
    unfold Hid
    rw [Bool.eq_iff_iff, HR.out]
    exact ⟨fun h => h.2.2, fun h => ⟨by rw [HN.out]; exact hA, qOf_all HN.out hall, h⟩⟩
   clear hall
   go_wp2_with fail
   refine (HNm.out _ K1W.out).mono ?_
   rintro e w2 ⟨rfl, k2⟩
   have K2 := hid (K1.out.then_ (k2.low K1.out.1.size))
   clear k2 b0 b1 b2 b3 b4 b5 b6 b7 l0
   go_wp2_with fail
   go_ret
   exact ⟨by rw [HF.out]; rfl, by first | exact K2.out | exact eg ▸ K2.out⟩
  ·have HF : Hid (r = false) := Bool.eq_false_iff.2 fun h => qOf_one HN.out hone (HR.out.1 h).2.1
   clear hone
   go_wp2_with fail
   go_ret
   exact ⟨by rw [HF.out]; rfl, by first | exact K1.out | exact eg ▸ K1.out⟩
 ·have HF : Hid (r = false) := Bool.eq_false_iff.2 fun h => hA (by rw [← HN.out]; exact (HR.out.1 h).1)
  go_enter Tryz.func98, Tryz.ntmps98
  go_upto_region 1 with fail
  rw [← eW]
  clear eW
  try rw [eg]
  go_wp2_with fail
  go_ret
  exact ⟨by rw [HF.out]; rfl, by first | exact KW.out | exact eg ▸ KW.out⟩
def CtP (B : List Bd) (c : Ct) : Prop := c.a < c.b ∧ 0 ≤ c.key ∧ 0 ≤ c.n ∧ c.a ∈ B.map (·.id) ∧ c.b ∈ B.map (·.id)
noncomputable def contactB (B : List Bd) (c : Ct) : Bool := @decide (CtP B c) (Classical.propDecidable _)
theorem contactB_iff (B : List Bd) (c : Ct) : contactB B c = true ↔ CtP B c := by unfold contactB; exact @decide_eq_true_iff _ (Classical.propDecidable _)
theorem LtC.trans {x y z : Ct} (h : LtC x y) (k : LtC y z) : LtC x z := by unfold LtC at *; omega
theorem up_iff (C : List Ct) : C.Pairwise LtC ↔ ∀ i x y, C[i]? = some x → C[i + 1]? = some y → LtC x y := by
 constructor
 ·intro h i x y hx hy
  have := List.pairwise_iff_getElem.1 h i (i + 1) (List.getElem?_eq_some_iff.1 hx).1 (List.getElem?_eq_some_iff.1 hy).1 (by omega)
  simpa [(List.getElem?_eq_some_iff.1 hx).2, (List.getElem?_eq_some_iff.1 hy).2] using this
 ·intro h
  have up : ∀ j i (hj : j < C.length) (hij : i < j), LtC (C[i]'(by omega)) C[j] := by
   intro j
   induction j with
   | zero => intro i hj hij; omega
   | succ j ih =>
    intro i hj hij
    have a := h j _ _ (List.getElem?_eq_getElem (by omega)) (List.getElem?_eq_getElem hj)
    rcases Nat.lt_or_ge i j with hh | hh
    ·exact (ih i (by omega) hh).trans a
    ·have e : i = j := by omega
     subst e; exact a
  exact List.pairwise_iff_getElem.2 fun i j hi hj hij => up j i hj hij
theorem rc1_c (tk nb nj gx gy : Int) (ob oj oc : Option Addr) (nB cb nJ cj nC cc : Nat) {B : List Bd} {u : World} (c : Ct) (gw : Nat) (hH : Has u gw 56 #[.int .i64 tk, .int .i64 nb, .int .i64 nj, .int .i64 gx, .int .i64 gy, .slice ob nB cb, .slice oj nJ cj, .slice oc nC cc]) (hn : B.length = nB) (hmx : nB ≤ 1073741824) (hl : LsT encB 11 u ob B) (hup : (B.map (·.id)).Pairwise (· < ·)) :
  Calls Tryz.prog 124 #[ctV c, .pointer (some ⟨gw, 0, none⟩)] u fun e v => e = .returned (.bool (contactB B c)) ∧ Made u.heap.size u v := by
 obtain ⟨c2, h2⟩ := a_bool (c.a ∈ B.map (·.id) ∧ c.b ∈ B.map (·.id))
 have HR : Hid (contactB B c = true ↔ c.a < c.b ∧ 0 ≤ c.key ∧ 0 ≤ c.n ∧ c2 = true) := by unfold Hid; rw [contactB_iff, h2]; exact Iff.rfl
 have HX := hid (fun v (k : Made u.heap.size u v) => exist_c tk nb nj gx gy oj oc nJ cj nC cc (c := cb) c.a c.b c2 hn hmx (hl.below k.1) hup h2)
 generalize contactB B c = rr at HR ⊢
 obtain ⟨x0, x1, x2, x3, x4⟩ := c
 simp only [] at HX HR
 have l0 : gw < u.heap.size := hH.here
 obtain ⟨W, eW⟩ : ∃ W, W = u.alloc (.cells #[.int .i64 x0, .int .i64 x1, .int .i64 x2, .int .i64 x3, .int .i64 x4] 105) := ⟨_, rfl⟩
 have KW : Hid (Made u.heap.size u W) := by unfold Hid; rw [eW]; exact (Made.rfl_ _ _).cells (Nat.le_refl _) _ _
 have HJB : Hid (Has W u.heap.size 105 #[.int .i64 x0, .int .i64 x1, .int .i64 x2, .int .i64 x3, .int .i64 x4]) := by unfold Hid; rw [eW]; exact has_new _ _ _
 have HB := hid (hH.stays KW.out l0)
 obtain ⟨g0, eg⟩ : ∃ g, u.heap.size = g := ⟨_, rfl⟩
 rw [eg] at HJB
 have d0 := HJB.out.at_ 0
 have d1 := HJB.out.at_ 1
 have d2 := HJB.out.at_ 2
 have d3 := HJB.out.at_ 3
 have d4 := HJB.out.at_ 4
 simp at d0 d1 d2 d3 d4
 have b0 := HB.out.at_ 0
 have b1 := HB.out.at_ 1
 have b2 := HB.out.at_ 2
 have b3 := HB.out.at_ 3
 have b4 := HB.out.at_ 4
 have b5 := HB.out.at_ 5
 have b6 := HB.out.at_ 6
 have b7 := HB.out.at_ 7
 simp at b0 b1 b2 b3 b4 b5 b6 b7
 have l1 : g0 < W.heap.size := HJB.out.here
 have l2 : gw < W.heap.size := HB.out.here
 clear hH hn hl hup h2
 by_cases hA : x0 < x1
 ·by_cases hB : 0 ≤ x2
  ·by_cases hC : 0 ≤ x3
   ·have HF : Hid (rr = c2) := by unfold Hid; rw [Bool.eq_iff_iff, HR.out]; exact ⟨fun h => h.2.2.2, fun h => ⟨hA, hB, hC, h⟩⟩
    go_enter Tryz.func124, Tryz.ntmps124
    go_upto_region 1 with fail
    rw [← eW]
    clear eW
    try rw [eg]
    go_wp2_with fail
    refine (HX.out _ KW.out).mono ?_
    rintro e w2 ⟨rfl, k2⟩
    have K2 := hid (KW.out.then_ (k2.low KW.out.1.size))
    clear k2 b0 b1 b2 b3 b4 b5 b6 b7 d0 d1 d2 d3 d4 l0 l1 l2
    go_wp2_with fail
    go_ret
    exact ⟨by rw [HF.out]; rfl, by first | exact K2.out | exact eg ▸ K2.out⟩
   ·have HF : Hid (rr = false) := Bool.eq_false_iff.2 fun h => hC (HR.out.1 h).2.2.1
    go_enter Tryz.func124, Tryz.ntmps124
    go_upto_region 1 with fail
    rw [← eW]
    clear eW
    try rw [eg]
    go_wp2_with fail
    go_ret
    exact ⟨by rw [HF.out]; rfl, by first | exact KW.out | exact eg ▸ KW.out⟩
  ·have HF : Hid (rr = false) := Bool.eq_false_iff.2 fun h => hB (HR.out.1 h).2.1
   go_enter Tryz.func124, Tryz.ntmps124
   go_upto_region 1 with fail
   rw [← eW]
   clear eW
   try rw [eg]
   go_wp2_with fail
   go_ret
   exact ⟨by rw [HF.out]; rfl, by first | exact KW.out | exact eg ▸ KW.out⟩
 ·have HF : Hid (rr = false) := Bool.eq_false_iff.2 fun h => hA (HR.out.1 h).1
  go_enter Tryz.func124, Tryz.ntmps124
  go_upto_region 1 with fail
  rw [← eW]
  clear eW
  try rw [eg]
  go_wp2_with fail
  go_ret
  exact ⟨by rw [HF.out]; rfl, by first | exact KW.out | exact eg ▸ KW.out⟩
theorem rcontacts_c (tk nb nj gx gy : Int) (ob oj oc : Option Addr) (nB cb nJ cj nC cc : Nat) {B : List Bd} {C : List Ct} {w : World} (r : Bool) (hn : B.length = nB) (hmx : nB ≤ 1073741824) (hl : LsT encB 11 w ob B) (hup : (B.map (·.id)).Pairwise (· < ·)) (hnC : C.length = nC) (hmxC : nC ≤ 1073741824) (hlC : LsT encC 5 w oc C) (hr : r = true ↔ ContactsP B C) :
  Calls Tryz.prog 99 #[wdV tk nb nj gx gy (.slice ob nB cb) (.slice oj nJ cj) (.slice oc nC cc)] w fun e v => e = .returned (.bool r) ∧ Made w.heap.size w v := by
 obtain ⟨r2, hr2⟩ := a_bool (C.Pairwise LtC)
 have HR : Hid (r = true ↔ (∀ b ∈ C, contactB B b = true) ∧ r2 = true) := by
  unfold Hid
  rw [hr, hr2]
  exact ⟨fun h => ⟨fun b hb => (contactB_iff B b).2 (h.all b hb), h.up⟩, fun h => ⟨fun b hb => (contactB_iff B b).1 (h.1 b hb), h.2⟩⟩
 obtain ⟨W, eW⟩ : ∃ W, W = w.alloc (.cells #[.int .i64 tk, .int .i64 nb, .int .i64 nj, .int .i64 gx, .int .i64 gy, .slice ob nB cb, .slice oj nJ cj, .slice oc nC cc] 56) := ⟨_, rfl⟩
 have KW : Hid (Made w.heap.size w W) := by unfold Hid; rw [eW]; exact (Made.rfl_ _ _).cells (Nat.le_refl _) _ _
 have HB : Hid (Has W w.heap.size 56 #[.int .i64 tk, .int .i64 nb, .int .i64 nj, .int .i64 gx, .int .i64 gy, .slice ob nB cb, .slice oj nJ cj, .slice oc nC cc]) := by unfold Hid; rw [eW]; exact has_new _ _ _
 obtain ⟨g0, eg⟩ : ∃ g, w.heap.size = g := ⟨_, rfl⟩
 rw [eg] at HB
 have HE := hid (everyC_c 124 #[.pointer (some ⟨g0, 0, none⟩)] (by intro args w; rfl) Nil0 (fun _ _ => True) (qOf C (contactB B)) (c := cc) (w := W) hnC (by omega) (hlC.below KW.out.1) (fun _ => Offs.nil _) (fun b h => h.elim) (fun _ _ _ _ _ => trivial) trivial
  (fun i x u hx hu _ => by
   rw [qOf_at hx]
   have hu := hu.made
   exact (rc1_c tk nb nj gx gy ob oj oc nB cb nJ cj nC cc x g0 (HB.out.stays hu HB.out.here) hn hmx ((hl.below KW.out.1).below hu.1) hup).mono fun _ _ ⟨a, b⟩ => ⟨a, Made.but b, trivial⟩))
 have HNm := hid (fun v (k : Made W.heap.size W v) => ascend_c (c := cc) (w := v) r2 hnC hmxC ((hlC.below KW.out.1).below k.1) (hr2.trans (up_iff C)))
 have HN := hid hnC
 have b0 := HB.out.at_ 0
 have b1 := HB.out.at_ 1
 have b2 := HB.out.at_ 2
 have b3 := HB.out.at_ 3
 have b4 := HB.out.at_ 4
 have b5 := HB.out.at_ 5
 have b6 := HB.out.at_ 6
 have b7 := HB.out.at_ 7
 simp at b0 b1 b2 b3 b4 b5 b6 b7
 have l0 : g0 < W.heap.size := HB.out.here
 clear hn hl hup hnC hlC hr hr2
 go_enter Tryz.func99, Tryz.ntmps99
 go_upto_region 1 with fail
 rw [← eW]
 clear eW
 try rw [eg]
 go_wp2_with fail
 refine HE.out.mono ?_
 rintro e w1 ⟨q, rfl, k1, h⟩
 have k1 := k1.made
 have K1 := hid (KW.out.then_ (k1.low KW.out.1.size))
 have K1W := hid k1
 have HB1 := hid (HB.out.stays k1 HB.out.here)
 clear k1 b0 b1 b2 b3 b4 b5 b6 b7 l0
 have b0 := HB1.out.at_ 0
 have b1 := HB1.out.at_ 1
 have b2 := HB1.out.at_ 2
 have b3 := HB1.out.at_ 3
 have b4 := HB1.out.at_ 4
 have b5 := HB1.out.at_ 5
 have b6 := HB1.out.at_ 6
 have b7 := HB1.out.at_ 7
 simp at b0 b1 b2 b3 b4 b5 b6 b7
 have l0 : g0 < w1.heap.size := HB1.out.here
 rcases h with ⟨rfl, hall, _⟩ | ⟨rfl, hone⟩
 ·have HF : Hid (r = r2) := by
   unfold Hid
   rw [Bool.eq_iff_iff, HR.out]
   exact ⟨fun h => h.2, fun h => ⟨qOf_all HN.out hall, h⟩⟩
  clear hall
  go_wp2_with fail
  refine (HNm.out _ K1W.out).mono ?_
  rintro e w2 ⟨rfl, k2⟩
  have K2 := hid (K1.out.then_ (k2.low K1.out.1.size))
  clear k2 b0 b1 b2 b3 b4 b5 b6 b7 l0
  go_wp2_with fail
  go_ret
  exact ⟨by rw [HF.out]; rfl, by first | exact K2.out | exact eg ▸ K2.out⟩
 ·have HF : Hid (r = false) := Bool.eq_false_iff.2 fun h => qOf_one HN.out hone (HR.out.1 h).1
  clear hone
  go_wp2_with fail
  go_ret
  exact ⟨by rw [HF.out]; rfl, by first | exact K1.out | exact eg ▸ K1.out⟩
structure WorldP (tk nb nj gx gy : Int) (B : List Bd) (J : List Jt) (C : List Ct) : Prop where
 tk : 0 ≤ tk ∧ tk ≤ 4611686018427387904
 gx : Inn gx 17592186044416
 gy : Inn gy 17592186044416
 hB : BodiesP B nb
 hJ : JointsP B J nj
 hC : ContactsP B C
structure WdAt (w : World) (ob : Option Addr) (B : List Bd) (oj : Option Addr) (J : List Jt) (oc : Option Addr) (C : List Ct) : Prop where
 lB : LsT encB 11 w ob B
 lJ : LsT encJ 8 w oj J
 lC : LsT encC 5 w oc C
 sB : BdsIn w B
 iJ : ∀ j ∈ J, JtI j
 iC : ∀ c ∈ C, CtI c
theorem WdAt.kept {w v : World} {ob oj oc : Option Addr} {B : List Bd} {J : List Jt} {C : List Ct} (h : WdAt w ob B oj J oc C) (k : Made w.heap.size w v) : WdAt v ob B oj J oc C :=
 ⟨h.lB.below k.1, h.lJ.below k.1, h.lC.below k.1, h.sB.kept k, h.iJ, h.iC⟩
theorem wright_c (tk nb nj gx gy : Int) (ob oj oc : Option Addr) (nB cb nJ cj nC cc : Nat) {B : List Bd} {J : List Jt} {C : List Ct} {w : World} (r : Bool) (hn : B.length = nB) (hmx : nB ≤ 1073741824) (hnJ : J.length = nJ) (hmxJ : nJ ≤ 1073741824) (hnC : C.length = nC) (hmxC : nC ≤ 1073741824) (hW : WdAt w ob B oj J oc C) (ix : I64 gx) (iy : I64 gy) (hr : r = true ↔ WorldP tk nb nj gx gy B J C) :
  Calls Tryz.prog 68 #[wdV tk nb nj gx gy (.slice ob nB cb) (.slice oj nJ cj) (.slice oc nC cc)] w fun e v => e = .returned (.bool r) ∧ Made w.heap.size w v := by
 obtain ⟨c0, h0⟩ := a_bool (Inn gx 17592186044416 ∧ Inn gy 17592186044416)
 obtain ⟨c1, h1⟩ := a_bool (BodiesP B nb)
 obtain ⟨c2, h2⟩ := a_bool (JointsP B J nj)
 obtain ⟨c3, h3⟩ := a_bool (ContactsP B C)
 have HR : Hid (r = true ↔ (((((0 ≤ tk ∧ tk ≤ 4611686018427387904) ∧ c0 = true) ∧ c1 = true) ∧ c2 = true) ∧ c3 = true)) := by
  unfold Hid
  rw [hr, h0, h1, h2, h3]
  exact ⟨fun h => ⟨⟨⟨⟨h.tk, h.gx, h.gy⟩, h.hB⟩, h.hJ⟩, h.hC⟩, fun h => ⟨h.1.1.1.1, h.1.1.1.2.1, h.1.1.1.2.2, h.1.1.2, h.1.2, h.2⟩⟩
 have up : Hid (c1 = true → (B.map (·.id)).Pairwise (· < ·)) := fun h => (h1.1 h).num.2.2.1
 have H0 := hid (fun v => within_c gx gy 17592186044416 c0 v ix iy (by omega) (by omega) h0)
 obtain ⟨W, eW⟩ : ∃ W, W = w.alloc (.cells #[.int .i64 tk, .int .i64 nb, .int .i64 nj, .int .i64 gx, .int .i64 gy, .slice ob nB cb, .slice oj nJ cj, .slice oc nC cc] 56) := ⟨_, rfl⟩
 have KW : Hid (Made w.heap.size w W) := by unfold Hid; rw [eW]; exact (Made.rfl_ _ _).cells (Nat.le_refl _) _ _
 have HB : Hid (Has W w.heap.size 56 #[.int .i64 tk, .int .i64 nb, .int .i64 nj, .int .i64 gx, .int .i64 gy, .slice ob nB cb, .slice oj nJ cj, .slice oc nC cc]) := by unfold Hid; rw [eW]; exact has_new _ _ _
 obtain ⟨g0, eg⟩ : ∃ g, w.heap.size = g := ⟨_, rfl⟩
 rw [eg] at HB
 have H1 := hid (fun v (k : Made w.heap.size w v) => rbodies_c tk nb nj gx gy ob oj oc nB cb nJ cj nC cc c1 hn hmx (hW.kept k).lB (hW.kept k).sB h1)
 have H2 := hid (fun v (k : Made w.heap.size w v) (h : c1 = true) => rjoints_c tk nb nj gx gy ob oj oc nB cb nJ cj nC cc c2 hn hmx (hW.kept k).lB (up.out h) hnJ hmxJ (hW.kept k).lJ hW.iJ h2)
 have H3 := hid (fun v (k : Made w.heap.size w v) (h : c1 = true) => rcontacts_c tk nb nj gx gy ob oj oc nB cb nJ cj nC cc c3 hn hmx (hW.kept k).lB (up.out h) hnC hmxC (hW.kept k).lC h3)
 have b0 := HB.out.at_ 0
 have b1 := HB.out.at_ 1
 have b2 := HB.out.at_ 2
 have b3 := HB.out.at_ 3
 have b4 := HB.out.at_ 4
 have b5 := HB.out.at_ 5
 have b6 := HB.out.at_ 6
 have b7 := HB.out.at_ 7
 simp at b0 b1 b2 b3 b4 b5 b6 b7
 have l0 : g0 < W.heap.size := HB.out.here
 clear hn hnJ hnC hW ix iy hr h0 h1 h2 h3 up
 by_cases hA : 0 ≤ tk
 ·by_cases hB : tk ≤ 4611686018427387904
  ·go_enter Tryz.func68, Tryz.ntmps68
   go_upto_region 1 with fail
   rw [← eW]
   clear eW
   try rw [eg]
   go_wp2_with fail
   refine (H0.out _).mono ?_
   rintro e w1 ⟨rfl, k1⟩
   have K1 := hid (KW.out.then_ (k1.low KW.out.1.size))
   have HB1 := hid (HB.out.stays k1 HB.out.here)
   clear k1 b0 b1 b2 b3 b4 b5 b6 b7 l0
   have b0 := HB1.out.at_ 0
   have b1 := HB1.out.at_ 1
   have b2 := HB1.out.at_ 2
   have b3 := HB1.out.at_ 3
   have b4 := HB1.out.at_ 4
   have b5 := HB1.out.at_ 5
   have b6 := HB1.out.at_ 6
   have b7 := HB1.out.at_ 7
   simp at b0 b1 b2 b3 b4 b5 b6 b7
   have l0 : g0 < w1.heap.size := HB1.out.here
   cases c0 with
   | false =>
    have HF : Hid (r = false) := Bool.eq_false_iff.2 fun h => by have := HR.out.1 h; simp at this
    go_wp2_with fail
    go_ret
    exact ⟨by rw [HF.out]; rfl, by first | exact K1.out | exact eg ▸ K1.out⟩
   | true =>
    go_wp2_with fail
    refine (H1.out _ K1.out).mono ?_
    rintro e w2 ⟨rfl, k2⟩
    have K2 := hid (K1.out.then_ (k2.low K1.out.1.size))
    have HB2 := hid (HB1.out.stays k2 HB1.out.here)
    clear k2 b0 b1 b2 b3 b4 b5 b6 b7 l0
    have b0 := HB2.out.at_ 0
    have b1 := HB2.out.at_ 1
    have b2 := HB2.out.at_ 2
    have b3 := HB2.out.at_ 3
    have b4 := HB2.out.at_ 4
    have b5 := HB2.out.at_ 5
    have b6 := HB2.out.at_ 6
    have b7 := HB2.out.at_ 7
    simp at b0 b1 b2 b3 b4 b5 b6 b7
    have l0 : g0 < w2.heap.size := HB2.out.here
    cases c1 with
    | false =>
     have HF : Hid (r = false) := Bool.eq_false_iff.2 fun h => by have := HR.out.1 h; simp at this
     go_wp2_with fail
     go_ret
     exact ⟨by rw [HF.out]; rfl, by first | exact K2.out | exact eg ▸ K2.out⟩
    | true =>
     go_wp2_with fail
     refine (H2.out _ K2.out (by simp)).mono ?_
     rintro e w3 ⟨rfl, k3⟩
     have K3 := hid (K2.out.then_ (k3.low K2.out.1.size))
     have HB3 := hid (HB2.out.stays k3 HB2.out.here)
     clear k3 b0 b1 b2 b3 b4 b5 b6 b7 l0
     have b0 := HB3.out.at_ 0
     have b1 := HB3.out.at_ 1
     have b2 := HB3.out.at_ 2
     have b3 := HB3.out.at_ 3
     have b4 := HB3.out.at_ 4
     have b5 := HB3.out.at_ 5
     have b6 := HB3.out.at_ 6
     have b7 := HB3.out.at_ 7
     simp at b0 b1 b2 b3 b4 b5 b6 b7
     have l0 : g0 < w3.heap.size := HB3.out.here
     cases c2 with
     | false =>
      have HF : Hid (r = false) := Bool.eq_false_iff.2 fun h => by have := HR.out.1 h; simp at this
      go_wp2_with fail
      go_ret
      exact ⟨by rw [HF.out]; rfl, by first | exact K3.out | exact eg ▸ K3.out⟩
     | true =>
      go_wp2_with fail
      refine (H3.out _ K3.out (by simp)).mono ?_
      rintro e w4 ⟨rfl, k4⟩
      have K4 := hid (K3.out.then_ (k4.low K3.out.1.size))
      clear k4 b0 b1 b2 b3 b4 b5 b6 b7 l0
      have HF : Hid (r = c3) := by unfold Hid; rw [Bool.eq_iff_iff, HR.out]; simp [hA, hB]
      go_wp2_with fail
      go_ret
      exact ⟨by rw [HF.out]; rfl, by first | exact K4.out | exact eg ▸ K4.out⟩
  ·have HF : Hid (r = false) := Bool.eq_false_iff.2 fun h => hB (HR.out.1 h).1.1.1.1.2
   go_enter Tryz.func68, Tryz.ntmps68
   go_upto_region 1 with fail
   rw [← eW]
   clear eW
   try rw [eg]
   go_wp2_with fail
   go_ret
   exact ⟨by rw [HF.out]; rfl, by first | exact KW.out | exact eg ▸ KW.out⟩
 ·have HF : Hid (r = false) := Bool.eq_false_iff.2 fun h => hA (HR.out.1 h).1.1.1.1.1
  go_enter Tryz.func68, Tryz.ntmps68
  go_upto_region 1 with fail
  rw [← eW]
  clear eW
  try rw [eg]
  go_wp2_with fail
  go_ret
  exact ⟨by rw [HF.out]; rfl, by first | exact KW.out | exact eg ▸ KW.out⟩
end Go.Proofs.YtgdcphmmehedoaaGreat.Fx
/- Clone, Clip and with over bodies, joints and contacts. -/
namespace Go.Proofs.YtgdcphmmehedoaaGreat.Fx
open Go.ChangeShapes Go.WideShapes Go.ChangeAt Go.RowKit
set_option linter.unusedVariables false
def SlOk (ao : Option Addr) (n c : Nat) : Prop := n ≤ c ∧ c ≤ maxLen ∧ ((ao = none ∧ n = 0 ∧ c = 0) ∨ ∃ b off, ao = some ⟨b, off, none⟩)
structure NewL {α : Type} (enc : α → List Value) (k : Nat) (t : TypeId) (w v : World) (ao : Option Addr) (n c : Nat) (l : List α) : Prop where
 len : l.length = n
 ls : LsT enc k v ao l
 nc : n ≤ c
 cm : c ≤ maxLen
 ok : (ao = none ∧ n = 0 ∧ c = 0) ∨ ∃ b off, ao = some ⟨b, off, none⟩
 fresh : ∀ b off s, ao = some ⟨b, off, s⟩ → w.heap.size ≤ b
 row : 0 < n → ∃ g, ao = some ⟨g, 0, none⟩ ∧ RowL enc k v g t n l
theorem has_news {w : World} {g : Nat} {t : TypeId} {A : List Value} (h : Has w g t A.toArray) : ∀ j u, A[j]? = some u → w.cell? ((⟨g, 0, none⟩ : Addr).add j) = some u := by
 intro j u hj
 rw [Addr.add_lit, Nat.zero_add, h.at_]
 simpa using hj
def val1 (i g e : Nat) : Value := .slice (some ⟨g, 0, none⟩) 1 1
def alB (x : Bd) (i : Nat) (v : World) (g e : Nat) : Prop := Has v g 35 (encB x).toArray
def alJ (x : Jt) (i : Nat) (v : World) (g e : Nat) : Prop := Has v g 102 (encJ x).toArray
end Go.Proofs.YtgdcphmmehedoaaGreat.Fx
/- DeleteFunc and without over bodies, joints and contacts. -/
namespace Go.Proofs.YtgdcphmmehedoaaGreat.Fx
open Go.ChangeShapes Go.WideShapes Go.ChangeAt Go.RowKit
set_option linter.unusedVariables false
structure KInv {α : Type} (p : α → Bool) (l : List α) (j i : Nat) (d : List α) : Prop where
 fst : d.take i = (l.take j).filter fun x => !p x
 snd : d.drop j = l.drop j
theorem KInv.at_ {α : Type} {p : α → Bool} {l d : List α} {j i : Nat} (h : KInv p l j i d) (m : Nat) (hm : j ≤ m) : d[m]? = l[m]? := by
 have := congrArg (fun x => x[m - j]?) h.snd
 simp only [List.getElem?_drop] at this
 rwa [show j + (m - j) = m by omega] at this
theorem KInv.skip {α : Type} {p : α → Bool} {l d : List α} {j i : Nat} {y : α} (h : KInv p l j i d) (hy : l[j]? = some y) (hp : p y = true) : KInv p l (j + 1) i d := by
 refine ⟨?_, ?_⟩
 ·rw [h.fst, List.take_add_one, hy, List.filter_append]
  simp [hp]
 ·have := congrArg (List.drop 1) h.snd
  simpa [List.drop_drop] using this
def hitF {α : Type} (l : List α) (p : α → Bool) (i : Nat) : Bool := match l[i]? with | some x => p x | none => false
end Go.Proofs.YtgdcphmmehedoaaGreat.Fx
/- World variables; copies of shapes. -/
namespace Go.Proofs.YtgdcphmmehedoaaGreat.Fx
open Go.ChangeShapes Go.WideShapes Go.ChangeAt Go.RowKit
set_option linter.unusedVariables false
def CopyW (ao : Nat → Option Addr) (ac : Nat → Nat) (n : Nat) : Prop := ((∀ g, ao g = none) ∧ n = 0 ∧ ∀ e, ac e = 0) ∨ ((∀ g, ao g = some ⟨g, 0, none⟩) ∧ ∀ e, n ≤ ac e ∨ ac e = e)
def CornersAt (w : World) (ao : Option Addr) (g n : Nat) (f : Cs) : Prop := Sl w ao n f ∧ (0 < n → Row w g 28 n f)
theorem CornersAt.kept {w v : World} {ao : Option Addr} {g n : Nat} {f : Cs} (h : CornersAt w ao g n f) (k : Made w.heap.size w v) : CornersAt v ao g n f :=
 ⟨fun hn => by obtain ⟨b, off, e, hp⟩ := h.1 hn; exact ⟨b, off, e, hp.kept k⟩, fun hn => (h.2 hn).kept k⟩
end Go.Proofs.YtgdcphmmehedoaaGreat.Fx