/- WoY WoZ -/
import Derived.Test.YtjhcejmfiekjgaaGreatSt10
set_option maxRecDepth 100000
set_option maxHeartbeats 64000000
/- AddJoint, RemoveJoint, RemoveBody. -/
namespace Go.Proofs.YtjhcejmfiekjgaaGreat.Fx
open Go.ChangeShapes Go.WideShapes Go.ChangeAt Go.RowKit
set_option linter.unusedVariables false
def goneB (id : Int) (b : Bd) : Bool := b.id == id
def goneJ (id : Int) (j : Jt) : Bool := j.a == id || j.b == id
def goneC (id : Int) (c : Ct) : Bool := c.a == id || c.b == id
def isJ (id : Int) (j : Jt) : Bool := j.id == id
theorem goneB_c (id : Int) (x : Bd) (gi : Nat) (u : World) (h0 : u.cell? ⟨gi, 0, none⟩ = some (.int .i64 id)) : Calls Tryz.prog 92 #[bdV x, .pointer (some ⟨gi, 0, none⟩)] u fun e v => e = .returned (.bool (goneB id x)) ∧ Made u.heap.size u v := by
 have hlt : gi < u.heap.size := World.block_lt_of_cell? u _ h0
 obtain ⟨x0, x1, x2, x3, x4, x5, x6, x7, x8, x9, x10, x11, x12, x13⟩ := x
 unfold goneB
 go_enter Tryz.func92, Tryz.ntmps92
 go_wp2_with fail
 go_ret
 exact ⟨rfl, (Made.rfl_ _ _).cells (Nat.le_refl _) _ _⟩
theorem goneJ_c (id : Int) (x : Jt) (gi : Nat) (u : World) (h0 : u.cell? ⟨gi, 0, none⟩ = some (.int .i64 id)) : Calls Tryz.prog 94 #[jtV x, .pointer (some ⟨gi, 0, none⟩)] u fun e v => e = .returned (.bool (goneJ id x)) ∧ Made u.heap.size u v := by
 have hlt : gi < u.heap.size := World.block_lt_of_cell? u _ h0
 obtain ⟨x0, x1, x2, x3, x4, x5, x6, x7⟩ := x
 unfold goneJ
 by_cases h : x1 = id
 ·have q : (x1 == id) = true := by simpa using h
  have HQ := hid q
  clear h
  go_enter Tryz.func94, Tryz.ntmps94
  go_wp2_with fail
  go_ret
  exact ⟨by rw [HQ.out]; rfl, (Made.rfl_ _ _).cells (Nat.le_refl _) _ _⟩
 ·have q : (x1 == id) = false := by simpa using h
  have HQ := hid q
  clear h
  go_enter Tryz.func94, Tryz.ntmps94
  go_wp2_with fail
  go_ret
  exact ⟨by rw [HQ.out]; rfl, (Made.rfl_ _ _).cells (Nat.le_refl _) _ _⟩
theorem goneC_c (id : Int) (x : Ct) (gi : Nat) (u : World) (h0 : u.cell? ⟨gi, 0, none⟩ = some (.int .i64 id)) : Calls Tryz.prog 96 #[ctV x, .pointer (some ⟨gi, 0, none⟩)] u fun e v => e = .returned (.bool (goneC id x)) ∧ Made u.heap.size u v := by
 have hlt : gi < u.heap.size := World.block_lt_of_cell? u _ h0
 obtain ⟨x0, x1, x2, x3, x4⟩ := x
 unfold goneC
 by_cases h : x0 = id
 ·have q : (x0 == id) = true := by simpa using h
  have HQ := hid q
  clear h
  go_enter Tryz.func96, Tryz.ntmps96
  go_wp2_with fail
  go_ret
  exact ⟨by rw [HQ.out]; rfl, (Made.rfl_ _ _).cells (Nat.le_refl _) _ _⟩
 ·have q : (x0 == id) = false := by simpa using h
  have HQ := hid q
  clear h
  go_enter Tryz.func96, Tryz.ntmps96
  go_wp2_with fail
  go_ret
  exact ⟨by rw [HQ.out]; rfl, (Made.rfl_ _ _).cells (Nat.le_refl _) _ _⟩
theorem isJ_c (id : Int) (x : Jt) (gi : Nat) (u : World) (h0 : u.cell? ⟨gi, 0, none⟩ = some (.int .i64 id)) : Calls Tryz.prog 98 #[jtV x, .pointer (some ⟨gi, 0, none⟩)] u fun e v => e = .returned (.bool (isJ id x)) ∧ Made u.heap.size u v := by
 have hlt : gi < u.heap.size := World.block_lt_of_cell? u _ h0
 obtain ⟨x0, x1, x2, x3, x4, x5, x6, x7⟩ := x
 unfold isJ
 go_enter Tryz.func98, Tryz.ntmps98
 go_wp2_with fail
 go_ret
 exact ⟨rfl, (Made.rfl_ _ _).cells (Nat.le_refl _) _ _⟩
theorem wjoint_det (tk nb nj gx gy : Int) (ob oc : Option Addr) (nn cb nc cc : Nat) {l : List Jt} {ao : Option Addr} {n c : Nat} (id : Int) (hn : l.length = n) (hmx : n ≤ 1073741824) (hup : (l.map (·.id)).Pairwise (· < ·)) :
  ∃ (i : Nat) (r : Bool), (r = true ↔ ∃ x ∈ l, x.id = id) ∧ ∀ w, LsT encJ 8 w ao l → Calls Tryz.prog 97 #[wdV tk nb nj gx gy (.slice ob nn cb) (.slice ao n c) (.slice oc nc cc), .int .i64 id] w fun e v => e = .returned (.tuple #[.int .i64 (i : Nat), .bool r]) ∧ Made w.heap.size w v := by
 by_cases h : ∃ x ∈ l, x.id = id
 ·obtain ⟨x, hx, e⟩ := h
  obtain ⟨i, hi⟩ := List.mem_iff_getElem?.1 hx
  refine ⟨i, true, ⟨fun _ => ⟨x, hx, e⟩, fun _ => rfl⟩, fun w hl => (wjoint_c tk nb nj gx gy ob oc nn cb nc cc (c := c) id hn hmx hl hup).mono ?_⟩
  rintro e' v ⟨i', r', rfl, k, h1, h2⟩
  cases r' with
  | false => exact absurd e ((h2 rfl).2 x hx)
  | true =>
   obtain ⟨y, hy, ey⟩ := h1 rfl
   have : i' = i := by
    rcases Nat.lt_trichotomy i' i with h | h | h
    ·have := List.pairwise_iff_getElem.1 hup i' i (by simpa using (List.getElem?_eq_some_iff.1 hy).1) (by simpa using (List.getElem?_eq_some_iff.1 hi).1) h
     simp [(List.getElem?_eq_some_iff.1 hy).2, (List.getElem?_eq_some_iff.1 hi).2] at this
     omega
    ·exact h
    ·have := List.pairwise_iff_getElem.1 hup i i' (by simpa using (List.getElem?_eq_some_iff.1 hi).1) (by simpa using (List.getElem?_eq_some_iff.1 hy).1) h
     simp [(List.getElem?_eq_some_iff.1 hy).2, (List.getElem?_eq_some_iff.1 hi).2] at this
     omega
   subst this
   exact ⟨rfl, k⟩
 ·refine ⟨0, false, ⟨fun e => (by cases e), fun hh => absurd hh h⟩, fun w hl => (wjoint_c tk nb nj gx gy ob oc nn cb nc cc (c := c) id hn hmx hl hup).mono ?_⟩
  rintro e' v ⟨i', r', rfl, k, h1, h2⟩
  cases r' with
  | false => rw [(h2 rfl).1]; exact ⟨rfl, k⟩
  | true =>
   obtain ⟨y, hy, ey⟩ := h1 rfl
   exact absurd ⟨y, List.mem_of_getElem? hy, ey⟩ h
def AddedJ (X : Nat → Prop) (w : World) (gw : Nat) (tk nb nj gx gy : Int) (B : List Bd) (J : List Jt) (C : List Ct) (j : Jt) (e : Ending) (v : World) : Prop :=
 (¬ JointP j ∧ e = .returned (.tuple #[.int .i64 0, .int .i64 2]) ∧ Made w.heap.size w v) ∨
 (JointP j ∧ ¬ (j.a ∈ B.map (·.id) ∧ j.b ∈ B.map (·.id)) ∧ e = .returned (.tuple #[.int .i64 0, .int .i64 4]) ∧ Made w.heap.size w v) ∨
 (JointP j ∧ (j.a ∈ B.map (·.id) ∧ j.b ∈ B.map (·.id)) ∧ (1024 ≤ J.length ∨ 4611686018427387904 ≤ nj) ∧ e = .returned (.tuple #[.int .i64 0, .int .i64 3]) ∧ Made w.heap.size w v) ∨
 (JointP j ∧ (j.a ∈ B.map (·.id) ∧ j.b ∈ B.map (·.id)) ∧ J.length < 1024 ∧ nj < 4611686018427387904 ∧ e = .returned (.tuple #[.int .i64 nj, .int .i64 0]) ∧ But (fun g => g = gw) w v ∧
  WVar X v gw tk nb (nj + 1) gx gy B (J ++ [⟨nj, j.a, j.b, j.ax, j.ay, j.tx, j.ty, j.ln⟩]) C)
def AddedJO (oc : Option Addr) (cc : Nat) (X : Nat → Prop) (w : World) (gw : Nat) (tk nb nj gx gy : Int) (B : List Bd) (J : List Jt) (C : List Ct) (j : Jt) (e : Ending) (v : World) : Prop :=
 (¬ JointP j ∧ e = .returned (.tuple #[.int .i64 0, .int .i64 2]) ∧ Made w.heap.size w v) ∨
 (JointP j ∧ ¬ (j.a ∈ B.map (·.id) ∧ j.b ∈ B.map (·.id)) ∧ e = .returned (.tuple #[.int .i64 0, .int .i64 4]) ∧ Made w.heap.size w v) ∨
 (JointP j ∧ (j.a ∈ B.map (·.id) ∧ j.b ∈ B.map (·.id)) ∧ (1024 ≤ J.length ∨ 4611686018427387904 ≤ nj) ∧ e = .returned (.tuple #[.int .i64 0, .int .i64 3]) ∧ Made w.heap.size w v) ∨
 (JointP j ∧ (j.a ∈ B.map (·.id) ∧ j.b ∈ B.map (·.id)) ∧ J.length < 1024 ∧ nj < 4611686018427387904 ∧ e = .returned (.tuple #[.int .i64 nj, .int .i64 0]) ∧ But (fun g => g = gw) w v ∧
  WVarO oc cc X v gw tk nb (nj + 1) gx gy B (J ++ [⟨nj, j.a, j.b, j.ax, j.ay, j.tx, j.ty, j.ln⟩]) C)
theorem addJoint_o {oc : Option Addr} {cc : Nat} {X : Nat → Prop} {w : World} {gw : Nat} {tk nb nj gx gy : Int} {B : List Bd} {J : List Jt} {C : List Ct} (j : Jt) (hV : WVarO oc cc X w gw tk nb nj gx gy B J C) (hXg : X gw) (hXw : ∀ b, X b → b < w.heap.size) (hi : JtI j) (inj : I64 nj) (hnj : 1 ≤ nj) (hmB : B.length ≤ 1073741824) (hup : (B.map (·.id)).Pairwise (· < ·)) :
  Calls Tryz.prog 52 #[.pointer (some ⟨gw, 0, none⟩), jtV j] w (AddedJO oc cc X w gw tk nb nj gx gy B J C j) := by
 obtain ⟨id, a, b, ax, ay, tx, ty, ln⟩ := j
 obtain ⟨ob, oj, cb, cj, hH, hL⟩ := hV
 obtain ⟨nB, hnB⟩ : ∃ m, B.length = m := ⟨_, rfl⟩
 obtain ⟨nJ, hnJ⟩ : ∃ m, J.length = m := ⟨_, rfl⟩
 obtain ⟨nC, hnC⟩ : ∃ m, C.length = m := ⟨_, rfl⟩
 rw [hnB, hnJ, hnC] at hH
 have lgw : gw < w.heap.size := hH.here
 have HN := hid (And.intro hnB (And.intro hnJ hnC))
 have HL := hid hL
 have HXW := hid hXw
 obtain ⟨q, hq⟩ := a_bool (JointP ⟨id, a, b, ax, ay, tx, ty, ln⟩)
 obtain ⟨q2, hq2⟩ := a_bool (a ∈ B.map (·.id) ∧ b ∈ B.map (·.id))
 have HQ := hid hq
 have HQ2 := hid hq2
 have HI := hid hi
 have HRJ := hid (fun v => rjoint_c ⟨id, a, b, ax, ay, tx, ty, ln⟩ q v hi hq)
 have HEX := hid (fun v (k' : Made w.heap.size w v) => exist_c tk nb nj gx gy oj oc nJ cj nC cc (c := cb) a b q2 hnB (by rw [← hnB]; exact hmB) (hL.at_.lB.below k'.1) hup hq2)
 obtain ⟨W, eW⟩ : ∃ W, W = w.alloc (.cells #[.int .i64 id, .int .i64 a, .int .i64 b, .int .i64 ax, .int .i64 ay, .int .i64 tx, .int .i64 ty, .int .i64 ln] 36) := ⟨_, rfl⟩
 have KW : Hid (Made w.heap.size w W) := by unfold Hid; rw [eW]; exact (Made.rfl_ _ _).cells (Nat.le_refl _) _ _
 have HB : Hid (Has W w.heap.size 36 #[.int .i64 id, .int .i64 a, .int .i64 b, .int .i64 ax, .int .i64 ay, .int .i64 tx, .int .i64 ty, .int .i64 ln]) := by unfold Hid; rw [eW]; exact has_new _ _ _
 have HH : Hid (Has W gw 31 #[.int .i64 tk, .int .i64 nb, .int .i64 nj, .int .i64 gx, .int .i64 gy, .slice ob nB cb, .slice oj nJ cj, .slice oc nC cc]) := hH.stays KW.out lgw
 obtain ⟨g1, eg1⟩ : ∃ g, w.heap.size = g := ⟨_, rfl⟩
 rw [eg1] at HB
 have hg1 : gw < g1 := by omega
 have hne : ¬ gw = g1 := by omega
 have hne' : ¬ g1 = gw := by omega
 clear hq hq2 hi hL hH hXw hnB hnJ hnC lgw hup
 have a0 := HB.out.at_ 0
 have a1 := HB.out.at_ 1
 have a2 := HB.out.at_ 2
 have a3 := HB.out.at_ 3
 have a4 := HB.out.at_ 4
 have a5 := HB.out.at_ 5
 have a6 := HB.out.at_ 6
 have a7 := HB.out.at_ 7
 simp at a0 a1 a2 a3 a4 a5 a6 a7
 have b0 := HH.out.at_ 0
 have b1 := HH.out.at_ 1
 have b2 := HH.out.at_ 2
 have b3 := HH.out.at_ 3
 have b4 := HH.out.at_ 4
 have b5 := HH.out.at_ 5
 have b6 := HH.out.at_ 6
 have b7 := HH.out.at_ 7
 simp at b0 b1 b2 b3 b4 b5 b6 b7
 have l0 : gw < W.heap.size := HH.out.here
 have l1 : g1 < W.heap.size := HB.out.here
 go_enter Tryz.func52, Tryz.ntmps52
 go_upto_region 1 with fail
 rw [← eW]
 clear eW
 try rw [eg1]
 go_wp2_with fail
 refine (HRJ.out _).mono ?_
 rintro e w1 ⟨rfl, k1⟩
 have K1 := hid (KW.out.then_ (k1.low KW.out.1.size))
 have HB1 := hid (HB.out.stays k1 HB.out.here)
 have HH1 := hid (HH.out.stays k1 HH.out.here)
 clear k1 a0 a1 a2 a3 a4 a5 a6 a7 b0 b1 b2 b3 b4 b5 b6 b7 l0 l1 HB HH
 have a0 := HB1.out.at_ 0
 have a1 := HB1.out.at_ 1
 have a2 := HB1.out.at_ 2
 have a3 := HB1.out.at_ 3
 have a4 := HB1.out.at_ 4
 have a5 := HB1.out.at_ 5
 have a6 := HB1.out.at_ 6
 have a7 := HB1.out.at_ 7
 simp at a0 a1 a2 a3 a4 a5 a6 a7
 have b0 := HH1.out.at_ 0
 have b1 := HH1.out.at_ 1
 have b2 := HH1.out.at_ 2
 have b3 := HH1.out.at_ 3
 have b4 := HH1.out.at_ 4
 have b5 := HH1.out.at_ 5
 have b6 := HH1.out.at_ 6
 have b7 := HH1.out.at_ 7
 simp at b0 b1 b2 b3 b4 b5 b6 b7
 have l0 : gw < w1.heap.size := HH1.out.here
 have l1 : g1 < w1.heap.size := HB1.out.here
 cases q with
 | false =>
  go_wp2_with fail
  exact bodyPost_ret (v := .tuple #[.int .i64 0, .int .i64 2]) (by simp [results, Tryz.results52, go_sem]) rfl (.inl ⟨fun h => by have := HQ.out.2 h; simp at this, rfl, K1.out⟩)
 | true =>
  have HBP : Hid (JointP ⟨id, a, b, ax, ay, tx, ty, ln⟩) := HQ.out.1 (by simp)
  go_wp2_with fail
  refine reg_made (by kernel_rfl) (by kernel_rfl) ?_
  intro Ty hT fw hf
  have z0 := Class.reads hf b0
  have z1 := Class.reads hf b1
  have z2 := Class.reads hf b2
  have z3 := Class.reads hf b3
  have z4 := Class.reads hf b4
  have z5 := Class.reads hf b5
  have z6 := Class.reads hf b6
  have z7 := Class.reads hf b7
  have y1 := Class.reads hf a1
  have y2 := Class.reads hf a2
  repeat (go_big_quiet_step ((go_at_call 89; exact hf.made (HEX.out _ (K1.out.then_ ((hf.1 _).low K1.out.1.size))))))
  refine wpQuiet_nil ?_
  intro w2 h2
  have k2 := hf.here h2
  have K2 := hid (K1.out.then_ (k2.low K1.out.1.size))
  have HB2 := hid (HB1.out.stays k2 HB1.out.here)
  have HH2 := hid (HH1.out.stays k2 HH1.out.here)
  clear k2 h2 hf a0 a1 a2 a3 a4 a5 a6 a7 b0 b1 b2 b3 b4 b5 b6 b7 z0 z1 z2 z3 z4 z5 z6 z7 y1 y2 l0 l1 HB1 HH1
  have a0 := HB2.out.at_ 0
  have a1 := HB2.out.at_ 1
  have a2 := HB2.out.at_ 2
  have a3 := HB2.out.at_ 3
  have a4 := HB2.out.at_ 4
  have a5 := HB2.out.at_ 5
  have a6 := HB2.out.at_ 6
  have a7 := HB2.out.at_ 7
  simp at a0 a1 a2 a3 a4 a5 a6 a7
  have b0 := HH2.out.at_ 0
  have b1 := HH2.out.at_ 1
  have b2 := HH2.out.at_ 2
  have b3 := HH2.out.at_ 3
  have b4 := HH2.out.at_ 4
  have b5 := HH2.out.at_ 5
  have b6 := HH2.out.at_ 6
  have b7 := HH2.out.at_ 7
  simp at b0 b1 b2 b3 b4 b5 b6 b7
  have l0 : gw < w2.heap.size := HH2.out.here
  have l1 : g1 < w2.heap.size := HB2.out.here
  cases q2 with
  | false =>
   go_wp2_with fail
   exact bodyPost_ret (v := .tuple #[.int .i64 0, .int .i64 4]) (by simp [results, Tryz.results52, go_sem]) rfl (.inr (.inl ⟨HBP.out, fun h => by have := HQ2.out.2 h; simp at this, rfl, K2.out⟩))
  | true =>
   have HEP : Hid (a ∈ B.map (·.id) ∧ b ∈ B.map (·.id)) := HQ2.out.1 (by simp)
   by_cases hA : 1024 ≤ nJ
   ·go_wp2_with fail
    exact bodyPost_ret (v := .tuple #[.int .i64 0, .int .i64 3]) (by simp [results, Tryz.results52, go_sem]) rfl (.inr (.inr (.inl ⟨HBP.out, HEP.out, .inl (by rw [HN.out.2.1]; exact hA), rfl, K2.out⟩)))
   ·by_cases hB : 4611686018427387904 ≤ nj
    ·go_wp2_with fail
     exact bodyPost_ret (v := .tuple #[.int .i64 0, .int .i64 3]) (by simp [results, Tryz.results52, go_sem]) rfl (.inr (.inr (.inl ⟨HBP.out, HEP.out, .inr hB, rfl, K2.out⟩)))
    ·have fa : ∀ i, w2.frozen? ⟨g1, i, none⟩ = false := HB2.out.free
     go_upto_region 8 with fail
     obtain ⟨W4, eW4⟩ : ∃ V, V = w2.setCell ⟨g1, 0, none⟩ (.int .i64 nj) := ⟨_, rfl⟩
     have HB4 : Hid (Has W4 g1 36 #[.int .i64 nj, .int .i64 a, .int .i64 b, .int .i64 ax, .int .i64 ay, .int .i64 tx, .int .i64 ty, .int .i64 ln]) := by unfold Hid; rw [eW4]; exact HB2.out.put 0 _
     have HH4 : Hid (Has W4 gw 31 #[.int .i64 tk, .int .i64 nb, .int .i64 nj, .int .i64 gx, .int .i64 gy, .slice ob nB cb, .slice oj nJ cj, .slice oc nC cc]) := by unfold Hid; rw [eW4]; exact HH2.out.other _ hne _
     have K4 : Hid (Made w.heap.size w W4) := by unfold Hid; rw [eW4]; exact K2.out.put (Nat.le_of_eq eg1) _
     rw [← eW4]
     clear eW4 a0 a1 a2 a3 a4 a5 a6 a7 b0 b1 b2 b3 b4 b5 b6 b7 l0 l1 fa HB2 HH2
     have a0 := HB4.out.at_ 0
     have a1 := HB4.out.at_ 1
     have a2 := HB4.out.at_ 2
     have a3 := HB4.out.at_ 3
     have a4 := HB4.out.at_ 4
     have a5 := HB4.out.at_ 5
     have a6 := HB4.out.at_ 6
     have a7 := HB4.out.at_ 7
     simp at a0 a1 a2 a3 a4 a5 a6 a7
     have b0 := HH4.out.at_ 0
     have b1 := HH4.out.at_ 1
     have b2 := HH4.out.at_ 2
     have b3 := HH4.out.at_ 3
     have b4 := HH4.out.at_ 4
     have b5 := HH4.out.at_ 5
     have b6 := HH4.out.at_ 6
     have b7 := HH4.out.at_ 7
     simp at b0 b1 b2 b3 b4 b5 b6 b7
     have l0 : gw < W4.heap.size := HH4.out.here
     have l1 : g1 < W4.heap.size := HB4.out.here
     have HW := hid (fun v (k' : Made W4.heap.size W4 v) => withJ_c (⟨nj, a, b, ax, ay, tx, ty, ln⟩ : Jt) (l := J) (ao := oj) (n := nJ) (c := cj) (w := v) HN.out.2.1 (by omega) (((HL.out.at_.lJ).below K4.out.1).below k'.1) (by have := HL.out.okJ; rw [HN.out.2.1] at this; exact this))
     refine MK.reg_mk (alW encJ 8 36 (nJ + 1) (J ++ [(⟨nj, a, b, ax, ay, tx, ty, ln⟩ : Jt)])) 7 [0, 1, 2, 3, 4, 5, 6] [0, 1, 2, 3, 4, 5] [6] [] (fun _ => []) (val := valW (nJ + 1)) (by kernel_rfl) (by kernel_rfl) ?hpu2 ?_
     case hpu2 => intro p hp; simp at hp
     refine MK.can_class (rest := [6]) [0, 1, 2, 3, 4, 5] [] 58 (alW_lasts _ _ _ _ _) (MK.any_class _) (by kernel_rfl) rfl (by kernel_rfl) (by kernel_rfl) ?_
     apply Exists.intro
     refine ⟨?q3, ?q4⟩
     case q3 =>
      intro Ty hT fw hf _
      have z6 := Class.reads hf b6
      have y0 := Class.reads hf a0
      have y1 := Class.reads hf a1
      have y2 := Class.reads hf a2
      have y3 := Class.reads hf a3
      have y4 := Class.reads hf a4
      have y5 := Class.reads hf a5
      have y6 := Class.reads hf a6
      have y7 := Class.reads hf a7
      change wpQuiet _ _ _ _ [_, _, _, _, _, _] _
      repeat (go_big_quiet_step (fail))
      exact wpQuiet_nil rfl
     refine MK.can_mk 6 46 _ rfl rfl rfl rfl ?m3 fun g7 e7 => ?m4
     case m3 =>
      intro G' u _ hu
      rw [show (execOp _ _).run Tryz.prog u = .ok (.enter 90 #[.slice oj nJ cj, .agg #[.int .i64 nj, .int .i64 a, .int .i64 b, .int .i64 ax, .int .i64 ay, .int .i64 tx, .int .i64 ty, .int .i64 ln]]) u by kernel_rfl]
      show Calls _ _ _ _ _
      refine (HW.out u hu.1).mono ?_
      rintro e v ⟨ao2, c2, rfl, hnew, h4⟩
      obtain ⟨g, rfl, hrow⟩ := hnew.row (by omega)
      exact ⟨g, c2, rfl, hu.next (alW_lasts _ _ _ _ _) h4 (hnew.fresh g 0 _ rfl) hrow.here ⟨hrow, hnew.nc, hnew.cm⟩⟩
     rw [show valW (nJ + 1) 6 g7 e7 = .slice (some ⟨g7, 0, none⟩) (nJ + 1) e7 from rfl]
     simp only [Act.put, List.setIfInBounds_toArray, List.set_cons_succ, List.set_cons_zero]
     intro w5 hu
     obtain ⟨hg7, hg7', h3⟩ := hu.2.1 6 (g7, e7) (by unfold MK.upd; simp)
     have K5 := hid (K4.out.then_ (hu.1.low K4.out.1.size))
     have HB5 := hid (HB4.out.stays hu.1 HB4.out.here)
     have HH5 := hid (HH4.out.stays hu.1 HH4.out.here)
     have HR5 := hid h3
     have hgw7 : Hid (w.heap.size ≤ g7) := Nat.le_trans K4.out.1.size hg7
     clear hu h3 hg7 hg7' a0 a1 a2 a3 a4 a5 a6 a7 b0 b1 b2 b3 b4 b5 b6 b7 l0 l1 HW HB4 HH4
     simp only [List.drop_succ_cons, List.drop_zero]
     have a0 := HB5.out.at_ 0
     have a1 := HB5.out.at_ 1
     have a2 := HB5.out.at_ 2
     have a3 := HB5.out.at_ 3
     have a4 := HB5.out.at_ 4
     have a5 := HB5.out.at_ 5
     have a6 := HB5.out.at_ 6
     have a7 := HB5.out.at_ 7
     simp at a0 a1 a2 a3 a4 a5 a6 a7
     have b0 := HH5.out.at_ 0
     have b1 := HH5.out.at_ 1
     have b2 := HH5.out.at_ 2
     have b3 := HH5.out.at_ 3
     have b4 := HH5.out.at_ 4
     have b5 := HH5.out.at_ 5
     have b6 := HH5.out.at_ 6
     have b7 := HH5.out.at_ 7
     simp at b0 b1 b2 b3 b4 b5 b6 b7
     have l0 : gw < w5.heap.size := HH5.out.here
     have l1 : g1 < w5.heap.size := HB5.out.here
     have fw : ∀ i, w5.frozen? ⟨gw, i, none⟩ = false := HH5.out.free
     go_wp2_with fail
     refine NoPanic.normal ?_
     obtain ⟨nj1, enb⟩ : ∃ z, nj + 1 = z := ⟨_, rfl⟩
     go_wp2_with fail
     obtain ⟨W6, eW6⟩ : ∃ V, V = (w5.setCell ⟨gw, 6, none⟩ (.slice (some ⟨g7, 0, none⟩) (nJ + 1) e7)).setCell ⟨gw, 2, none⟩ (.int .i64 nj1) := ⟨_, rfl⟩
     have hH6 : Has W6 gw 31 #[.int .i64 tk, .int .i64 nb, .int .i64 nj1, .int .i64 gx, .int .i64 gy, .slice ob nB cb, .slice (some ⟨g7, 0, none⟩) (nJ + 1) e7, .slice oc nC cc] := by rw [eW6]; exact (HH5.out.put 6 _).put 2 _
     have k6 : But (fun b => b = gw) w5 W6 := by rw [eW6]; exact ((But.rfl_ (fun b => b = gw) _).put (p := ⟨gw, 6, none⟩) (.inl rfl) _).put (p := ⟨gw, 2, none⟩) (.inl rfl) _
     have hB6 := HB5.out.but k6 (by exact hne')
     try rw [← eW6]
     have q0 := hB6.at_ 0
     simp at q0
     refine bodyPost_ret (v := .tuple #[.int .i64 nj, .int .i64 0]) (by simp [results, Tryz.results52, go_sem]) rfl (.inr (.inr (.inr ⟨HBP.out, HEP.out, by rw [HN.out.2.1]; omega, by omega, rfl, (Made.but K5.out).then_ k6, ob, some ⟨g7, 0, none⟩, cb, e7, ?_, ?_⟩)))
     ·rw [List.length_append, HN.out.1, HN.out.2.1, HN.out.2.2, enb]
      exact hH6
     ·have hY : ∀ b, b = gw → X b := fun b hb => hb ▸ hXg
      have hL6 := (HL.out.kept K5.out).but k6 hY
      have nX : ∀ g, w.heap.size ≤ g → ¬ X g := fun g hg hx => by have := HXW.out g hx; omega
      have hgw7' := hgw7.out
      have h7 : ¬ g7 = gw := by omega
      have hr6 := HR5.out.1.but k6 h7
      refine ⟨⟨hL6.at_.lB, hr6.lsT, hL6.at_.lC, hL6.at_.sB, fun j hj => ?_, hL6.at_.iC⟩, hL6.okB, ?_, hL6.okC, hL6.offB, fun _ b off s e => by cases e; exact nX g7 hgw7', hL6.offC, hL6.offP, hL6.okP⟩
      ·rcases List.mem_append.1 hj with hj | hj
       ·exact hL6.at_.iJ j hj
       ·rw [List.mem_singleton.1 hj]
        have := HI.out
        exact ⟨inj, this.2.1, this.2.2.1, this.2.2.2.1, this.2.2.2.2.1, this.2.2.2.2.2.1, this.2.2.2.2.2.2.1, this.2.2.2.2.2.2.2⟩
      ·rw [List.length_append, HN.out.2.1]
       exact ⟨HR5.out.2.1, HR5.out.2.2, .inr ⟨_, _, rfl⟩⟩
theorem addJoint_c {X : Nat → Prop} {w : World} {gw : Nat} {tk nb nj gx gy : Int} {B : List Bd} {J : List Jt} {C : List Ct} (j : Jt) (hV : WVar X w gw tk nb nj gx gy B J C) (hXg : X gw) (hXw : ∀ b, X b → b < w.heap.size) (hi : JtI j) (inj : I64 nj) (hnj : 1 ≤ nj) (hmB : B.length ≤ 1073741824) (hup : (B.map (·.id)).Pairwise (· < ·)) :
  Calls Tryz.prog 52 #[.pointer (some ⟨gw, 0, none⟩), jtV j] w (AddedJ X w gw tk nb nj gx gy B J C j) := by
 obtain ⟨oc, cc, hO⟩ := hV.down
 refine (addJoint_o j hO hXg hXw hi inj hnj hmB hup).mono ?_
 rintro e v (h | h | h | ⟨h1, h2, h3, h4, h5, h6, hv⟩)
 ·exact .inl h
 ·exact .inr (.inl h)
 ·exact .inr (.inr (.inl h))
 ·exact .inr (.inr (.inr ⟨h1, h2, h3, h4, h5, h6, hv.up⟩))
theorem NewL.slOk {α : Type} {enc : α → List Value} {k : Nat} {t : TypeId} {w v : World} {ao : Option Addr} {n c : Nat} {l : List α} (h : NewL enc k t w v ao n c l) : SlOk ao l.length c := ⟨by rw [h.len]; exact h.nc, h.cm, by rw [h.len]; exact h.ok⟩
def RemovedJ (X : Nat → Prop) (w : World) (gw : Nat) (tk nb nj gx gy : Int) (B : List Bd) (J : List Jt) (C : List Ct) (id : Int) (e : Ending) (v : World) : Prop :=
 (¬ (∃ x ∈ J, x.id = id) ∧ e = .returned (.bool false) ∧ Made w.heap.size w v) ∨
 ((∃ x ∈ J, x.id = id) ∧ e = .returned (.bool true) ∧ But (fun g => g = gw) w v ∧ WVar X v gw tk nb nj gx gy B (J.filter fun x => !isJ id x) C)
def RemovedJO (oc : Option Addr) (cc : Nat) (X : Nat → Prop) (w : World) (gw : Nat) (tk nb nj gx gy : Int) (B : List Bd) (J : List Jt) (C : List Ct) (id : Int) (e : Ending) (v : World) : Prop :=
 (¬ (∃ x ∈ J, x.id = id) ∧ e = .returned (.bool false) ∧ Made w.heap.size w v) ∨
 ((∃ x ∈ J, x.id = id) ∧ e = .returned (.bool true) ∧ But (fun g => g = gw) w v ∧ WVarO oc cc X v gw tk nb nj gx gy B (J.filter fun x => !isJ id x) C)
theorem removeJoint_o {oc : Option Addr} {cc : Nat} {X : Nat → Prop} {w : World} {gw : Nat} {tk nb nj gx gy : Int} {B : List Bd} {J : List Jt} {C : List Ct} (id : Int) (hV : WVarO oc cc X w gw tk nb nj gx gy B J C) (hXg : X gw) (hXw : ∀ b, X b → b < w.heap.size) (hmJ : J.length ≤ 1073741824) (hup : (J.map (·.id)).Pairwise (· < ·)) :
  Calls Tryz.prog 55 #[.pointer (some ⟨gw, 0, none⟩), .int .i64 id] w (RemovedJO oc cc X w gw tk nb nj gx gy B J C id) := by
 obtain ⟨ob, oj, cb, cj, hH, hL⟩ := hV
 obtain ⟨nB, hnB⟩ : ∃ m, B.length = m := ⟨_, rfl⟩
 obtain ⟨nJ, hnJ⟩ : ∃ m, J.length = m := ⟨_, rfl⟩
 obtain ⟨nC, hnC⟩ : ∃ m, C.length = m := ⟨_, rfl⟩
 rw [hnB, hnJ, hnC] at hH
 have lgw : gw < w.heap.size := hH.here
 have HN := hid (And.intro hnB (And.intro hnJ hnC))
 have HL := hid hL
 have HXW := hid hXw
 obtain ⟨i, r, hr, hdet⟩ := wjoint_det tk nb nj gx gy ob oc nB cb nC cc (ao := oj) (c := cj) id hnJ (by rw [← hnJ]; exact hmJ) hup
 have HQ := hid hr
 have HD := hid (fun v (k' : Made w.heap.size w v) => hdet v (hL.at_.lJ.below k'.1))
 obtain ⟨W, eW⟩ : ∃ W, W = w.alloc (.cells #[.int .i64 id] 3) := ⟨_, rfl⟩
 have KW : Hid (Made w.heap.size w W) := by unfold Hid; rw [eW]; exact (Made.rfl_ _ _).cells (Nat.le_refl _) _ _
 have HB : Hid (Has W w.heap.size 3 #[.int .i64 id]) := by unfold Hid; rw [eW]; exact has_new _ _ _
 have HH : Hid (Has W gw 31 #[.int .i64 tk, .int .i64 nb, .int .i64 nj, .int .i64 gx, .int .i64 gy, .slice ob nB cb, .slice oj nJ cj, .slice oc nC cc]) := hH.stays KW.out lgw
 obtain ⟨g1, eg1⟩ : ∃ g, w.heap.size = g := ⟨_, rfl⟩
 rw [eg1] at HB
 have hg1 : gw < g1 := by omega
 have hne : ¬ gw = g1 := by omega
 have hne' : ¬ g1 = gw := by omega
 have hmJ' : nJ ≤ 1073741824 := by rw [← hnJ]; exact hmJ
 clear hr hdet hL hH hXw hnB hnJ hnC lgw hup hmJ
 have a0 := HB.out.at_ 0
 simp at a0
 have b0 := HH.out.at_ 0
 have b1 := HH.out.at_ 1
 have b2 := HH.out.at_ 2
 have b3 := HH.out.at_ 3
 have b4 := HH.out.at_ 4
 have b5 := HH.out.at_ 5
 have b6 := HH.out.at_ 6
 have b7 := HH.out.at_ 7
 simp at b0 b1 b2 b3 b4 b5 b6 b7
 have l0 : gw < W.heap.size := HH.out.here
 have l1 : g1 < W.heap.size := HB.out.here
 go_enter Tryz.func55, Tryz.ntmps55
 go_upto_region 1 with fail
 rw [← eW]
 clear eW
 try rw [eg1]
 go_wp2_with fail
 refine reg_made (by kernel_rfl) (by kernel_rfl) ?_
 intro Ty hT fw hf
 have y0 := Class.reads hf a0
 have z0 := Class.reads hf b0
 have z1 := Class.reads hf b1
 have z2 := Class.reads hf b2
 have z3 := Class.reads hf b3
 have z4 := Class.reads hf b4
 have z5 := Class.reads hf b5
 have z6 := Class.reads hf b6
 have z7 := Class.reads hf b7
 repeat (go_big_quiet_step ((go_at_call 97; exact hf.made (HD.out _ (KW.out.then_ ((hf.1 _).low KW.out.1.size))))))
 refine wpQuiet_nil ?_
 intro w1 h1
 have k1 := hf.here h1
 have K1 := hid (KW.out.then_ (k1.low KW.out.1.size))
 have HB1 := hid (HB.out.stays k1 HB.out.here)
 have HH1 := hid (HH.out.stays k1 HH.out.here)
 clear k1 h1 hf a0 y0 b0 b1 b2 b3 b4 b5 b6 b7 z0 z1 z2 z3 z4 z5 z6 z7 l0 l1 HB HH
 have a0 := HB1.out.at_ 0
 simp at a0
 have b0 := HH1.out.at_ 0
 have b1 := HH1.out.at_ 1
 have b2 := HH1.out.at_ 2
 have b3 := HH1.out.at_ 3
 have b4 := HH1.out.at_ 4
 have b5 := HH1.out.at_ 5
 have b6 := HH1.out.at_ 6
 have b7 := HH1.out.at_ 7
 simp at b0 b1 b2 b3 b4 b5 b6 b7
 have l0 : gw < w1.heap.size := HH1.out.here
 have l1 : g1 < w1.heap.size := HB1.out.here
 cases r with
 | false =>
  go_wp2_with fail
  go_ret
  exact .inl ⟨fun h => by have := HQ.out.2 h; simp at this, rfl, K1.out⟩
 | true =>
  have HW := hid (withoutJ_c 98 #[.pointer (some ⟨g1, 0, none⟩)] (by intro args w; rfl) (isJ id) (l := J) (ao := oj) (n := nJ) (c := cj) (w := w1) HN.out.2.1 hmJ' ((HL.out.at_.lJ).below K1.out.1) (by have := HL.out.okJ; rw [HN.out.2.1] at this; exact this)
   (fun x u hu => isJ_c id x g1 u ((HB1.out.stays hu HB1.out.here).at_ 0)))
  go_wp2_with fail
  refine HW.out.mono ?_
  rintro e w2 ⟨ao', m, c', rfl, hm, hnew, k2⟩
  have K2 := hid (K1.out.then_ (k2.low K1.out.1.size))
  have HH2 := hid (HH1.out.stays k2 HH1.out.here)
  have HNw := hid hnew
  have hs1 : Hid (w.heap.size ≤ w1.heap.size) := K1.out.1.size
  clear k2 hnew a0 b0 b1 b2 b3 b4 b5 b6 b7 l0 l1 HH1
  have b0 := HH2.out.at_ 0
  have b1 := HH2.out.at_ 1
  have b2 := HH2.out.at_ 2
  have b3 := HH2.out.at_ 3
  have b4 := HH2.out.at_ 4
  have b5 := HH2.out.at_ 5
  have b6 := HH2.out.at_ 6
  have b7 := HH2.out.at_ 7
  simp at b0 b1 b2 b3 b4 b5 b6 b7
  have l0 : gw < w2.heap.size := HH2.out.here
  have fw : ∀ i, w2.frozen? ⟨gw, i, none⟩ = false := HH2.out.free
  go_wp2_with fail
  obtain ⟨W6, eW6⟩ : ∃ V, V = w2.setCell ⟨gw, 6, none⟩ (.slice ao' m c') := ⟨_, rfl⟩
  have hH6 : Has W6 gw 31 #[.int .i64 tk, .int .i64 nb, .int .i64 nj, .int .i64 gx, .int .i64 gy, .slice ob nB cb, .slice ao' m c', .slice oc nC cc] := by rw [eW6]; exact HH2.out.put 6 _
  have k6 : But (fun b => b = gw) w2 W6 := by rw [eW6]; exact (But.rfl_ (fun b => b = gw) _).put (p := ⟨gw, 6, none⟩) (.inl rfl) _
  try rw [← eW6]
  go_ret
  refine .inr ⟨HQ.out.1 (by simp), rfl, (Made.but K2.out).then_ k6, ob, ao', cb, c', ?_, ?_⟩
  ·rw [HN.out.1, HNw.out.len, HN.out.2.2]
   exact hH6
  ·have hY : ∀ b, b = gw → X b := fun b hb => hb ▸ hXg
   have hL6 := (HL.out.kept K2.out).but k6 hY
   have hs1 := hs1.out
   have nX : ∀ g, w.heap.size ≤ g → ¬ X g := fun g hg hx => by have := HXW.out g hx; omega
   have hof : Offs (fun b => b = gw) ao' := fun b off s e hb => by have := HNw.out.fresh b off s e; have hb : b = gw := hb; omega
   exact ⟨⟨hL6.at_.lB, HNw.out.ls.but k6 hof, hL6.at_.lC, hL6.at_.sB, fun j hj => hL6.at_.iJ j ((List.mem_filter.1 hj).1), hL6.at_.iC⟩, hL6.okB, HNw.out.slOk, hL6.okC, hL6.offB, fun _ b off s e => nX b (by have := HNw.out.fresh b off s e; omega), hL6.offC, hL6.offP, hL6.okP⟩
end Go.Proofs.YtjhcejmfiekjgaaGreat.Fx
/- RemoveBody. -/
namespace Go.Proofs.YtjhcejmfiekjgaaGreat.Fx
open Go.ChangeShapes Go.WideShapes Go.ChangeAt Go.RowKit
set_option linter.unusedVariables false
def RemovedB (X : Nat → Prop) (w : World) (gw : Nat) (tk nb nj gx gy : Int) (B : List Bd) (J : List Jt) (C : List Ct) (id : Int) (e : Ending) (v : World) : Prop :=
 (id ∉ B.map (·.id) ∧ e = .returned (.bool false) ∧ Made w.heap.size w v) ∨
 (id ∈ B.map (·.id) ∧ e = .returned (.bool true) ∧ But (fun g => g = gw) w v ∧ WVar X v gw tk nb nj gx gy (B.filter fun x => !goneB id x) (J.filter fun x => !goneJ id x) (C.filter fun x => !goneC id x))
def RemovedBO (oc : Option Addr) (cc : Nat) (X : Nat → Prop) (w : World) (gw : Nat) (tk nb nj gx gy : Int) (B : List Bd) (J : List Jt) (C : List Ct) (id : Int) (e : Ending) (v : World) : Prop :=
 (id ∉ B.map (·.id) ∧ e = .returned (.bool false) ∧ Made w.heap.size w v) ∨
 (id ∈ B.map (·.id) ∧ e = .returned (.bool true) ∧ But (fun g => g = gw) w v ∧ ∃ oc' cc', (oc = none → oc' = none ∧ cc' = 0) ∧ WVarO oc' cc' X v gw tk nb nj gx gy (B.filter fun x => !goneB id x) (J.filter fun x => !goneJ id x) (C.filter fun x => !goneC id x))
theorem removeBody_o {oc : Option Addr} {cc : Nat} {X : Nat → Prop} {w : World} {gw : Nat} {tk nb nj gx gy : Int} {B : List Bd} {J : List Jt} {C : List Ct} (id : Int) (hV : WVarO oc cc X w gw tk nb nj gx gy B J C) (hXg : X gw) (hXw : ∀ b, X b → b < w.heap.size) (hmB : B.length ≤ 1073741824) (hmJ : J.length ≤ 1073741824) (hmC : C.length ≤ 1073741824) (hup : (B.map (·.id)).Pairwise (· < ·)) :
  Calls Tryz.prog 54 #[.pointer (some ⟨gw, 0, none⟩), .int .i64 id] w (RemovedBO oc cc X w gw tk nb nj gx gy B J C id) := by
 obtain ⟨ob, oj, cb, cj, hH, hL⟩ := hV
 obtain ⟨nB, hnB⟩ : ∃ m, B.length = m := ⟨_, rfl⟩
 obtain ⟨nJ, hnJ⟩ : ∃ m, J.length = m := ⟨_, rfl⟩
 obtain ⟨nC, hnC⟩ : ∃ m, C.length = m := ⟨_, rfl⟩
 rw [hnB, hnJ, hnC] at hH
 have lgw : gw < w.heap.size := hH.here
 have HN := hid (And.intro hnB (And.intro hnJ hnC))
 have HL := hid hL
 have HXW := hid hXw
 obtain ⟨r, hr⟩ := a_bool (id ∈ B.map (·.id) ∧ id ∈ B.map (·.id))
 have HQ := hid hr
 have HEX := hid (fun v (k' : Made w.heap.size w v) => exist_c tk nb nj gx gy oj oc nJ cj nC cc (c := cb) id id r hnB (by rw [← hnB]; exact hmB) (hL.at_.lB.below k'.1) hup hr)
 have hmB' : nB ≤ 1073741824 := by rw [← hnB]; exact hmB
 have hmJ' : nJ ≤ 1073741824 := by rw [← hnJ]; exact hmJ
 have hmC' : nC ≤ 1073741824 := by rw [← hnC]; exact hmC
 obtain ⟨W, eW⟩ : ∃ W, W = w.alloc (.cells #[.int .i64 id] 3) := ⟨_, rfl⟩
 have KW : Hid (Made w.heap.size w W) := by unfold Hid; rw [eW]; exact (Made.rfl_ _ _).cells (Nat.le_refl _) _ _
 have HB : Hid (Has W w.heap.size 3 #[.int .i64 id]) := by unfold Hid; rw [eW]; exact has_new _ _ _
 have HH : Hid (Has W gw 31 #[.int .i64 tk, .int .i64 nb, .int .i64 nj, .int .i64 gx, .int .i64 gy, .slice ob nB cb, .slice oj nJ cj, .slice oc nC cc]) := hH.stays KW.out lgw
 obtain ⟨g1, eg1⟩ : ∃ g, w.heap.size = g := ⟨_, rfl⟩
 rw [eg1] at HB
 have hg1 : gw < g1 := by omega
 have hne : ¬ gw = g1 := by omega
 have hne' : ¬ g1 = gw := by omega
 have hY : Hid (∀ b, b = gw → X b) := fun b hb => hb ▸ hXg
 clear hr hL hH hXw hnB hnJ hnC lgw hup hmJ hmB hmC
 have a0 := HB.out.at_ 0
 simp at a0
 have b0 := HH.out.at_ 0
 have b1 := HH.out.at_ 1
 have b2 := HH.out.at_ 2
 have b3 := HH.out.at_ 3
 have b4 := HH.out.at_ 4
 have b5 := HH.out.at_ 5
 have b6 := HH.out.at_ 6
 have b7 := HH.out.at_ 7
 simp at b0 b1 b2 b3 b4 b5 b6 b7
 have l0 : gw < W.heap.size := HH.out.here
 have l1 : g1 < W.heap.size := HB.out.here
 go_enter Tryz.func54, Tryz.ntmps54
 go_upto_region 1 with fail
 rw [← eW]
 clear eW
 try rw [eg1]
 refine reg_made (by kernel_rfl) (by kernel_rfl) ?_
 intro Ty hT fw hf
 have y0 := Class.reads hf a0
 have z0 := Class.reads hf b0
 have z1 := Class.reads hf b1
 have z2 := Class.reads hf b2
 have z3 := Class.reads hf b3
 have z4 := Class.reads hf b4
 have z5 := Class.reads hf b5
 have z6 := Class.reads hf b6
 have z7 := Class.reads hf b7
 repeat (go_big_quiet_step ((go_at_call 89; exact hf.made (HEX.out _ (KW.out.then_ ((hf.1 _).low KW.out.1.size))))))
 refine wpQuiet_nil ?_
 intro w1 h1
 have k1 := hf.here h1
 have K1 := hid (KW.out.then_ (k1.low KW.out.1.size))
 have HB1 := hid (HB.out.stays k1 HB.out.here)
 have HH1 := hid (HH.out.stays k1 HH.out.here)
 clear k1 h1 hf a0 y0 b0 b1 b2 b3 b4 b5 b6 b7 z0 z1 z2 z3 z4 z5 z6 z7 l0 l1 HB HH
 have a0 := HB1.out.at_ 0
 simp at a0
 have b0 := HH1.out.at_ 0
 have b1 := HH1.out.at_ 1
 have b2 := HH1.out.at_ 2
 have b3 := HH1.out.at_ 3
 have b4 := HH1.out.at_ 4
 have b5 := HH1.out.at_ 5
 have b6 := HH1.out.at_ 6
 have b7 := HH1.out.at_ 7
 simp at b0 b1 b2 b3 b4 b5 b6 b7
 have l0 : gw < w1.heap.size := HH1.out.here
 have l1 : g1 < w1.heap.size := HB1.out.here
 cases r with
 | false =>
  go_wp2_with fail
  go_ret
  exact .inl ⟨fun h => by have := HQ.out.2 ⟨h, h⟩; simp at this, rfl, K1.out⟩
 | true =>
  have HL1 := hid (HL.out.kept K1.out)
  have HBB : Hid (But (fun b => b = gw) w w1) := Made.but K1.out
  have HW2 := hid (withoutB_x 92 #[.pointer (some ⟨g1, 0, none⟩)] (by intro args w; rfl) (goneB id) (l := B) (ao := ob) (n := nB) (c := cb) (w := w1) HN.out.1 hmB' HL1.out.at_.lB (by have := HL1.out.okB; rw [HN.out.1] at this; exact this)
   (fun x u hu => goneB_c id x g1 u ((HB1.out.stays hu HB1.out.here).at_ 0)))
  go_wp2_with fail
  refine HW2.out.mono ?_
  rintro e w2s ⟨ao2, m2, c2, rfl, hm2, hnew2, k2, hnil2⟩
  have HNil2 := hid hnil2
  clear hnil2
  have hsz2 : Hid (w.heap.size ≤ w1.heap.size) := HBB.out.size
  have HNw2 := hid hnew2
  have HB2s := hid (HB1.out.stays k2 HB1.out.here)
  have HH2s := hid (HH1.out.stays k2 HH1.out.here)
  have HL2s := hid (HL1.out.kept k2)
  have KB2s := hid (HBB.out.then_ (Made.but (X := fun b => b = gw) k2))
  clear k2 hnew2 a0 b0 b1 b2 b3 b4 b5 b6 b7 l0 l1 HB1 HH1 HL1 HBB HW2
  have b0 := HH2s.out.at_ 0
  have b1 := HH2s.out.at_ 1
  have b2 := HH2s.out.at_ 2
  have b3 := HH2s.out.at_ 3
  have b4 := HH2s.out.at_ 4
  have b5 := HH2s.out.at_ 5
  have b6 := HH2s.out.at_ 6
  have b7 := HH2s.out.at_ 7
  simp at b0 b1 b2 b3 b4 b5 b6 b7
  have l0 : gw < w2s.heap.size := HH2s.out.here
  have fw : ∀ i, w2s.frozen? ⟨gw, i, none⟩ = false := HH2s.out.free
  go_upto_region 4 with fail
  obtain ⟨w2, e2⟩ : ∃ V, V = w2s.setCell ⟨gw, 5, none⟩ (.slice ao2 m2 c2) := ⟨_, rfl⟩
  have kb2 : But (fun b => b = gw) w2s w2 := by rw [e2]; exact (But.rfl_ (fun b => b = gw) _).put (p := ⟨gw, 5, none⟩) (.inl rfl) _
  have HB2 := hid (HB2s.out.but kb2 hne')
  have HH2 : Hid (Has w2 gw 31 #[.int .i64 tk, .int .i64 nb, .int .i64 nj, .int .i64 gx, .int .i64 gy, .slice ao2 m2 c2, .slice oj nJ cj, .slice oc nC cc]) := by unfold Hid; rw [e2]; exact HH2s.out.put 5 _
  have HL2 := hid (HL2s.out.but kb2 hY.out)
  have KB2 := hid (KB2s.out.then_ kb2)
  have of2 : Hid (Offs (fun b => b = gw) ao2) := fun b off s e hb => by have := HNw2.out.fresh b off s e; have := hsz2.out; have hb : b = gw := hb; omega
  have NL22 := hid (HNw2.out.ls.but kb2 of2.out)
  rw [← e2]
  clear e2 kb2 b0 b1 b2 b3 b4 b5 b6 b7 l0 fw HB2s HH2s HL2s KB2s
  have a0 := HB2.out.at_ 0
  simp at a0
  have b0 := HH2.out.at_ 0
  have b1 := HH2.out.at_ 1
  have b2 := HH2.out.at_ 2
  have b3 := HH2.out.at_ 3
  have b4 := HH2.out.at_ 4
  have b5 := HH2.out.at_ 5
  have b6 := HH2.out.at_ 6
  have b7 := HH2.out.at_ 7
  simp at b0 b1 b2 b3 b4 b5 b6 b7
  have l0 : gw < w2.heap.size := HH2.out.here
  have l1 : g1 < w2.heap.size := HB2.out.here
  have HW3 := hid (withoutJ_x 94 #[.pointer (some ⟨g1, 0, none⟩)] (by intro args w; rfl) (goneJ id) (l := J) (ao := oj) (n := nJ) (c := cj) (w := w2) HN.out.2.1 hmJ' HL2.out.at_.lJ (by have := HL2.out.okJ; rw [HN.out.2.1] at this; exact this)
   (fun x u hu => goneJ_c id x g1 u ((HB2.out.stays hu HB2.out.here).at_ 0)))
  go_wp2_with fail
  refine HW3.out.mono ?_
  rintro e w3s ⟨ao3, m3, c3, rfl, hm3, hnew3, k3, hnil3⟩
  have HNil3 := hid hnil3
  clear hnil3
  have hsz3 : Hid (w.heap.size ≤ w2.heap.size) := KB2.out.size
  have HNw3 := hid hnew3
  have HB3s := hid (HB2.out.stays k3 HB2.out.here)
  have HH3s := hid (HH2.out.stays k3 HH2.out.here)
  have HL3s := hid (HL2.out.kept k3)
  have KB3s := hid (KB2.out.then_ (Made.but (X := fun b => b = gw) k3))
  have NL23s := hid (NL22.out.below k3.1)
  clear k3 hnew3 a0 b0 b1 b2 b3 b4 b5 b6 b7 l0 l1 HB2 HH2 HL2 KB2 HW3 NL22
  have b0 := HH3s.out.at_ 0
  have b1 := HH3s.out.at_ 1
  have b2 := HH3s.out.at_ 2
  have b3 := HH3s.out.at_ 3
  have b4 := HH3s.out.at_ 4
  have b5 := HH3s.out.at_ 5
  have b6 := HH3s.out.at_ 6
  have b7 := HH3s.out.at_ 7
  simp at b0 b1 b2 b3 b4 b5 b6 b7
  have l0 : gw < w3s.heap.size := HH3s.out.here
  have fw : ∀ i, w3s.frozen? ⟨gw, i, none⟩ = false := HH3s.out.free
  go_upto_region 5 with fail
  obtain ⟨w3, e3⟩ : ∃ V, V = w3s.setCell ⟨gw, 6, none⟩ (.slice ao3 m3 c3) := ⟨_, rfl⟩
  have kb3 : But (fun b => b = gw) w3s w3 := by rw [e3]; exact (But.rfl_ (fun b => b = gw) _).put (p := ⟨gw, 6, none⟩) (.inl rfl) _
  have HB3 := hid (HB3s.out.but kb3 hne')
  have HH3 : Hid (Has w3 gw 31 #[.int .i64 tk, .int .i64 nb, .int .i64 nj, .int .i64 gx, .int .i64 gy, .slice ao2 m2 c2, .slice ao3 m3 c3, .slice oc nC cc]) := by unfold Hid; rw [e3]; exact HH3s.out.put 6 _
  have HL3 := hid (HL3s.out.but kb3 hY.out)
  have KB3 := hid (KB3s.out.then_ kb3)
  have of3 : Hid (Offs (fun b => b = gw) ao3) := fun b off s e hb => by have := HNw3.out.fresh b off s e; have := hsz3.out; have hb : b = gw := hb; omega
  have NL33 := hid (HNw3.out.ls.but kb3 of3.out)
  have NL23 := hid (NL23s.out.but kb3 of2.out)
  rw [← e3]
  clear e3 kb3 b0 b1 b2 b3 b4 b5 b6 b7 l0 fw HB3s HH3s HL3s KB3s NL23s
  have a0 := HB3.out.at_ 0
  simp at a0
  have b0 := HH3.out.at_ 0
  have b1 := HH3.out.at_ 1
  have b2 := HH3.out.at_ 2
  have b3 := HH3.out.at_ 3
  have b4 := HH3.out.at_ 4
  have b5 := HH3.out.at_ 5
  have b6 := HH3.out.at_ 6
  have b7 := HH3.out.at_ 7
  simp at b0 b1 b2 b3 b4 b5 b6 b7
  have l0 : gw < w3.heap.size := HH3.out.here
  have l1 : g1 < w3.heap.size := HB3.out.here
  have HW4 := hid (withoutC_x 96 #[.pointer (some ⟨g1, 0, none⟩)] (by intro args w; rfl) (goneC id) (l := C) (ao := oc) (n := nC) (c := cc) (w := w3) HN.out.2.2 hmC' HL3.out.at_.lC (by have := HL3.out.okC; rw [HN.out.2.2] at this; exact this)
   (fun x u hu => goneC_c id x g1 u ((HB3.out.stays hu HB3.out.here).at_ 0)))
  go_wp2_with fail
  refine HW4.out.mono ?_
  rintro e w4s ⟨ao4, m4, c4, rfl, hm4, hnew4, k4, hnil4⟩
  have HNil4 := hid hnil4
  clear hnil4
  have hsz4 : Hid (w.heap.size ≤ w3.heap.size) := KB3.out.size
  have HNw4 := hid hnew4
  have HB4s := hid (HB3.out.stays k4 HB3.out.here)
  have HH4s := hid (HH3.out.stays k4 HH3.out.here)
  have HL4s := hid (HL3.out.kept k4)
  have KB4s := hid (KB3.out.then_ (Made.but (X := fun b => b = gw) k4))
  have NL24s := hid (NL23.out.below k4.1)
  have NL34s := hid (NL33.out.below k4.1)
  clear k4 hnew4 a0 b0 b1 b2 b3 b4 b5 b6 b7 l0 l1 HB3 HH3 HL3 KB3 HW4 NL23 NL33
  have b0 := HH4s.out.at_ 0
  have b1 := HH4s.out.at_ 1
  have b2 := HH4s.out.at_ 2
  have b3 := HH4s.out.at_ 3
  have b4 := HH4s.out.at_ 4
  have b5 := HH4s.out.at_ 5
  have b6 := HH4s.out.at_ 6
  have b7 := HH4s.out.at_ 7
  simp at b0 b1 b2 b3 b4 b5 b6 b7
  have l0 : gw < w4s.heap.size := HH4s.out.here
  have fw : ∀ i, w4s.frozen? ⟨gw, i, none⟩ = false := HH4s.out.free
  go_upto_region 6 with fail
  obtain ⟨w4, e4⟩ : ∃ V, V = w4s.setCell ⟨gw, 7, none⟩ (.slice ao4 m4 c4) := ⟨_, rfl⟩
  have kb4 : But (fun b => b = gw) w4s w4 := by rw [e4]; exact (But.rfl_ (fun b => b = gw) _).put (p := ⟨gw, 7, none⟩) (.inl rfl) _
  have HB4 := hid (HB4s.out.but kb4 hne')
  have HH4 : Hid (Has w4 gw 31 #[.int .i64 tk, .int .i64 nb, .int .i64 nj, .int .i64 gx, .int .i64 gy, .slice ao2 m2 c2, .slice ao3 m3 c3, .slice ao4 m4 c4]) := by unfold Hid; rw [e4]; exact HH4s.out.put 7 _
  have HL4 := hid (HL4s.out.but kb4 hY.out)
  have KB4 := hid (KB4s.out.then_ kb4)
  have of4 : Hid (Offs (fun b => b = gw) ao4) := fun b off s e hb => by have := HNw4.out.fresh b off s e; have := hsz4.out; have hb : b = gw := hb; omega
  have NL44 := hid (HNw4.out.ls.but kb4 of4.out)
  have NL24 := hid (NL24s.out.but kb4 of2.out)
  have NL34 := hid (NL34s.out.but kb4 of3.out)
  rw [← e4]
  clear e4 kb4 b0 b1 b2 b3 b4 b5 b6 b7 l0 fw HB4s HH4s HL4s KB4s NL24s NL34s
  have a0 := HB4.out.at_ 0
  simp at a0
  have b0 := HH4.out.at_ 0
  have b1 := HH4.out.at_ 1
  have b2 := HH4.out.at_ 2
  have b3 := HH4.out.at_ 3
  have b4 := HH4.out.at_ 4
  have b5 := HH4.out.at_ 5
  have b6 := HH4.out.at_ 6
  have b7 := HH4.out.at_ 7
  simp at b0 b1 b2 b3 b4 b5 b6 b7
  have l0 : gw < w4.heap.size := HH4.out.here
  have l1 : g1 < w4.heap.size := HB4.out.here
  go_wp2_with fail
  go_ret
  refine .inr ⟨(HQ.out.1 (by simp)).1, rfl, KB4.out, ao4, c4, HNil4.out, ao2, ao3, c2, c3, ?_, ?_⟩
  ·rw [HNw2.out.len, HNw3.out.len, HNw4.out.len]
   exact HH4.out
  ·have nX : ∀ g, w.heap.size ≤ g → ¬ X g := fun g hg hx => by have := HXW.out g hx; omega
   have hL := HL4.out
   exact ⟨⟨NL24.out, NL34.out, NL44.out, fun b hb => hL.at_.sB b (List.mem_filter.1 hb).1, fun j hj => hL.at_.iJ j (List.mem_filter.1 hj).1, fun j hj => hL.at_.iC j (List.mem_filter.1 hj).1⟩, HNw2.out.slOk, HNw3.out.slOk, HNw4.out.slOk,
    fun _ b off s e => nX b (by have := HNw2.out.fresh b off s e; have := hsz2.out; omega), fun _ b off s e => nX b (by have := HNw3.out.fresh b off s e; have := hsz3.out; omega), fun _ b off s e => nX b (by have := HNw4.out.fresh b off s e; have := hsz4.out; omega),
    fun b hb hn => hL.offP b (List.mem_filter.1 hb).1 hn, fun b hb => hL.okP b (List.mem_filter.1 hb).1⟩
theorem removeBody_c {X : Nat → Prop} {w : World} {gw : Nat} {tk nb nj gx gy : Int} {B : List Bd} {J : List Jt} {C : List Ct} (id : Int) (hV : WVar X w gw tk nb nj gx gy B J C) (hXg : X gw) (hXw : ∀ b, X b → b < w.heap.size) (hmB : B.length ≤ 1073741824) (hmJ : J.length ≤ 1073741824) (hmC : C.length ≤ 1073741824) (hup : (B.map (·.id)).Pairwise (· < ·)) :
  Calls Tryz.prog 54 #[.pointer (some ⟨gw, 0, none⟩), .int .i64 id] w (RemovedB X w gw tk nb nj gx gy B J C id) := by
 obtain ⟨oc, cc, hO⟩ := hV.down
 refine (removeBody_o id hO hXg hXw hmB hmJ hmC hup).mono ?_
 rintro e v (h | ⟨h1, h2, h3, oc', cc', _, hv⟩)
 ·exact .inl h
 ·exact .inr ⟨h1, h2, h3, hv.up⟩
end Go.Proofs.YtjhcejmfiekjgaaGreat.Fx