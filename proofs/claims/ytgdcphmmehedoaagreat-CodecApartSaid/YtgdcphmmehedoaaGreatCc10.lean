/- WoR -/
import Derived.Test.YtgdcphmmehedoaaGreatCc9
set_option maxRecDepth 100000
set_option maxHeartbeats 64000000
/- What may be: rightBodies, rightJoints, rightContacts, Right. -/
namespace Go.Proofs.YtgdcphmmehedoaaGreat.Fx
open Go.ChangeShapes Go.WideShapes Go.ChangeAt Go.RowKit
set_option linter.unusedVariables false
noncomputable def bodyB (b : Bd) : Bool := @decide (BodyP b) (Classical.propDecidable _)
theorem bodyB_iff (b : Bd) : bodyB b = true ↔ BodyP b := by unfold bodyB; exact @decide_eq_true_iff _ (Classical.propDecidable _)
def qOf {α : Type} (l : List α) (p : α → Bool) (i : Nat) : Bool := match l[i]? with | some x => p x | none => true
theorem qOf_at {α : Type} {l : List α} {p : α → Bool} {i : Nat} {x : α} (h : l[i]? = some x) : qOf l p i = p x := by unfold qOf; rw [h]
theorem qOf_all {α : Type} {l : List α} {p : α → Bool} {n : Nat} (hn : l.length = n) (h : ∀ i, i < n → qOf l p i = true) : ∀ x ∈ l, p x = true := by
 intro x hx
 obtain ⟨i, hi⟩ := List.mem_iff_getElem?.1 hx
 have := h i (by rw [← hn]; exact (List.getElem?_eq_some_iff.1 hi).1)
 rwa [qOf_at hi] at this
theorem qOf_one {α : Type} {l : List α} {p : α → Bool} {n : Nat} (hn : l.length = n) (h : ∃ i, i < n ∧ qOf l p i = false) : ¬ ∀ x ∈ l, p x = true := by
 obtain ⟨i, hi, h⟩ := h
 intro hall
 have hx : l[i]? = some l[i] := List.getElem?_eq_getElem (by rw [hn]; exact hi)
 rw [qOf_at hx] at h
 rw [hall _ (List.mem_of_getElem? hx)] at h
 cases h
def BdsIn (w : World) (B : List Bd) : Prop := ∀ b ∈ B, Sl w b.ao b.n b.f ∧ BdI b
theorem BdsIn.kept {w v : World} {B : List Bd} (h : BdsIn w B) (k : Made w.heap.size w v) : BdsIn v B := fun b hb => ⟨fun hn => by
 obtain ⟨g, off, e, hp⟩ := (h b hb).1 hn
 exact ⟨g, off, e, hp.kept k⟩, (h b hb).2⟩
theorem rbodies_c (tk nb nj gx gy : Int) (ob oj oc : Option Addr) (nB cb nJ cj nC cc : Nat) {B : List Bd} {w : World} (r : Bool) (hn : B.length = nB) (hmx : nB ≤ 1073741824) (hl : LsT encB 11 w ob B) (hs : BdsIn w B) (hr : r = true ↔ BodiesP B nb) :
  Calls Tryz.prog 97 #[wdV tk nb nj gx gy (.slice ob nB cb) (.slice oj nJ cj) (.slice oc nC cc)] w fun e v => e = .returned (.bool r) ∧ Made w.heap.size w v := by
 obtain ⟨r2, hr2⟩ := a_bool (NumP (B.map (·.id)) nb)
 have HR2 := hid hr2
 have HR : Hid (r = true ↔ B.length ≤ 1024 ∧ (∀ b ∈ B, bodyB b = true) ∧ r2 = true) := by
  unfold Hid
  rw [hr, hr2]
  exact ⟨fun h => ⟨h.len, fun b hb => (bodyB_iff b).2 (h.all b hb), h.num⟩, fun h => ⟨h.1, fun b hb => (bodyB_iff b).1 (h.2.1 b hb), h.2.2⟩⟩
 obtain ⟨W, eW⟩ : ∃ W, W = w.alloc (.cells #[.int .i64 tk, .int .i64 nb, .int .i64 nj, .int .i64 gx, .int .i64 gy, .slice ob nB cb, .slice oj nJ cj, .slice oc nC cc] 56) := ⟨_, rfl⟩
 have KW : Hid (Made w.heap.size w W) := by unfold Hid; rw [eW]; exact (Made.rfl_ _ _).cells (Nat.le_refl _) _ _
 have HB : Hid (Has W w.heap.size 56 #[.int .i64 tk, .int .i64 nb, .int .i64 nj, .int .i64 gx, .int .i64 gy, .slice ob nB cb, .slice oj nJ cj, .slice oc nC cc]) := by unfold Hid; rw [eW]; exact has_new _ _ _
 obtain ⟨g0, eg⟩ : ∃ g, w.heap.size = g := ⟨_, rfl⟩
 rw [eg] at HB
 have HE := hid (everyB_c 77 #[] (by intro args w; rfl) Nil0 (fun _ _ => True) (qOf B bodyB) (c := cb) (w := W) hn (by omega) (hl.below KW.out.1) (fun _ => Offs.nil _) (fun b h => h.elim) (fun _ _ _ _ _ => trivial) trivial
  (fun i x u hx hu _ => by
   rw [qOf_at hx]
   obtain ⟨h1, h2⟩ := (hs.kept KW.out).kept hu.made x (List.mem_of_getElem? hx)
   exact (rbody_c x.id x.x x.y x.vx x.vy x.an x.sp x.de x.k x.r x.ao x.n x.c x.f (bodyB x) u h1 h2 (bodyB_iff x)).mono fun _ _ ⟨a, b⟩ => ⟨a, Made.but b, trivial⟩))
 have HNm := hid (fun v (k : Made W.heap.size W v) => numB_c (c := cb) (w := v) nb r2 hn hmx ((hl.below KW.out.1).below k.1) hr2)
 have HN := hid hn
 have b0 := HB.out.at_ 0
 have b1 := HB.out.at_ 1
 have b2 := HB.out.at_ 2
 have b3 := HB.out.at_ 3
 have b4 := HB.out.at_ 4
 have b5 := HB.out.at_ 5
 have b6 := HB.out.at_ 6
 have b7 := HB.out.at_ 7
 simp at b0 b1 b2 b3 b4 b5 b6 b7
 have l0 : g0 < W.heap.size := HB.out.here
 clear hn hl hs hr hr2
 by_cases hA : nB ≤ 1024
 ·go_enter Tryz.func97, Tryz.ntmps97
  go_upto_region 1 with fail
  rw [← eW]
  clear eW
  try rw [eg]
  go_wp2_with fail
  refine HE.out.mono ?_
  rintro e w1 ⟨q, rfl, k1, h⟩
  have k1 := k1.made
  have K1 := hid (KW.out.then_ (k1.low KW.out.1.size))
  have K1W := hid k1
  have HB1 := hid (HB.out.stays k1 HB.out.here)
  clear k1 b0 b1 b2 b3 b4 b5 b6 b7 l0
  have b0 := HB1.out.at_ 0
  have b1 := HB1.out.at_ 1
  have b2 := HB1.out.at_ 2
  have b3 := HB1.out.at_ 3
  have b4 := HB1.out.at_ 4
  have b5 := HB1.out.at_ 5
  have b6 := HB1.out.at_ 6
  have b7 := HB1.out.at_ 7
  simp at b0 b1 b2 b3 b4 b5 b6 b7
  have l0 : g0 < w1.heap.size := HB1.out.here
  rcases h with ⟨rfl, hall, _⟩ | ⟨rfl, hone⟩
  ·have HF : Hid (r = r2) := by
    unfold Hid
    rw [Bool.eq_iff_iff, HR.out]
    exact ⟨fun h => h.2.2, fun h => ⟨by rw [HN.out]; exact hA, qOf_all HN.out hall, h⟩⟩
   clear hall
   go_wp2_with fail
   refine (HNm.out _ K1W.out).mono ?_
   rintro e w2 ⟨rfl, k2⟩
   have K2 := hid (K1.out.then_ (k2.low K1.out.1.size))
   clear k2 b0 b1 b2 b3 b4 b5 b6 b7 l0
   go_wp2_with fail
   go_ret
   exact ⟨by rw [HF.out]; rfl, by first | exact K2.out | exact eg ▸ K2.out⟩
  ·have HF : Hid (r = false) := Bool.eq_false_iff.2 fun h => qOf_one HN.out hone (HR.out.1 h).2.1
   clear hone
   go_wp2_with fail
   go_ret
   exact ⟨by rw [HF.out]; rfl, by first | exact K1.out | exact eg ▸ K1.out⟩
 ·have HF : Hid (r = false) := Bool.eq_false_iff.2 fun h => hA (by rw [← HN.out]; exact (HR.out.1 h).1)
  go_enter Tryz.func97, Tryz.ntmps97
  go_upto_region 1 with fail
  rw [← eW]
  clear eW
  try rw [eg]
  go_wp2_with fail
  go_ret
  exact ⟨by rw [HF.out]; rfl, by first | exact KW.out | exact eg ▸ KW.out⟩
noncomputable def jointB (B : List Bd) (j : Jt) : Bool := @decide (JointP j ∧ j.a ∈ B.map (·.id) ∧ j.b ∈ B.map (·.id)) (Classical.propDecidable _)
theorem jointB_iff (B : List Bd) (j : Jt) : jointB B j = true ↔ JointP j ∧ j.a ∈ B.map (·.id) ∧ j.b ∈ B.map (·.id) := by unfold jointB; exact @decide_eq_true_iff _ (Classical.propDecidable _)
theorem rj1_c (tk nb nj gx gy : Int) (ob oj oc : Option Addr) (nB cb nJ cj nC cc : Nat) {B : List Bd} {u : World} (j : Jt) (gw : Nat) (hi : JtI j) (hH : Has u gw 56 #[.int .i64 tk, .int .i64 nb, .int .i64 nj, .int .i64 gx, .int .i64 gy, .slice ob nB cb, .slice oj nJ cj, .slice oc nC cc]) (hn : B.length = nB) (hmx : nB ≤ 1073741824) (hl : LsT encB 11 u ob B) (hup : (B.map (·.id)).Pairwise (· < ·)) :
  Calls Tryz.prog 120 #[jtV j, .pointer (some ⟨gw, 0, none⟩)] u fun e v => e = .returned (.bool (jointB B j)) ∧ Made u.heap.size u v := by
 obtain ⟨c1, h1⟩ := a_bool (JointP j)
 obtain ⟨c2, h2⟩ := a_bool (j.a ∈ B.map (·.id) ∧ j.b ∈ B.map (·.id))
 have HR : Hid (jointB B j = (c1 && c2)) := by unfold Hid; rw [Bool.eq_iff_iff, jointB_iff, Bool.and_eq_true, h1, h2]
 have HJ := hid (fun v => rjoint_c j c1 v hi h1)
 have HX := hid (fun v (k : Made u.heap.size u v) => exist_c tk nb nj gx gy oj oc nJ cj nC cc (c := cb) j.a j.b c2 hn hmx (hl.below k.1) hup h2)
 generalize jointB B j = rr at HR ⊢
 obtain ⟨x0, x1, x2, x3, x4, x5, x6, x7⟩ := j
 simp only [] at HX
 have l0 : gw < u.heap.size := hH.here
 obtain ⟨W, eW⟩ : ∃ W, W = u.alloc (.cells #[.int .i64 x0, .int .i64 x1, .int .i64 x2, .int .i64 x3, .int .i64 x4, .int .i64 x5, .int .i64 x6, .int .i64 x7] 102) := ⟨_, rfl⟩
 have KW : Hid (Made u.heap.size u W) := by unfold Hid; rw [eW]; exact (Made.rfl_ _ _).cells (Nat.le_refl _) _ _
 have HJB : Hid (Has W u.heap.size 102 #[.int .i64 x0, .int .i64 x1, .int .i64 x2, .int .i64 x3, .int .i64 x4, .int .i64 x5, .int .i64 x6, .int .i64 x7]) := by unfold Hid; rw [eW]; exact has_new _ _ _
 have HB := hid (hH.stays KW.out l0)
 obtain ⟨g0, eg⟩ : ∃ g, u.heap.size = g := ⟨_, rfl⟩
 rw [eg] at HJB
 have d0 := HJB.out.at_ 0
 have d1 := HJB.out.at_ 1
 have d2 := HJB.out.at_ 2
 have d3 := HJB.out.at_ 3
 have d4 := HJB.out.at_ 4
 have d5 := HJB.out.at_ 5
 have d6 := HJB.out.at_ 6
 have d7 := HJB.out.at_ 7
 simp at d0 d1 d2 d3 d4 d5 d6 d7
 have l1 : g0 < W.heap.size := HJB.out.here
 clear hi hH hn hl hup h1 h2
 go_enter Tryz.func120, Tryz.ntmps120
 go_upto_region 1 with fail
 rw [← eW]
 clear eW
 try rw [eg]
 go_wp2_with fail
 refine (HJ.out _).mono ?_
 rintro e w1 ⟨rfl, k1⟩
 have K1 := hid (KW.out.then_ (k1.low KW.out.1.size))
 have HB1 := hid (HB.out.stays k1 HB.out.here)
 have HJ1 := hid (HJB.out.stays k1 HJB.out.here)
 clear k1 d0 d1 d2 d3 d4 d5 d6 d7 l0 l1
 have b0 := HB1.out.at_ 0
 have b1 := HB1.out.at_ 1
 have b2 := HB1.out.at_ 2
 have b3 := HB1.out.at_ 3
 have b4 := HB1.out.at_ 4
 have b5 := HB1.out.at_ 5
 have b6 := HB1.out.at_ 6
 have b7 := HB1.out.at_ 7
 simp at b0 b1 b2 b3 b4 b5 b6 b7
 have d0 := HJ1.out.at_ 0
 have d1 := HJ1.out.at_ 1
 have d2 := HJ1.out.at_ 2
 have d3 := HJ1.out.at_ 3
 have d4 := HJ1.out.at_ 4
 have d5 := HJ1.out.at_ 5
 have d6 := HJ1.out.at_ 6
 have d7 := HJ1.out.at_ 7
 simp at d0 d1 d2 d3 d4 d5 d6 d7
 have l0 : gw < w1.heap.size := HB1.out.here
 have l1 : g0 < w1.heap.size := HJ1.out.here
 cases c1 with
 | true =>
  go_wp2_with fail
  refine (HX.out _ K1.out).mono ?_
  rintro e w2 ⟨rfl, k2⟩
  have K2 := hid (K1.out.then_ (k2.low K1.out.1.size))
  clear k2 b0 b1 b2 b3 b4 b5 b6 b7 d0 d1 d2 d3 d4 d5 d6 d7 l0 l1
  go_wp2_with fail
  go_ret
  exact ⟨by rw [HR.out]; rfl, by first | exact K2.out | exact eg ▸ K2.out⟩
 | false =>
  go_wp2_with fail
  go_ret
  exact ⟨by rw [HR.out]; rfl, by first | exact K1.out | exact eg ▸ K1.out⟩
theorem rjoints_c (tk nb nj gx gy : Int) (ob oj oc : Option Addr) (nB cb nJ cj nC cc : Nat) {B : List Bd} {J : List Jt} {w : World} (r : Bool) (hn : B.length = nB) (hmx : nB ≤ 1073741824) (hl : LsT encB 11 w ob B) (hup : (B.map (·.id)).Pairwise (· < ·)) (hnJ : J.length = nJ) (hmxJ : nJ ≤ 1073741824) (hlJ : LsT encJ 8 w oj J) (hiJ : ∀ j ∈ J, JtI j) (hr : r = true ↔ JointsP B J nj) :
  Calls Tryz.prog 98 #[wdV tk nb nj gx gy (.slice ob nB cb) (.slice oj nJ cj) (.slice oc nC cc)] w fun e v => e = .returned (.bool r) ∧ Made w.heap.size w v := by
 obtain ⟨r2, hr2⟩ := a_bool (NumP (J.map (·.id)) nj)
 have HR2 := hid hr2
 have HR : Hid (r = true ↔ J.length ≤ 1024 ∧ (∀ b ∈ J, jointB B b = true) ∧ r2 = true) := by
  unfold Hid
  rw [hr, hr2]
  exact ⟨fun h => ⟨h.len, fun b hb => (jointB_iff B b).2 (h.all b hb), h.num⟩, fun h => ⟨h.1, fun b hb => (jointB_iff B b).1 (h.2.1 b hb), h.2.2⟩⟩
 obtain ⟨W, eW⟩ : ∃ W, W = w.alloc (.cells #[.int .i64 tk, .int .i64 nb, .int .i64 nj, .int .i64 gx, .int .i64 gy, .slice ob nB cb, .slice oj nJ cj, .slice oc nC cc] 56) := ⟨_, rfl⟩
 have KW : Hid (Made w.heap.size w W) := by unfold Hid; rw [eW]; exact (Made.rfl_ _ _).cells (Nat.le_refl _) _ _
 have HB : Hid (Has W w.heap.size 56 #[.int .i64 tk, .int .i64 nb, .int .i64 nj, .int .i64 gx, .int .i64 gy, .slice ob nB cb, .slice oj nJ cj, .slice oc nC cc]) := by unfold Hid; rw [eW]; exact has_new _ _ _
 obtain ⟨g0, eg⟩ : ∃ g, w.heap.size = g := ⟨_, rfl⟩
 rw [eg] at HB
 have HE := hid (everyJ_c 120 #[.pointer (some ⟨g0, 0, none⟩)] (by intro args w; rfl) Nil0 (fun _ _ => True) (qOf J (jointB B)) (c := cj) (w := W) hnJ (by omega) (hlJ.below KW.out.1) (fun _ => Offs.nil _) (fun b h => h.elim) (fun _ _ _ _ _ => trivial) trivial
  (fun i x u hx hu _ => by
   rw [qOf_at hx]
   have hu := hu.made
   exact (rj1_c tk nb nj gx gy ob oj oc nB cb nJ cj nC cc x g0 (hiJ x (List.mem_of_getElem? hx)) (HB.out.stays hu HB.out.here) hn hmx ((hl.below KW.out.1).below hu.1) hup).mono fun _ _ ⟨a, b⟩ => ⟨a, Made.but b, trivial⟩))
 have HNm := hid (fun v (k : Made W.heap.size W v) => numJ_c (c := cj) (w := v) nj r2 hnJ hmxJ ((hlJ.below KW.out.1).below k.1) hr2)
 have HN := hid hnJ
 have b0 := HB.out.at_ 0
 have b1 := HB.out.at_ 1
 have b2 := HB.out.at_ 2
 have b3 := HB.out.at_ 3
 have b4 := HB.out.at_ 4
 have b5 := HB.out.at_ 5
 have b6 := HB.out.at_ 6
 have b7 := HB.out.at_ 7
 simp at b0 b1 b2 b3 b4 b5 b6 b7
 have l0 : g0 < W.heap.size := HB.out.here
 clear hn hl hup hnJ hlJ hiJ hr hr2
 by_cases hA : nJ ≤ 1024
 ·go_enter Tryz.func98, Tryz.ntmps98
  go_upto_region 1 with fail
  rw [← eW]
  clear eW
  try rw [eg]
  go_wp2_with fail
  refine HE.out.mono ?_
  rintro e w1 ⟨q, rfl, k1, h⟩
  have k1 := k1.made
  have K1 := hid (KW.out.then_ (k1.low KW.out.1.size))
  have K1W := hid k1
  have HB1 := hid (HB.out.stays k1 HB.out.here)
  clear k1 b0 b1 b2 b3 b4 b5 b6 b7 l0
  have b0 := HB1.out.at_ 0
  have b1 := HB1.out.at_ 1
  have b2 := HB1.out.at_ 2
  have b3 := HB1.out.at_ 3
  have b4 := HB1.out.at_ 4
  have b5 := HB1.out.at_ 5
  have b6 := HB1.out.at_ 6
  have b7 := HB1.out.at_ 7
  simp at b0 b1 b2 b3 b4 b5 b6 b7
  have l0 : g0 < w1.heap.size := HB1.out.here
  rcases h with ⟨rfl, hall, _⟩ | ⟨rfl, hone⟩
  ·have HF : Hid (r = r2) := by
    unfold Hid
    rw [Bool.eq_iff_iff, HR.out]
    exact ⟨fun h => h.2.2, fun h => ⟨by rw [HN.out]; exact hA, qOf_all HN.out hall, h⟩⟩
   clear hall
   go_wp2_with fail
   refine (HNm.out _ K1W.out).mono ?_
   rintro e w2 ⟨rfl, k2⟩
   have K2 := hid (K1.out.then_ (k2.low K1.out.1.size))
   clear k2 b0 b1 b2 b3 b4 b5 b6 b7 l0
   go_wp2_with fail
   go_ret
   exact ⟨by rw [HF.out]; rfl, by first | exact K2.out | exact eg ▸ K2.out⟩
  ·have HF : Hid (r = false) := Bool.eq_false_iff.2 fun h => qOf_one HN.out hone (HR.out.1 h).2.1
   clear hone
   go_wp2_with fail
   go_ret
   exact ⟨by rw [HF.out]; rfl, by first | exact K1.out | exact eg ▸ K1.out⟩
 ·have HF : Hid (r = false) := Bool.eq_false_iff.2 fun h => hA (by rw [← HN.out]; exact (HR.out.1 h).1)
  go_enter Tryz.func98, Tryz.ntmps98
  go_upto_region 1 with fail
  rw [← eW]
  clear eW
  try rw [eg]
  go_wp2_with fail
  go_ret
  exact ⟨by rw [HF.out]; rfl, by first | exact KW.out | exact eg ▸ KW.out⟩
def CtP (B : List Bd) (c : Ct) : Prop := c.a < c.b ∧ 0 ≤ c.key ∧ 0 ≤ c.n ∧ c.a ∈ B.map (·.id) ∧ c.b ∈ B.map (·.id)
noncomputable def contactB (B : List Bd) (c : Ct) : Bool := @decide (CtP B c) (Classical.propDecidable _)
theorem contactB_iff (B : List Bd) (c : Ct) : contactB B c = true ↔ CtP B c := by unfold contactB; exact @decide_eq_true_iff _ (Classical.propDecidable _)
theorem LtC.trans {x y z : Ct} (h : LtC x y) (k : LtC y z) : LtC x z := by unfold LtC at *; omega
theorem up_iff (C : List Ct) : C.Pairwise LtC ↔ ∀ i x y, C[i]? = some x → C[i + 1]? = some y → LtC x y := by
 constructor
 ·intro h i x y hx hy
  have := List.pairwise_iff_getElem.1 h i (i + 1) (List.getElem?_eq_some_iff.1 hx).1 (List.getElem?_eq_some_iff.1 hy).1 (by omega)
  simpa [(List.getElem?_eq_some_iff.1 hx).2, (List.getElem?_eq_some_iff.1 hy).2] using this
 ·intro h
  have up : ∀ j i (hj : j < C.length) (hij : i < j), LtC (C[i]'(by omega)) C[j] := by
   intro j
   induction j with
   | zero => intro i hj hij; omega
   | succ j ih =>
    intro i hj hij
    have a := h j _ _ (List.getElem?_eq_getElem (by omega)) (List.getElem?_eq_getElem hj)
    rcases Nat.lt_or_ge i j with hh | hh
    ·exact (ih i (by omega) hh).trans a
    ·have e : i = j := by omega
     subst e; exact a
  exact List.pairwise_iff_getElem.2 fun i j hi hj hij => up j i hj hij
theorem rc1_c (tk nb nj gx gy : Int) (ob oj oc : Option Addr) (nB cb nJ cj nC cc : Nat) {B : List Bd} {u : World} (c : Ct) (gw : Nat) (hH : Has u gw 56 #[.int .i64 tk, .int .i64 nb, .int .i64 nj, .int .i64 gx, .int .i64 gy, .slice ob nB cb, .slice oj nJ cj, .slice oc nC cc]) (hn : B.length = nB) (hmx : nB ≤ 1073741824) (hl : LsT encB 11 u ob B) (hup : (B.map (·.id)).Pairwise (· < ·)) :
  Calls Tryz.prog 124 #[ctV c, .pointer (some ⟨gw, 0, none⟩)] u fun e v => e = .returned (.bool (contactB B c)) ∧ Made u.heap.size u v := by
 obtain ⟨c2, h2⟩ := a_bool (c.a ∈ B.map (·.id) ∧ c.b ∈ B.map (·.id))
 have HR : Hid (contactB B c = true ↔ c.a < c.b ∧ 0 ≤ c.key ∧ 0 ≤ c.n ∧ c2 = true) := by unfold Hid; rw [contactB_iff, h2]; exact Iff.rfl
 have HX := hid (fun v (k : Made u.heap.size u v) => exist_c tk nb nj gx gy oj oc nJ cj nC cc (c := cb) c.a c.b c2 hn hmx (hl.below k.1) hup h2)
 generalize contactB B c = rr at HR ⊢
 obtain ⟨x0, x1, x2, x3, x4⟩ := c
 simp only [] at HX HR
 have l0 : gw < u.heap.size := hH.here
 obtain ⟨W, eW⟩ : ∃ W, W = u.alloc (.cells #[.int .i64 x0, .int .i64 x1, .int .i64 x2, .int .i64 x3, .int .i64 x4] 105) := ⟨_, rfl⟩
 have KW : Hid (Made u.heap.size u W) := by unfold Hid; rw [eW]; exact (Made.rfl_ _ _).cells (Nat.le_refl _) _ _
 have HJB : Hid (Has W u.heap.size 105 #[.int .i64 x0, .int .i64 x1, .int .i64 x2, .int .i64 x3, .int .i64 x4]) := by unfold Hid; rw [eW]; exact has_new _ _ _
 have HB := hid (hH.stays KW.out l0)
 obtain ⟨g0, eg⟩ : ∃ g, u.heap.size = g := ⟨_, rfl⟩
 rw [eg] at HJB
 have d0 := HJB.out.at_ 0
 have d1 := HJB.out.at_ 1
 have d2 := HJB.out.at_ 2
 have d3 := HJB.out.at_ 3
 have d4 := HJB.out.at_ 4
 simp at d0 d1 d2 d3 d4
 have b0 := HB.out.at_ 0
 have b1 := HB.out.at_ 1
 have b2 := HB.out.at_ 2
 have b3 := HB.out.at_ 3
 have b4 := HB.out.at_ 4
 have b5 := HB.out.at_ 5
 have b6 := HB.out.at_ 6
 have b7 := HB.out.at_ 7
 simp at b0 b1 b2 b3 b4 b5 b6 b7
 have l1 : g0 < W.heap.size := HJB.out.here
 have l2 : gw < W.heap.size := HB.out.here
 clear hH hn hl hup h2
 by_cases hA : x0 < x1
 ·by_cases hB : 0 ≤ x2
  ·by_cases hC : 0 ≤ x3
   ·have HF : Hid (rr = c2) := by unfold Hid; rw [Bool.eq_iff_iff, HR.out]; exact ⟨fun h => h.2.2.2, fun h => ⟨hA, hB, hC, h⟩⟩
    go_enter Tryz.func124, Tryz.ntmps124
    go_upto_region 1 with fail
    rw [← eW]
    clear eW
    try rw [eg]
    go_wp2_with fail
    refine (HX.out _ KW.out).mono ?_
    rintro e w2 ⟨rfl, k2⟩
    have K2 := hid (KW.out.then_ (k2.low KW.out.1.size))
    clear k2 b0 b1 b2 b3 b4 b5 b6 b7 d0 d1 d2 d3 d4 l0 l1 l2
    go_wp2_with fail
    go_ret
    exact ⟨by rw [HF.out]; rfl, by first | exact K2.out | exact eg ▸ K2.out⟩
   ·have HF : Hid (rr = false) := Bool.eq_false_iff.2 fun h => hC (HR.out.1 h).2.2.1
    go_enter Tryz.func124, Tryz.ntmps124
    go_upto_region 1 with fail
    rw [← eW]
    clear eW
    try rw [eg]
    go_wp2_with fail
    go_ret
    exact ⟨by rw [HF.out]; rfl, by first | exact KW.out | exact eg ▸ KW.out⟩
  ·have HF : Hid (rr = false) := Bool.eq_false_iff.2 fun h => hB (HR.out.1 h).2.1
   go_enter Tryz.func124, Tryz.ntmps124
   go_upto_region 1 with fail
   rw [← eW]
   clear eW
   try rw [eg]
   go_wp2_with fail
   go_ret
   exact ⟨by rw [HF.out]; rfl, by first | exact KW.out | exact eg ▸ KW.out⟩
 ·have HF : Hid (rr = false) := Bool.eq_false_iff.2 fun h => hA (HR.out.1 h).1
  go_enter Tryz.func124, Tryz.ntmps124
  go_upto_region 1 with fail
  rw [← eW]
  clear eW
  try rw [eg]
  go_wp2_with fail
  go_ret
  exact ⟨by rw [HF.out]; rfl, by first | exact KW.out | exact eg ▸ KW.out⟩
theorem rcontacts_c (tk nb nj gx gy : Int) (ob oj oc : Option Addr) (nB cb nJ cj nC cc : Nat) {B : List Bd} {C : List Ct} {w : World} (r : Bool) (hn : B.length = nB) (hmx : nB ≤ 1073741824) (hl : LsT encB 11 w ob B) (hup : (B.map (·.id)).Pairwise (· < ·)) (hnC : C.length = nC) (hmxC : nC ≤ 1073741824) (hlC : LsT encC 5 w oc C) (hr : r = true ↔ ContactsP B C) :
  Calls Tryz.prog 99 #[wdV tk nb nj gx gy (.slice ob nB cb) (.slice oj nJ cj) (.slice oc nC cc)] w fun e v => e = .returned (.bool r) ∧ Made w.heap.size w v := by
 obtain ⟨r2, hr2⟩ := a_bool (C.Pairwise LtC)
 have HR : Hid (r = true ↔ (∀ b ∈ C, contactB B b = true) ∧ r2 = true) := by
  unfold Hid
  rw [hr, hr2]
  exact ⟨fun h => ⟨fun b hb => (contactB_iff B b).2 (h.all b hb), h.up⟩, fun h => ⟨fun b hb => (contactB_iff B b).1 (h.1 b hb), h.2⟩⟩
 obtain ⟨W, eW⟩ : ∃ W, W = w.alloc (.cells #[.int .i64 tk, .int .i64 nb, .int .i64 nj, .int .i64 gx, .int .i64 gy, .slice ob nB cb, .slice oj nJ cj, .slice oc nC cc] 56) := ⟨_, rfl⟩
 have KW : Hid (Made w.heap.size w W) := by unfold Hid; rw [eW]; exact (Made.rfl_ _ _).cells (Nat.le_refl _) _ _
 have HB : Hid (Has W w.heap.size 56 #[.int .i64 tk, .int .i64 nb, .int .i64 nj, .int .i64 gx, .int .i64 gy, .slice ob nB cb, .slice oj nJ cj, .slice oc nC cc]) := by unfold Hid; rw [eW]; exact has_new _ _ _
 obtain ⟨g0, eg⟩ : ∃ g, w.heap.size = g := ⟨_, rfl⟩
 rw [eg] at HB
 have HE := hid (everyC_c 124 #[.pointer (some ⟨g0, 0, none⟩)] (by intro args w; rfl) Nil0 (fun _ _ => True) (qOf C (contactB B)) (c := cc) (w := W) hnC (by omega) (hlC.below KW.out.1) (fun _ => Offs.nil _) (fun b h => h.elim) (fun _ _ _ _ _ => trivial) trivial
  (fun i x u hx hu _ => by
   rw [qOf_at hx]
   have hu := hu.made
   exact (rc1_c tk nb nj gx gy ob oj oc nB cb nJ cj nC cc x g0 (HB.out.stays hu HB.out.here) hn hmx ((hl.below KW.out.1).below hu.1) hup).mono fun _ _ ⟨a, b⟩ => ⟨a, Made.but b, trivial⟩))
 have HNm := hid (fun v (k : Made W.heap.size W v) => ascend_c (c := cc) (w := v) r2 hnC hmxC ((hlC.below KW.out.1).below k.1) (hr2.trans (up_iff C)))
 have HN := hid hnC
 have b0 := HB.out.at_ 0
 have b1 := HB.out.at_ 1
 have b2 := HB.out.at_ 2
 have b3 := HB.out.at_ 3
 have b4 := HB.out.at_ 4
 have b5 := HB.out.at_ 5
 have b6 := HB.out.at_ 6
 have b7 := HB.out.at_ 7
 simp at b0 b1 b2 b3 b4 b5 b6 b7
 have l0 : g0 < W.heap.size := HB.out.here
 clear hn hl hup hnC hlC hr hr2
 go_enter Tryz.func99, Tryz.ntmps99
 go_upto_region 1 with fail
 rw [← eW]
 clear eW
 try rw [eg]
 go_wp2_with fail
 refine HE.out.mono ?_
 rintro e w1 ⟨q, rfl, k1, h⟩
 have k1 := k1.made
 have K1 := hid (KW.out.then_ (k1.low KW.out.1.size))
 have K1W := hid k1
 have HB1 := hid (HB.out.stays k1 HB.out.here)
 clear k1 b0 b1 b2 b3 b4 b5 b6 b7 l0
 have b0 := HB1.out.at_ 0
 have b1 := HB1.out.at_ 1
 have b2 := HB1.out.at_ 2
 have b3 := HB1.out.at_ 3
 have b4 := HB1.out.at_ 4
 have b5 := HB1.out.at_ 5
 have b6 := HB1.out.at_ 6
 have b7 := HB1.out.at_ 7
 simp at b0 b1 b2 b3 b4 b5 b6 b7
 have l0 : g0 < w1.heap.size := HB1.out.here
 rcases h with ⟨rfl, hall, _⟩ | ⟨rfl, hone⟩
 ·have HF : Hid (r = r2) := by
   unfold Hid
   rw [Bool.eq_iff_iff, HR.out]
   exact ⟨fun h => h.2, fun h => ⟨qOf_all HN.out hall, h⟩⟩
  clear hall
  go_wp2_with fail
  refine (HNm.out _ K1W.out).mono ?_
  rintro e w2 ⟨rfl, k2⟩
  have K2 := hid (K1.out.then_ (k2.low K1.out.1.size))
  clear k2 b0 b1 b2 b3 b4 b5 b6 b7 l0
  go_wp2_with fail
  go_ret
  exact ⟨by rw [HF.out]; rfl, by first | exact K2.out | exact eg ▸ K2.out⟩
 ·have HF : Hid (r = false) := Bool.eq_false_iff.2 fun h => qOf_one HN.out hone (HR.out.1 h).1
  clear hone
  go_wp2_with fail
  go_ret
  exact ⟨by rw [HF.out]; rfl, by first | exact K1.out | exact eg ▸ K1.out⟩
structure WorldP (tk nb nj gx gy : Int) (B : List Bd) (J : List Jt) (C : List Ct) : Prop where
 tk : 0 ≤ tk ∧ tk ≤ 4611686018427387904
 gx : Inn gx 17592186044416
 gy : Inn gy 17592186044416
 hB : BodiesP B nb
 hJ : JointsP B J nj
 hC : ContactsP B C
structure WdAt (w : World) (ob : Option Addr) (B : List Bd) (oj : Option Addr) (J : List Jt) (oc : Option Addr) (C : List Ct) : Prop where
 lB : LsT encB 11 w ob B
 lJ : LsT encJ 8 w oj J
 lC : LsT encC 5 w oc C
 sB : BdsIn w B
 iJ : ∀ j ∈ J, JtI j
 iC : ∀ c ∈ C, CtI c
theorem WdAt.kept {w v : World} {ob oj oc : Option Addr} {B : List Bd} {J : List Jt} {C : List Ct} (h : WdAt w ob B oj J oc C) (k : Made w.heap.size w v) : WdAt v ob B oj J oc C :=
 ⟨h.lB.below k.1, h.lJ.below k.1, h.lC.below k.1, h.sB.kept k, h.iJ, h.iC⟩
theorem wright_c (tk nb nj gx gy : Int) (ob oj oc : Option Addr) (nB cb nJ cj nC cc : Nat) {B : List Bd} {J : List Jt} {C : List Ct} {w : World} (r : Bool) (hn : B.length = nB) (hmx : nB ≤ 1073741824) (hnJ : J.length = nJ) (hmxJ : nJ ≤ 1073741824) (hnC : C.length = nC) (hmxC : nC ≤ 1073741824) (hW : WdAt w ob B oj J oc C) (ix : I64 gx) (iy : I64 gy) (hr : r = true ↔ WorldP tk nb nj gx gy B J C) :
  Calls Tryz.prog 68 #[wdV tk nb nj gx gy (.slice ob nB cb) (.slice oj nJ cj) (.slice oc nC cc)] w fun e v => e = .returned (.bool r) ∧ Made w.heap.size w v := by
 obtain ⟨c0, h0⟩ := a_bool (Inn gx 17592186044416 ∧ Inn gy 17592186044416)
 obtain ⟨c1, h1⟩ := a_bool (BodiesP B nb)
 obtain ⟨c2, h2⟩ := a_bool (JointsP B J nj)
 obtain ⟨c3, h3⟩ := a_bool (ContactsP B C)
 have HR : Hid (r = true ↔ (((((0 ≤ tk ∧ tk ≤ 4611686018427387904) ∧ c0 = true) ∧ c1 = true) ∧ c2 = true) ∧ c3 = true)) := by
  unfold Hid
  rw [hr, h0, h1, h2, h3]
  exact ⟨fun h => ⟨⟨⟨⟨h.tk, h.gx, h.gy⟩, h.hB⟩, h.hJ⟩, h.hC⟩, fun h => ⟨h.1.1.1.1, h.1.1.1.2.1, h.1.1.1.2.2, h.1.1.2, h.1.2, h.2⟩⟩
 have up : Hid (c1 = true → (B.map (·.id)).Pairwise (· < ·)) := fun h => (h1.1 h).num.2.2.1
 have H0 := hid (fun v => within_c gx gy 17592186044416 c0 v ix iy (by omega) (by omega) h0)
 obtain ⟨W, eW⟩ : ∃ W, W = w.alloc (.cells #[.int .i64 tk, .int .i64 nb, .int .i64 nj, .int .i64 gx, .int .i64 gy, .slice ob nB cb, .slice oj nJ cj, .slice oc nC cc] 56) := ⟨_, rfl⟩
 have KW : Hid (Made w.heap.size w W) := by unfold Hid; rw [eW]; exact (Made.rfl_ _ _).cells (Nat.le_refl _) _ _
 have HB : Hid (Has W w.heap.size 56 #[.int .i64 tk, .int .i64 nb, .int .i64 nj, .int .i64 gx, .int .i64 gy, .slice ob nB cb, .slice oj nJ cj, .slice oc nC cc]) := by unfold Hid; rw [eW]; exact has_new _ _ _
 obtain ⟨g0, eg⟩ : ∃ g, w.heap.size = g := ⟨_, rfl⟩
 rw [eg] at HB
 have H1 := hid (fun v (k : Made w.heap.size w v) => rbodies_c tk nb nj gx gy ob oj oc nB cb nJ cj nC cc c1 hn hmx (hW.kept k).lB (hW.kept k).sB h1)
 have H2 := hid (fun v (k : Made w.heap.size w v) (h : c1 = true) => rjoints_c tk nb nj gx gy ob oj oc nB cb nJ cj nC cc c2 hn hmx (hW.kept k).lB (up.out h) hnJ hmxJ (hW.kept k).lJ hW.iJ h2)
 have H3 := hid (fun v (k : Made w.heap.size w v) (h : c1 = true) => rcontacts_c tk nb nj gx gy ob oj oc nB cb nJ cj nC cc c3 hn hmx (hW.kept k).lB (up.out h) hnC hmxC (hW.kept k).lC h3)
 have b0 := HB.out.at_ 0
 have b1 := HB.out.at_ 1
 have b2 := HB.out.at_ 2
 have b3 := HB.out.at_ 3
 have b4 := HB.out.at_ 4
 have b5 := HB.out.at_ 5
 have b6 := HB.out.at_ 6
 have b7 := HB.out.at_ 7
 simp at b0 b1 b2 b3 b4 b5 b6 b7
 have l0 : g0 < W.heap.size := HB.out.here
 clear hn hnJ hnC hW ix iy hr h0 h1 h2 h3 up
 by_cases hA : 0 ≤ tk
 ·by_cases hB : tk ≤ 4611686018427387904
  ·go_enter Tryz.func68, Tryz.ntmps68
   go_upto_region 1 with fail
   rw [← eW]
   clear eW
   try rw [eg]
   go_wp2_with fail
   refine (H0.out _).mono ?_
   rintro e w1 ⟨rfl, k1⟩
   have K1 := hid (KW.out.then_ (k1.low KW.out.1.size))
   have HB1 := hid (HB.out.stays k1 HB.out.here)
   clear k1 b0 b1 b2 b3 b4 b5 b6 b7 l0
   have b0 := HB1.out.at_ 0
   have b1 := HB1.out.at_ 1
   have b2 := HB1.out.at_ 2
   have b3 := HB1.out.at_ 3
   have b4 := HB1.out.at_ 4
   have b5 := HB1.out.at_ 5
   have b6 := HB1.out.at_ 6
   have b7 := HB1.out.at_ 7
   simp at b0 b1 b2 b3 b4 b5 b6 b7
   have l0 : g0 < w1.heap.size := HB1.out.here
   cases c0 with
   | false =>
    have HF : Hid (r = false) := Bool.eq_false_iff.2 fun h => by have := HR.out.1 h; simp at this
    go_wp2_with fail
    go_ret
    exact ⟨by rw [HF.out]; rfl, by first | exact K1.out | exact eg ▸ K1.out⟩
   | true =>
    go_wp2_with fail
    refine (H1.out _ K1.out).mono ?_
    rintro e w2 ⟨rfl, k2⟩
    have K2 := hid (K1.out.then_ (k2.low K1.out.1.size))
    have HB2 := hid (HB1.out.stays k2 HB1.out.here)
    clear k2 b0 b1 b2 b3 b4 b5 b6 b7 l0
    have b0 := HB2.out.at_ 0
    have b1 := HB2.out.at_ 1
    have b2 := HB2.out.at_ 2
    have b3 := HB2.out.at_ 3
    have b4 := HB2.out.at_ 4
    have b5 := HB2.out.at_ 5
    have b6 := HB2.out.at_ 6
    have b7 := HB2.out.at_ 7
    simp at b0 b1 b2 b3 b4 b5 b6 b7
    have l0 : g0 < w2.heap.size := HB2.out.here
    cases c1 with
    | false =>
     have HF : Hid (r = false) := Bool.eq_false_iff.2 fun h => by have := HR.out.1 h; simp at this
     go_wp2_with fail
     go_ret
     exact ⟨by rw [HF.out]; rfl, by first | exact K2.out | exact eg ▸ K2.out⟩
    | true =>
     go_wp2_with fail
     refine (H2.out _ K2.out (by simp)).mono ?_
     rintro e w3 ⟨rfl, k3⟩
     have K3 := hid (K2.out.then_ (k3.low K2.out.1.size))
     have HB3 := hid (HB2.out.stays k3 HB2.out.here)
     clear k3 b0 b1 b2 b3 b4 b5 b6 b7 l0
     have b0 := HB3.out.at_ 0
     have b1 := HB3.out.at_ 1
     have b2 := HB3.out.at_ 2
     have b3 := HB3.out.at_ 3
     have b4 := HB3.out.at_ 4
     have b5 := HB3.out.at_ 5
     have b6 := HB3.out.at_ 6
     have b7 := HB3.out.at_ 7
     simp at b0 b1 b2 b3 b4 b5 b6 b7
     have l0 : g0 < w3.heap.size := HB3.out.here
     cases c2 with
     | false =>
      have HF : Hid (r = false) := Bool.eq_false_iff.2 fun h => by have := HR.out.1 h; simp at this
      go_wp2_with fail
      go_ret
      exact ⟨by rw [HF.out]; rfl, by first | exact K3.out | exact eg ▸ K3.out⟩
     | true =>
      go_wp2_with fail
      refine (H3.out _ K3.out (by simp)).mono ?_
      rintro e w4 ⟨rfl, k4⟩
      have K4 := hid (K3.out.then_ (k4.low K3.out.1.size))
      clear k4 b0 b1 b2 b3 b4 b5 b6 b7 l0
      have HF : Hid (r = c3) := by unfold Hid; rw [Bool.eq_iff_iff, HR.out]; simp [hA, hB]
      go_wp2_with fail
      go_ret
      exact ⟨by rw [HF.out]; rfl, by first | exact K4.out | exact eg ▸ K4.out⟩
  ·have HF : Hid (r = false) := Bool.eq_false_iff.2 fun h => hB (HR.out.1 h).1.1.1.1.2
   go_enter Tryz.func68, Tryz.ntmps68
   go_upto_region 1 with fail
   rw [← eW]
   clear eW
   try rw [eg]
   go_wp2_with fail
   go_ret
   exact ⟨by rw [HF.out]; rfl, by first | exact KW.out | exact eg ▸ KW.out⟩
 ·have HF : Hid (r = false) := Bool.eq_false_iff.2 fun h => hA (HR.out.1 h).1.1.1.1.1
  go_enter Tryz.func68, Tryz.ntmps68
  go_upto_region 1 with fail
  rw [← eW]
  clear eW
  try rw [eg]
  go_wp2_with fail
  go_ret
  exact ⟨by rw [HF.out]; rfl, by first | exact KW.out | exact eg ▸ KW.out⟩
end Go.Proofs.YtgdcphmmehedoaaGreat.Fx