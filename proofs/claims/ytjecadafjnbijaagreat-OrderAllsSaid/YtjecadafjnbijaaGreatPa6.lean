/- WoR Fls -/
import Derived.Test.YtjecadafjnbijaaGreatPa0
import Derived.Test.YtjecadafjnbijaaGreatPa5
set_option maxRecDepth 100000
set_option maxHeartbeats 64000000
/- What may be: rightBodies, rightJoints, rightContacts, Right. -/
namespace Go.Proofs.YtjecadafjnbijaaGreat.Fx
open Go.ChangeShapes Go.WideShapes Go.ChangeAt Go.RowKit
set_option linter.unusedVariables false
noncomputable def bodyB (b : Bd) : Bool := @decide (BodyP b) (Classical.propDecidable _)
theorem bodyB_iff (b : Bd) : bodyB b = true ↔ BodyP b := by unfold bodyB; exact @decide_eq_true_iff _ (Classical.propDecidable _)
def qOf {α : Type} (l : List α) (p : α → Bool) (i : Nat) : Bool := match l[i]? with | some x => p x | none => true
theorem qOf_at {α : Type} {l : List α} {p : α → Bool} {i : Nat} {x : α} (h : l[i]? = some x) : qOf l p i = p x := by unfold qOf; rw [h]
theorem qOf_all {α : Type} {l : List α} {p : α → Bool} {n : Nat} (hn : l.length = n) (h : ∀ i, i < n → qOf l p i = true) : ∀ x ∈ l, p x = true := by
 intro x hx
 obtain ⟨i, hi⟩ := List.mem_iff_getElem?.1 hx
 have := h i (by rw [← hn]; exact (List.getElem?_eq_some_iff.1 hi).1)
 rwa [qOf_at hi] at this
theorem qOf_one {α : Type} {l : List α} {p : α → Bool} {n : Nat} (hn : l.length = n) (h : ∃ i, i < n ∧ qOf l p i = false) : ¬ ∀ x ∈ l, p x = true := by
 obtain ⟨i, hi, h⟩ := h
 intro hall
 have hx : l[i]? = some l[i] := List.getElem?_eq_getElem (by rw [hn]; exact hi)
 rw [qOf_at hx] at h
 rw [hall _ (List.mem_of_getElem? hx)] at h
 cases h
def BdsIn (w : World) (B : List Bd) : Prop := ∀ b ∈ B, Sl w b.ao b.n b.f ∧ BdI b
theorem BdsIn.kept {w v : World} {B : List Bd} (h : BdsIn w B) (k : Made w.heap.size w v) : BdsIn v B := fun b hb => ⟨fun hn => by
 obtain ⟨g, off, e, hp⟩ := (h b hb).1 hn
 exact ⟨g, off, e, hp.kept k⟩, (h b hb).2⟩
theorem rbodies_c (tk nb nj gx gy : Int) (ob oj oc : Option Addr) (nB cb nJ cj nC cc : Nat) {B : List Bd} {w : World} (r : Bool) (hn : B.length = nB) (hmx : nB ≤ 1073741824) (hl : LsT encB 11 w ob B) (hs : BdsIn w B) (hr : r = true ↔ BodiesP B nb) :
  Calls Tryz.prog 32 #[wdV tk nb nj gx gy (.slice ob nB cb) (.slice oj nJ cj) (.slice oc nC cc)] w fun e v => e = .returned (.bool r) ∧ Made w.heap.size w v := by
 obtain ⟨r2, hr2⟩ := a_bool (NumP (B.map (·.id)) nb)
 have HR2 := hid hr2
 have HR : Hid (r = true ↔ B.length ≤ 1024 ∧ (∀ b ∈ B, bodyB b = true) ∧ r2 = true) := by
  unfold Hid
  rw [hr, hr2]
  exact ⟨fun h => ⟨h.len, fun b hb => (bodyB_iff b).2 (h.all b hb), h.num⟩, fun h => ⟨h.1, fun b hb => (bodyB_iff b).1 (h.2.1 b hb), h.2.2⟩⟩
 obtain ⟨W, eW⟩ : ∃ W, W = w.alloc (.cells #[.int .i64 tk, .int .i64 nb, .int .i64 nj, .int .i64 gx, .int .i64 gy, .slice ob nB cb, .slice oj nJ cj, .slice oc nC cc] 42) := ⟨_, rfl⟩
 have KW : Hid (Made w.heap.size w W) := by unfold Hid; rw [eW]; exact (Made.rfl_ _ _).cells (Nat.le_refl _) _ _
 have HB : Hid (Has W w.heap.size 42 #[.int .i64 tk, .int .i64 nb, .int .i64 nj, .int .i64 gx, .int .i64 gy, .slice ob nB cb, .slice oj nJ cj, .slice oc nC cc]) := by unfold Hid; rw [eW]; exact has_new _ _ _
 obtain ⟨g0, eg⟩ : ∃ g, w.heap.size = g := ⟨_, rfl⟩
 rw [eg] at HB
 have HE := hid (everyB_c 45 #[] (by intro args w; rfl) Nil0 (fun _ _ => True) (qOf B bodyB) (c := cb) (w := W) hn (by omega) (hl.below KW.out.1) (fun _ => Offs.nil _) (fun b h => h.elim) (fun _ _ _ _ _ => trivial) trivial
  (fun i x u hx hu _ => by
   rw [qOf_at hx]
   obtain ⟨h1, h2⟩ := (hs.kept KW.out).kept hu.made x (List.mem_of_getElem? hx)
   exact (rbody_c x.id x.x x.y x.vx x.vy x.an x.sp x.de x.k x.r x.ao x.n x.c x.f (bodyB x) u h1 h2 (bodyB_iff x)).mono fun _ _ ⟨a, b⟩ => ⟨a, Made.but b, trivial⟩))
 have HNm := hid (fun v (k : Made W.heap.size W v) => numB_c (c := cb) (w := v) nb r2 hn hmx ((hl.below KW.out.1).below k.1) hr2)
 have HN := hid hn
 have b0 := HB.out.at_ 0
 have b1 := HB.out.at_ 1
 have b2 := HB.out.at_ 2
 have b3 := HB.out.at_ 3
 have b4 := HB.out.at_ 4
 have b5 := HB.out.at_ 5
 have b6 := HB.out.at_ 6
 have b7 := HB.out.at_ 7
 simp at b0 b1 b2 b3 b4 b5 b6 b7
 have l0 : g0 < W.heap.size := HB.out.here
 clear hn hl hs hr hr2
 by_cases hA : nB ≤ 1024
 ·go_enter Tryz.func32, Tryz.ntmps32
  go_upto_region 1 with fail
  rw [← eW]
  clear eW
  try rw [eg]
  go_wp2_with fail
  refine HE.out.mono ?_
  rintro e w1 ⟨q, rfl, k1, h⟩
  have k1 := k1.made
  have K1 := hid (KW.out.then_ (k1.low KW.out.1.size))
  have K1W := hid k1
  have HB1 := hid (HB.out.stays k1 HB.out.here)
  clear k1 b0 b1 b2 b3 b4 b5 b6 b7 l0
  have b0 := HB1.out.at_ 0
  have b1 := HB1.out.at_ 1
  have b2 := HB1.out.at_ 2
  have b3 := HB1.out.at_ 3
  have b4 := HB1.out.at_ 4
  have b5 := HB1.out.at_ 5
  have b6 := HB1.out.at_ 6
  have b7 := HB1.out.at_ 7
  simp at b0 b1 b2 b3 b4 b5 b6 b7
  have l0 : g0 < w1.heap.size := HB1.out.here
  rcases h with ⟨rfl, hall, _⟩ | ⟨rfl, hone⟩
  ·have HF : Hid (r = r2) := by
    unfold Hid
    rw [Bool.eq_iff_iff, HR.out]
    exact ⟨fun h => h.2.2, fun h => ⟨by rw [HN.out]; exact hA, qOf_all HN.out hall, h⟩⟩
   clear hall
   go_wp2_with fail
   refine (HNm.out _ K1W.out).mono ?_
   rintro e w2 ⟨rfl, k2⟩
   have K2 := hid (K1.out.then_ (k2.low K1.out.1.size))
   clear k2 b0 b1 b2 b3 b4 b5 b6 b7 l0
   go_wp2_with fail
   go_ret
   exact ⟨by rw [HF.out]; rfl, by first | exact K2.out | exact eg ▸ K2.out⟩
  ·have HF : Hid (r = false) := Bool.eq_false_iff.2 fun h => qOf_one HN.out hone (HR.out.1 h).2.1
   clear hone
   go_wp2_with fail
   go_ret
   exact ⟨by rw [HF.out]; rfl, by first | exact K1.out | exact eg ▸ K1.out⟩
 ·have HF : Hid (r = false) := Bool.eq_false_iff.2 fun h => hA (by rw [← HN.out]; exact (HR.out.1 h).1)
  go_enter Tryz.func32, Tryz.ntmps32
  go_upto_region 1 with fail
  rw [← eW]
  clear eW
  try rw [eg]
  go_wp2_with fail
  go_ret
  exact ⟨by rw [HF.out]; rfl, by first | exact KW.out | exact eg ▸ KW.out⟩
noncomputable def jointB (B : List Bd) (j : Jt) : Bool := @decide (JointP j ∧ j.a ∈ B.map (·.id) ∧ j.b ∈ B.map (·.id)) (Classical.propDecidable _)
theorem jointB_iff (B : List Bd) (j : Jt) : jointB B j = true ↔ JointP j ∧ j.a ∈ B.map (·.id) ∧ j.b ∈ B.map (·.id) := by unfold jointB; exact @decide_eq_true_iff _ (Classical.propDecidable _)
theorem rj1_c (tk nb nj gx gy : Int) (ob oj oc : Option Addr) (nB cb nJ cj nC cc : Nat) {B : List Bd} {u : World} (j : Jt) (gw : Nat) (hi : JtI j) (hH : Has u gw 42 #[.int .i64 tk, .int .i64 nb, .int .i64 nj, .int .i64 gx, .int .i64 gy, .slice ob nB cb, .slice oj nJ cj, .slice oc nC cc]) (hn : B.length = nB) (hmx : nB ≤ 1073741824) (hl : LsT encB 11 u ob B) (hup : (B.map (·.id)).Pairwise (· < ·)) :
  Calls Tryz.prog 55 #[jtV j, .pointer (some ⟨gw, 0, none⟩)] u fun e v => e = .returned (.bool (jointB B j)) ∧ Made u.heap.size u v := by
 obtain ⟨c1, h1⟩ := a_bool (JointP j)
 obtain ⟨c2, h2⟩ := a_bool (j.a ∈ B.map (·.id) ∧ j.b ∈ B.map (·.id))
 have HR : Hid (jointB B j = (c1 && c2)) := by unfold Hid; rw [Bool.eq_iff_iff, jointB_iff, Bool.and_eq_true, h1, h2]
 have HJ := hid (fun v => rjoint_c j c1 v hi h1)
 have HX := hid (fun v (k : Made u.heap.size u v) => exist_c tk nb nj gx gy oj oc nJ cj nC cc (c := cb) j.a j.b c2 hn hmx (hl.below k.1) hup h2)
 generalize jointB B j = rr at HR ⊢
 obtain ⟨x0, x1, x2, x3, x4, x5, x6, x7⟩ := j
 simp only [] at HX
 have l0 : gw < u.heap.size := hH.here
 obtain ⟨W, eW⟩ : ∃ W, W = u.alloc (.cells #[.int .i64 x0, .int .i64 x1, .int .i64 x2, .int .i64 x3, .int .i64 x4, .int .i64 x5, .int .i64 x6, .int .i64 x7] 68) := ⟨_, rfl⟩
 have KW : Hid (Made u.heap.size u W) := by unfold Hid; rw [eW]; exact (Made.rfl_ _ _).cells (Nat.le_refl _) _ _
 have HJB : Hid (Has W u.heap.size 68 #[.int .i64 x0, .int .i64 x1, .int .i64 x2, .int .i64 x3, .int .i64 x4, .int .i64 x5, .int .i64 x6, .int .i64 x7]) := by unfold Hid; rw [eW]; exact has_new _ _ _
 have HB := hid (hH.stays KW.out l0)
 obtain ⟨g0, eg⟩ : ∃ g, u.heap.size = g := ⟨_, rfl⟩
 rw [eg] at HJB
 have d0 := HJB.out.at_ 0
 have d1 := HJB.out.at_ 1
 have d2 := HJB.out.at_ 2
 have d3 := HJB.out.at_ 3
 have d4 := HJB.out.at_ 4
 have d5 := HJB.out.at_ 5
 have d6 := HJB.out.at_ 6
 have d7 := HJB.out.at_ 7
 simp at d0 d1 d2 d3 d4 d5 d6 d7
 have l1 : g0 < W.heap.size := HJB.out.here
 clear hi hH hn hl hup h1 h2
 go_enter Tryz.func55, Tryz.ntmps55
 go_upto_region 1 with fail
 rw [← eW]
 clear eW
 try rw [eg]
 go_wp2_with fail
 refine (HJ.out _).mono ?_
 rintro e w1 ⟨rfl, k1⟩
 have K1 := hid (KW.out.then_ (k1.low KW.out.1.size))
 have HB1 := hid (HB.out.stays k1 HB.out.here)
 have HJ1 := hid (HJB.out.stays k1 HJB.out.here)
 clear k1 d0 d1 d2 d3 d4 d5 d6 d7 l0 l1
 have b0 := HB1.out.at_ 0
 have b1 := HB1.out.at_ 1
 have b2 := HB1.out.at_ 2
 have b3 := HB1.out.at_ 3
 have b4 := HB1.out.at_ 4
 have b5 := HB1.out.at_ 5
 have b6 := HB1.out.at_ 6
 have b7 := HB1.out.at_ 7
 simp at b0 b1 b2 b3 b4 b5 b6 b7
 have d0 := HJ1.out.at_ 0
 have d1 := HJ1.out.at_ 1
 have d2 := HJ1.out.at_ 2
 have d3 := HJ1.out.at_ 3
 have d4 := HJ1.out.at_ 4
 have d5 := HJ1.out.at_ 5
 have d6 := HJ1.out.at_ 6
 have d7 := HJ1.out.at_ 7
 simp at d0 d1 d2 d3 d4 d5 d6 d7
 have l0 : gw < w1.heap.size := HB1.out.here
 have l1 : g0 < w1.heap.size := HJ1.out.here
 cases c1 with
 | true =>
  go_wp2_with fail
  refine (HX.out _ K1.out).mono ?_
  rintro e w2 ⟨rfl, k2⟩
  have K2 := hid (K1.out.then_ (k2.low K1.out.1.size))
  clear k2 b0 b1 b2 b3 b4 b5 b6 b7 d0 d1 d2 d3 d4 d5 d6 d7 l0 l1
  go_wp2_with fail
  go_ret
  exact ⟨by rw [HR.out]; rfl, by first | exact K2.out | exact eg ▸ K2.out⟩
 | false =>
  go_wp2_with fail
  go_ret
  exact ⟨by rw [HR.out]; rfl, by first | exact K1.out | exact eg ▸ K1.out⟩
theorem rjoints_c (tk nb nj gx gy : Int) (ob oj oc : Option Addr) (nB cb nJ cj nC cc : Nat) {B : List Bd} {J : List Jt} {w : World} (r : Bool) (hn : B.length = nB) (hmx : nB ≤ 1073741824) (hl : LsT encB 11 w ob B) (hup : (B.map (·.id)).Pairwise (· < ·)) (hnJ : J.length = nJ) (hmxJ : nJ ≤ 1073741824) (hlJ : LsT encJ 8 w oj J) (hiJ : ∀ j ∈ J, JtI j) (hr : r = true ↔ JointsP B J nj) :
  Calls Tryz.prog 33 #[wdV tk nb nj gx gy (.slice ob nB cb) (.slice oj nJ cj) (.slice oc nC cc)] w fun e v => e = .returned (.bool r) ∧ Made w.heap.size w v := by
 obtain ⟨r2, hr2⟩ := a_bool (NumP (J.map (·.id)) nj)
 have HR2 := hid hr2
 have HR : Hid (r = true ↔ J.length ≤ 1024 ∧ (∀ b ∈ J, jointB B b = true) ∧ r2 = true) := by
  unfold Hid
  rw [hr, hr2]
  exact ⟨fun h => ⟨h.len, fun b hb => (jointB_iff B b).2 (h.all b hb), h.num⟩, fun h => ⟨h.1, fun b hb => (jointB_iff B b).1 (h.2.1 b hb), h.2.2⟩⟩
 obtain ⟨W, eW⟩ : ∃ W, W = w.alloc (.cells #[.int .i64 tk, .int .i64 nb, .int .i64 nj, .int .i64 gx, .int .i64 gy, .slice ob nB cb, .slice oj nJ cj, .slice oc nC cc] 42) := ⟨_, rfl⟩
 have KW : Hid (Made w.heap.size w W) := by unfold Hid; rw [eW]; exact (Made.rfl_ _ _).cells (Nat.le_refl _) _ _
 have HB : Hid (Has W w.heap.size 42 #[.int .i64 tk, .int .i64 nb, .int .i64 nj, .int .i64 gx, .int .i64 gy, .slice ob nB cb, .slice oj nJ cj, .slice oc nC cc]) := by unfold Hid; rw [eW]; exact has_new _ _ _
 obtain ⟨g0, eg⟩ : ∃ g, w.heap.size = g := ⟨_, rfl⟩
 rw [eg] at HB
 have HE := hid (everyJ_c 55 #[.pointer (some ⟨g0, 0, none⟩)] (by intro args w; rfl) Nil0 (fun _ _ => True) (qOf J (jointB B)) (c := cj) (w := W) hnJ (by omega) (hlJ.below KW.out.1) (fun _ => Offs.nil _) (fun b h => h.elim) (fun _ _ _ _ _ => trivial) trivial
  (fun i x u hx hu _ => by
   rw [qOf_at hx]
   have hu := hu.made
   exact (rj1_c tk nb nj gx gy ob oj oc nB cb nJ cj nC cc x g0 (hiJ x (List.mem_of_getElem? hx)) (HB.out.stays hu HB.out.here) hn hmx ((hl.below KW.out.1).below hu.1) hup).mono fun _ _ ⟨a, b⟩ => ⟨a, Made.but b, trivial⟩))
 have HNm := hid (fun v (k : Made W.heap.size W v) => numJ_c (c := cj) (w := v) nj r2 hnJ hmxJ ((hlJ.below KW.out.1).below k.1) hr2)
 have HN := hid hnJ
 have b0 := HB.out.at_ 0
 have b1 := HB.out.at_ 1
 have b2 := HB.out.at_ 2
 have b3 := HB.out.at_ 3
 have b4 := HB.out.at_ 4
 have b5 := HB.out.at_ 5
 have b6 := HB.out.at_ 6
 have b7 := HB.out.at_ 7
 simp at b0 b1 b2 b3 b4 b5 b6 b7
 have l0 : g0 < W.heap.size := HB.out.here
 clear hn hl hup hnJ hlJ hiJ hr hr2
 by_cases hA : nJ ≤ 1024
 ·go_enter Tryz.func33, Tryz.ntmps33
  go_upto_region 1 with fail
  rw [← eW]
  clear eW
  try rw [eg]
  go_wp2_with fail
  refine HE.out.mono ?_
  rintro e w1 ⟨q, rfl, k1, h⟩
  have k1 := k1.made
  have K1 := hid (KW.out.then_ (k1.low KW.out.1.size))
  have K1W := hid k1
  have HB1 := hid (HB.out.stays k1 HB.out.here)
  clear k1 b0 b1 b2 b3 b4 b5 b6 b7 l0
  have b0 := HB1.out.at_ 0
  have b1 := HB1.out.at_ 1
  have b2 := HB1.out.at_ 2
  have b3 := HB1.out.at_ 3
  have b4 := HB1.out.at_ 4
  have b5 := HB1.out.at_ 5
  have b6 := HB1.out.at_ 6
  have b7 := HB1.out.at_ 7
  simp at b0 b1 b2 b3 b4 b5 b6 b7
  have l0 : g0 < w1.heap.size := HB1.out.here
  rcases h with ⟨rfl, hall, _⟩ | ⟨rfl, hone⟩
  ·have HF : Hid (r = r2) := by
    unfold Hid
    rw [Bool.eq_iff_iff, HR.out]
    exact ⟨fun h => h.2.2, fun h => ⟨by rw [HN.out]; exact hA, qOf_all HN.out hall, h⟩⟩
   clear hall
   go_wp2_with fail
   refine (HNm.out _ K1W.out).mono ?_
   rintro e w2 ⟨rfl, k2⟩
   have K2 := hid (K1.out.then_ (k2.low K1.out.1.size))
   clear k2 b0 b1 b2 b3 b4 b5 b6 b7 l0
   go_wp2_with fail
   go_ret
   exact ⟨by rw [HF.out]; rfl, by first | exact K2.out | exact eg ▸ K2.out⟩
  ·have HF : Hid (r = false) := Bool.eq_false_iff.2 fun h => qOf_one HN.out hone (HR.out.1 h).2.1
   clear hone
   go_wp2_with fail
   go_ret
   exact ⟨by rw [HF.out]; rfl, by first | exact K1.out | exact eg ▸ K1.out⟩
 ·have HF : Hid (r = false) := Bool.eq_false_iff.2 fun h => hA (by rw [← HN.out]; exact (HR.out.1 h).1)
  go_enter Tryz.func33, Tryz.ntmps33
  go_upto_region 1 with fail
  rw [← eW]
  clear eW
  try rw [eg]
  go_wp2_with fail
  go_ret
  exact ⟨by rw [HF.out]; rfl, by first | exact KW.out | exact eg ▸ KW.out⟩
def CtP (B : List Bd) (c : Ct) : Prop := c.a < c.b ∧ 0 ≤ c.key ∧ 0 ≤ c.n ∧ c.a ∈ B.map (·.id) ∧ c.b ∈ B.map (·.id)
noncomputable def contactB (B : List Bd) (c : Ct) : Bool := @decide (CtP B c) (Classical.propDecidable _)
theorem contactB_iff (B : List Bd) (c : Ct) : contactB B c = true ↔ CtP B c := by unfold contactB; exact @decide_eq_true_iff _ (Classical.propDecidable _)
theorem LtC.trans {x y z : Ct} (h : LtC x y) (k : LtC y z) : LtC x z := by unfold LtC at *; omega
theorem up_iff (C : List Ct) : C.Pairwise LtC ↔ ∀ i x y, C[i]? = some x → C[i + 1]? = some y → LtC x y := by
 constructor
 ·intro h i x y hx hy
  have := List.pairwise_iff_getElem.1 h i (i + 1) (List.getElem?_eq_some_iff.1 hx).1 (List.getElem?_eq_some_iff.1 hy).1 (by omega)
  simpa [(List.getElem?_eq_some_iff.1 hx).2, (List.getElem?_eq_some_iff.1 hy).2] using this
 ·intro h
  have up : ∀ j i (hj : j < C.length) (hij : i < j), LtC (C[i]'(by omega)) C[j] := by
   intro j
   induction j with
   | zero => intro i hj hij; omega
   | succ j ih =>
    intro i hj hij
    have a := h j _ _ (List.getElem?_eq_getElem (by omega)) (List.getElem?_eq_getElem hj)
    rcases Nat.lt_or_ge i j with hh | hh
    ·exact (ih i (by omega) hh).trans a
    ·have e : i = j := by omega
     subst e; exact a
  exact List.pairwise_iff_getElem.2 fun i j hi hj hij => up j i hj hij
theorem rc1_c (tk nb nj gx gy : Int) (ob oj oc : Option Addr) (nB cb nJ cj nC cc : Nat) {B : List Bd} {u : World} (c : Ct) (gw : Nat) (hH : Has u gw 42 #[.int .i64 tk, .int .i64 nb, .int .i64 nj, .int .i64 gx, .int .i64 gy, .slice ob nB cb, .slice oj nJ cj, .slice oc nC cc]) (hn : B.length = nB) (hmx : nB ≤ 1073741824) (hl : LsT encB 11 u ob B) (hup : (B.map (·.id)).Pairwise (· < ·)) :
  Calls Tryz.prog 60 #[ctV c, .pointer (some ⟨gw, 0, none⟩)] u fun e v => e = .returned (.bool (contactB B c)) ∧ Made u.heap.size u v := by
 obtain ⟨c2, h2⟩ := a_bool (c.a ∈ B.map (·.id) ∧ c.b ∈ B.map (·.id))
 have HR : Hid (contactB B c = true ↔ c.a < c.b ∧ 0 ≤ c.key ∧ 0 ≤ c.n ∧ c2 = true) := by unfold Hid; rw [contactB_iff, h2]; exact Iff.rfl
 have HX := hid (fun v (k : Made u.heap.size u v) => exist_c tk nb nj gx gy oj oc nJ cj nC cc (c := cb) c.a c.b c2 hn hmx (hl.below k.1) hup h2)
 generalize contactB B c = rr at HR ⊢
 obtain ⟨x0, x1, x2, x3, x4⟩ := c
 simp only [] at HX HR
 have l0 : gw < u.heap.size := hH.here
 obtain ⟨W, eW⟩ : ∃ W, W = u.alloc (.cells #[.int .i64 x0, .int .i64 x1, .int .i64 x2, .int .i64 x3, .int .i64 x4] 71) := ⟨_, rfl⟩
 have KW : Hid (Made u.heap.size u W) := by unfold Hid; rw [eW]; exact (Made.rfl_ _ _).cells (Nat.le_refl _) _ _
 have HJB : Hid (Has W u.heap.size 71 #[.int .i64 x0, .int .i64 x1, .int .i64 x2, .int .i64 x3, .int .i64 x4]) := by unfold Hid; rw [eW]; exact has_new _ _ _
 have HB := hid (hH.stays KW.out l0)
 obtain ⟨g0, eg⟩ : ∃ g, u.heap.size = g := ⟨_, rfl⟩
 rw [eg] at HJB
 have d0 := HJB.out.at_ 0
 have d1 := HJB.out.at_ 1
 have d2 := HJB.out.at_ 2
 have d3 := HJB.out.at_ 3
 have d4 := HJB.out.at_ 4
 simp at d0 d1 d2 d3 d4
 have b0 := HB.out.at_ 0
 have b1 := HB.out.at_ 1
 have b2 := HB.out.at_ 2
 have b3 := HB.out.at_ 3
 have b4 := HB.out.at_ 4
 have b5 := HB.out.at_ 5
 have b6 := HB.out.at_ 6
 have b7 := HB.out.at_ 7
 simp at b0 b1 b2 b3 b4 b5 b6 b7
 have l1 : g0 < W.heap.size := HJB.out.here
 have l2 : gw < W.heap.size := HB.out.here
 clear hH hn hl hup h2
 by_cases hA : x0 < x1
 ·by_cases hB : 0 ≤ x2
  ·by_cases hC : 0 ≤ x3
   ·have HF : Hid (rr = c2) := by unfold Hid; rw [Bool.eq_iff_iff, HR.out]; exact ⟨fun h => h.2.2.2, fun h => ⟨hA, hB, hC, h⟩⟩
    go_enter Tryz.func60, Tryz.ntmps60
    go_upto_region 1 with fail
    rw [← eW]
    clear eW
    try rw [eg]
    go_wp2_with fail
    refine (HX.out _ KW.out).mono ?_
    rintro e w2 ⟨rfl, k2⟩
    have K2 := hid (KW.out.then_ (k2.low KW.out.1.size))
    clear k2 b0 b1 b2 b3 b4 b5 b6 b7 d0 d1 d2 d3 d4 l0 l1 l2
    go_wp2_with fail
    go_ret
    exact ⟨by rw [HF.out]; rfl, by first | exact K2.out | exact eg ▸ K2.out⟩
   ·have HF : Hid (rr = false) := Bool.eq_false_iff.2 fun h => hC (HR.out.1 h).2.2.1
    go_enter Tryz.func60, Tryz.ntmps60
    go_upto_region 1 with fail
    rw [← eW]
    clear eW
    try rw [eg]
    go_wp2_with fail
    go_ret
    exact ⟨by rw [HF.out]; rfl, by first | exact KW.out | exact eg ▸ KW.out⟩
  ·have HF : Hid (rr = false) := Bool.eq_false_iff.2 fun h => hB (HR.out.1 h).2.1
   go_enter Tryz.func60, Tryz.ntmps60
   go_upto_region 1 with fail
   rw [← eW]
   clear eW
   try rw [eg]
   go_wp2_with fail
   go_ret
   exact ⟨by rw [HF.out]; rfl, by first | exact KW.out | exact eg ▸ KW.out⟩
 ·have HF : Hid (rr = false) := Bool.eq_false_iff.2 fun h => hA (HR.out.1 h).1
  go_enter Tryz.func60, Tryz.ntmps60
  go_upto_region 1 with fail
  rw [← eW]
  clear eW
  try rw [eg]
  go_wp2_with fail
  go_ret
  exact ⟨by rw [HF.out]; rfl, by first | exact KW.out | exact eg ▸ KW.out⟩
theorem rcontacts_c (tk nb nj gx gy : Int) (ob oj oc : Option Addr) (nB cb nJ cj nC cc : Nat) {B : List Bd} {C : List Ct} {w : World} (r : Bool) (hn : B.length = nB) (hmx : nB ≤ 1073741824) (hl : LsT encB 11 w ob B) (hup : (B.map (·.id)).Pairwise (· < ·)) (hnC : C.length = nC) (hmxC : nC ≤ 1073741824) (hlC : LsT encC 5 w oc C) (hr : r = true ↔ ContactsP B C) :
  Calls Tryz.prog 34 #[wdV tk nb nj gx gy (.slice ob nB cb) (.slice oj nJ cj) (.slice oc nC cc)] w fun e v => e = .returned (.bool r) ∧ Made w.heap.size w v := by
 obtain ⟨r2, hr2⟩ := a_bool (C.Pairwise LtC)
 have HR : Hid (r = true ↔ (∀ b ∈ C, contactB B b = true) ∧ r2 = true) := by
  unfold Hid
  rw [hr, hr2]
  exact ⟨fun h => ⟨fun b hb => (contactB_iff B b).2 (h.all b hb), h.up⟩, fun h => ⟨fun b hb => (contactB_iff B b).1 (h.1 b hb), h.2⟩⟩
 obtain ⟨W, eW⟩ : ∃ W, W = w.alloc (.cells #[.int .i64 tk, .int .i64 nb, .int .i64 nj, .int .i64 gx, .int .i64 gy, .slice ob nB cb, .slice oj nJ cj, .slice oc nC cc] 42) := ⟨_, rfl⟩
 have KW : Hid (Made w.heap.size w W) := by unfold Hid; rw [eW]; exact (Made.rfl_ _ _).cells (Nat.le_refl _) _ _
 have HB : Hid (Has W w.heap.size 42 #[.int .i64 tk, .int .i64 nb, .int .i64 nj, .int .i64 gx, .int .i64 gy, .slice ob nB cb, .slice oj nJ cj, .slice oc nC cc]) := by unfold Hid; rw [eW]; exact has_new _ _ _
 obtain ⟨g0, eg⟩ : ∃ g, w.heap.size = g := ⟨_, rfl⟩
 rw [eg] at HB
 have HE := hid (everyC_c 60 #[.pointer (some ⟨g0, 0, none⟩)] (by intro args w; rfl) Nil0 (fun _ _ => True) (qOf C (contactB B)) (c := cc) (w := W) hnC (by omega) (hlC.below KW.out.1) (fun _ => Offs.nil _) (fun b h => h.elim) (fun _ _ _ _ _ => trivial) trivial
  (fun i x u hx hu _ => by
   rw [qOf_at hx]
   have hu := hu.made
   exact (rc1_c tk nb nj gx gy ob oj oc nB cb nJ cj nC cc x g0 (HB.out.stays hu HB.out.here) hn hmx ((hl.below KW.out.1).below hu.1) hup).mono fun _ _ ⟨a, b⟩ => ⟨a, Made.but b, trivial⟩))
 have HNm := hid (fun v (k : Made W.heap.size W v) => ascend_c (c := cc) (w := v) r2 hnC hmxC ((hlC.below KW.out.1).below k.1) (hr2.trans (up_iff C)))
 have HN := hid hnC
 have b0 := HB.out.at_ 0
 have b1 := HB.out.at_ 1
 have b2 := HB.out.at_ 2
 have b3 := HB.out.at_ 3
 have b4 := HB.out.at_ 4
 have b5 := HB.out.at_ 5
 have b6 := HB.out.at_ 6
 have b7 := HB.out.at_ 7
 simp at b0 b1 b2 b3 b4 b5 b6 b7
 have l0 : g0 < W.heap.size := HB.out.here
 clear hn hl hup hnC hlC hr hr2
 go_enter Tryz.func34, Tryz.ntmps34
 go_upto_region 1 with fail
 rw [← eW]
 clear eW
 try rw [eg]
 go_wp2_with fail
 refine HE.out.mono ?_
 rintro e w1 ⟨q, rfl, k1, h⟩
 have k1 := k1.made
 have K1 := hid (KW.out.then_ (k1.low KW.out.1.size))
 have K1W := hid k1
 have HB1 := hid (HB.out.stays k1 HB.out.here)
 clear k1 b0 b1 b2 b3 b4 b5 b6 b7 l0
 have b0 := HB1.out.at_ 0
 have b1 := HB1.out.at_ 1
 have b2 := HB1.out.at_ 2
 have b3 := HB1.out.at_ 3
 have b4 := HB1.out.at_ 4
 have b5 := HB1.out.at_ 5
 have b6 := HB1.out.at_ 6
 have b7 := HB1.out.at_ 7
 simp at b0 b1 b2 b3 b4 b5 b6 b7
 have l0 : g0 < w1.heap.size := HB1.out.here
 rcases h with ⟨rfl, hall, _⟩ | ⟨rfl, hone⟩
 ·have HF : Hid (r = r2) := by
   unfold Hid
   rw [Bool.eq_iff_iff, HR.out]
   exact ⟨fun h => h.2, fun h => ⟨qOf_all HN.out hall, h⟩⟩
  clear hall
  go_wp2_with fail
  refine (HNm.out _ K1W.out).mono ?_
  rintro e w2 ⟨rfl, k2⟩
  have K2 := hid (K1.out.then_ (k2.low K1.out.1.size))
  clear k2 b0 b1 b2 b3 b4 b5 b6 b7 l0
  go_wp2_with fail
  go_ret
  exact ⟨by rw [HF.out]; rfl, by first | exact K2.out | exact eg ▸ K2.out⟩
 ·have HF : Hid (r = false) := Bool.eq_false_iff.2 fun h => qOf_one HN.out hone (HR.out.1 h).1
  clear hone
  go_wp2_with fail
  go_ret
  exact ⟨by rw [HF.out]; rfl, by first | exact K1.out | exact eg ▸ K1.out⟩
structure WorldP (tk nb nj gx gy : Int) (B : List Bd) (J : List Jt) (C : List Ct) : Prop where
 tk : 0 ≤ tk ∧ tk ≤ 4611686018427387904
 gx : Inn gx 17592186044416
 gy : Inn gy 17592186044416
 hB : BodiesP B nb
 hJ : JointsP B J nj
 hC : ContactsP B C
structure WdAt (w : World) (ob : Option Addr) (B : List Bd) (oj : Option Addr) (J : List Jt) (oc : Option Addr) (C : List Ct) : Prop where
 lB : LsT encB 11 w ob B
 lJ : LsT encJ 8 w oj J
 lC : LsT encC 5 w oc C
 sB : BdsIn w B
 iJ : ∀ j ∈ J, JtI j
 iC : ∀ c ∈ C, CtI c
theorem WdAt.kept {w v : World} {ob oj oc : Option Addr} {B : List Bd} {J : List Jt} {C : List Ct} (h : WdAt w ob B oj J oc C) (k : Made w.heap.size w v) : WdAt v ob B oj J oc C :=
 ⟨h.lB.below k.1, h.lJ.below k.1, h.lC.below k.1, h.sB.kept k, h.iJ, h.iC⟩
theorem wright_c (tk nb nj gx gy : Int) (ob oj oc : Option Addr) (nB cb nJ cj nC cc : Nat) {B : List Bd} {J : List Jt} {C : List Ct} {w : World} (r : Bool) (hn : B.length = nB) (hmx : nB ≤ 1073741824) (hnJ : J.length = nJ) (hmxJ : nJ ≤ 1073741824) (hnC : C.length = nC) (hmxC : nC ≤ 1073741824) (hW : WdAt w ob B oj J oc C) (ix : I64 gx) (iy : I64 gy) (hr : r = true ↔ WorldP tk nb nj gx gy B J C) :
  Calls Tryz.prog 14 #[wdV tk nb nj gx gy (.slice ob nB cb) (.slice oj nJ cj) (.slice oc nC cc)] w fun e v => e = .returned (.bool r) ∧ Made w.heap.size w v := by
 obtain ⟨c0, h0⟩ := a_bool (Inn gx 17592186044416 ∧ Inn gy 17592186044416)
 obtain ⟨c1, h1⟩ := a_bool (BodiesP B nb)
 obtain ⟨c2, h2⟩ := a_bool (JointsP B J nj)
 obtain ⟨c3, h3⟩ := a_bool (ContactsP B C)
 have HR : Hid (r = true ↔ (((((0 ≤ tk ∧ tk ≤ 4611686018427387904) ∧ c0 = true) ∧ c1 = true) ∧ c2 = true) ∧ c3 = true)) := by
  unfold Hid
  rw [hr, h0, h1, h2, h3]
  exact ⟨fun h => ⟨⟨⟨⟨h.tk, h.gx, h.gy⟩, h.hB⟩, h.hJ⟩, h.hC⟩, fun h => ⟨h.1.1.1.1, h.1.1.1.2.1, h.1.1.1.2.2, h.1.1.2, h.1.2, h.2⟩⟩
 have up : Hid (c1 = true → (B.map (·.id)).Pairwise (· < ·)) := fun h => (h1.1 h).num.2.2.1
 have H0 := hid (fun v => within_c gx gy 17592186044416 c0 v ix iy (by omega) (by omega) h0)
 obtain ⟨W, eW⟩ : ∃ W, W = w.alloc (.cells #[.int .i64 tk, .int .i64 nb, .int .i64 nj, .int .i64 gx, .int .i64 gy, .slice ob nB cb, .slice oj nJ cj, .slice oc nC cc] 42) := ⟨_, rfl⟩
 have KW : Hid (Made w.heap.size w W) := by unfold Hid; rw [eW]; exact (Made.rfl_ _ _).cells (Nat.le_refl _) _ _
 have HB : Hid (Has W w.heap.size 42 #[.int .i64 tk, .int .i64 nb, .int .i64 nj, .int .i64 gx, .int .i64 gy, .slice ob nB cb, .slice oj nJ cj, .slice oc nC cc]) := by unfold Hid; rw [eW]; exact has_new _ _ _
 obtain ⟨g0, eg⟩ : ∃ g, w.heap.size = g := ⟨_, rfl⟩
 rw [eg] at HB
 have H1 := hid (fun v (k : Made w.heap.size w v) => rbodies_c tk nb nj gx gy ob oj oc nB cb nJ cj nC cc c1 hn hmx (hW.kept k).lB (hW.kept k).sB h1)
 have H2 := hid (fun v (k : Made w.heap.size w v) (h : c1 = true) => rjoints_c tk nb nj gx gy ob oj oc nB cb nJ cj nC cc c2 hn hmx (hW.kept k).lB (up.out h) hnJ hmxJ (hW.kept k).lJ hW.iJ h2)
 have H3 := hid (fun v (k : Made w.heap.size w v) (h : c1 = true) => rcontacts_c tk nb nj gx gy ob oj oc nB cb nJ cj nC cc c3 hn hmx (hW.kept k).lB (up.out h) hnC hmxC (hW.kept k).lC h3)
 have b0 := HB.out.at_ 0
 have b1 := HB.out.at_ 1
 have b2 := HB.out.at_ 2
 have b3 := HB.out.at_ 3
 have b4 := HB.out.at_ 4
 have b5 := HB.out.at_ 5
 have b6 := HB.out.at_ 6
 have b7 := HB.out.at_ 7
 simp at b0 b1 b2 b3 b4 b5 b6 b7
 have l0 : g0 < W.heap.size := HB.out.here
 clear hn hnJ hnC hW ix iy hr h0 h1 h2 h3 up
 by_cases hA : 0 ≤ tk
 ·by_cases hB : tk ≤ 4611686018427387904
  ·go_enter Tryz.func14, Tryz.ntmps14
   go_upto_region 1 with fail
   rw [← eW]
   clear eW
   try rw [eg]
   go_wp2_with fail
   refine (H0.out _).mono ?_
   rintro e w1 ⟨rfl, k1⟩
   have K1 := hid (KW.out.then_ (k1.low KW.out.1.size))
   have HB1 := hid (HB.out.stays k1 HB.out.here)
   clear k1 b0 b1 b2 b3 b4 b5 b6 b7 l0
   have b0 := HB1.out.at_ 0
   have b1 := HB1.out.at_ 1
   have b2 := HB1.out.at_ 2
   have b3 := HB1.out.at_ 3
   have b4 := HB1.out.at_ 4
   have b5 := HB1.out.at_ 5
   have b6 := HB1.out.at_ 6
   have b7 := HB1.out.at_ 7
   simp at b0 b1 b2 b3 b4 b5 b6 b7
   have l0 : g0 < w1.heap.size := HB1.out.here
   cases c0 with
   | false =>
    have HF : Hid (r = false) := Bool.eq_false_iff.2 fun h => by have := HR.out.1 h; simp at this
    go_wp2_with fail
    go_ret
    exact ⟨by rw [HF.out]; rfl, by first | exact K1.out | exact eg ▸ K1.out⟩
   | true =>
    go_wp2_with fail
    refine (H1.out _ K1.out).mono ?_
    rintro e w2 ⟨rfl, k2⟩
    have K2 := hid (K1.out.then_ (k2.low K1.out.1.size))
    have HB2 := hid (HB1.out.stays k2 HB1.out.here)
    clear k2 b0 b1 b2 b3 b4 b5 b6 b7 l0
    have b0 := HB2.out.at_ 0
    have b1 := HB2.out.at_ 1
    have b2 := HB2.out.at_ 2
    have b3 := HB2.out.at_ 3
    have b4 := HB2.out.at_ 4
    have b5 := HB2.out.at_ 5
    have b6 := HB2.out.at_ 6
    have b7 := HB2.out.at_ 7
    simp at b0 b1 b2 b3 b4 b5 b6 b7
    have l0 : g0 < w2.heap.size := HB2.out.here
    cases c1 with
    | false =>
     have HF : Hid (r = false) := Bool.eq_false_iff.2 fun h => by have := HR.out.1 h; simp at this
     go_wp2_with fail
     go_ret
     exact ⟨by rw [HF.out]; rfl, by first | exact K2.out | exact eg ▸ K2.out⟩
    | true =>
     go_wp2_with fail
     refine (H2.out _ K2.out (by simp)).mono ?_
     rintro e w3 ⟨rfl, k3⟩
     have K3 := hid (K2.out.then_ (k3.low K2.out.1.size))
     have HB3 := hid (HB2.out.stays k3 HB2.out.here)
     clear k3 b0 b1 b2 b3 b4 b5 b6 b7 l0
     have b0 := HB3.out.at_ 0
     have b1 := HB3.out.at_ 1
     have b2 := HB3.out.at_ 2
     have b3 := HB3.out.at_ 3
     have b4 := HB3.out.at_ 4
     have b5 := HB3.out.at_ 5
     have b6 := HB3.out.at_ 6
     have b7 := HB3.out.at_ 7
     simp at b0 b1 b2 b3 b4 b5 b6 b7
     have l0 : g0 < w3.heap.size := HB3.out.here
     cases c2 with
     | false =>
      have HF : Hid (r = false) := Bool.eq_false_iff.2 fun h => by have := HR.out.1 h; simp at this
      go_wp2_with fail
      go_ret
      exact ⟨by rw [HF.out]; rfl, by first | exact K3.out | exact eg ▸ K3.out⟩
     | true =>
      go_wp2_with fail
      refine (H3.out _ K3.out (by simp)).mono ?_
      rintro e w4 ⟨rfl, k4⟩
      have K4 := hid (K3.out.then_ (k4.low K3.out.1.size))
      clear k4 b0 b1 b2 b3 b4 b5 b6 b7 l0
      have HF : Hid (r = c3) := by unfold Hid; rw [Bool.eq_iff_iff, HR.out]; simp [hA, hB]
      go_wp2_with fail
      go_ret
      exact ⟨by rw [HF.out]; rfl, by first | exact K4.out | exact eg ▸ K4.out⟩
  ·have HF : Hid (r = false) := Bool.eq_false_iff.2 fun h => hB (HR.out.1 h).1.1.1.1.2
   go_enter Tryz.func14, Tryz.ntmps14
   go_upto_region 1 with fail
   rw [← eW]
   clear eW
   try rw [eg]
   go_wp2_with fail
   go_ret
   exact ⟨by rw [HF.out]; rfl, by first | exact KW.out | exact eg ▸ KW.out⟩
 ·have HF : Hid (r = false) := Bool.eq_false_iff.2 fun h => hA (HR.out.1 h).1.1.1.1.1
  go_enter Tryz.func14, Tryz.ntmps14
  go_upto_region 1 with fail
  rw [← eW]
  clear eW
  try rw [eg]
  go_wp2_with fail
  go_ret
  exact ⟨by rw [HF.out]; rfl, by first | exact KW.out | exact eg ▸ KW.out⟩
end Go.Proofs.YtjecadafjnbijaaGreat.Fx
/- Regions that draw their order and make variables, with any number of operations that come up late. -/
namespace Go.Proofs.YtjecadafjnbijaaGreat.Fx.FS
open Go.ChangeShapes Go.WideShapes Go.ChangeAt Go.RowKit
set_option linter.unusedVariables false
section
variable {P : Program} {ops : Array Oper} {md : Region.Mode} {w : World} {al : Nat → TypeId × Array Value} {n m : Nat}
def waitB (md : Region.Mode) (ops : Array Oper) (k : Nat) (ps : List Nat) : Bool := (List.range k).all fun i => ps.contains i || Region.waitsFor md ops k i || ((List.range k).any fun j => Region.waitsFor md ops k j && Region.waitsFor md ops j i) || (down md ops 6 ((List.range k).filter fun j => Region.waitsFor md ops k j)).contains i
theorem ready_last {k i : Nat} {ps : List Nat} {got : Array Bool} (hw : waitB md ops k ps = true) (inv : HeadInv md ops k got) (hj : k ∈ Region.ready md ops got) (hi : i < k) (hun : got.getD i true = false) : i ∈ ps := by
 have h1 := List.all_eq_true.1 hw i (List.mem_range.2 hi)
 simp only [Bool.or_eq_true, List.contains_iff_mem] at h1
 obtain ⟨_, ot, hot, hall⟩ := mem_ready.1 hj
 have direct : ∀ j, Region.waitsFor md ops k j = true → got.getD j false = true := fun j h => by
  obtain ⟨o', ho', e, he, hb, hon⟩ := Region.waitsFor_spec h
  have e1 : o' = ot := Option.some.inj (ho'.symm.trans hot)
  subst e1
  rw [← hon]
  exact hall e he hb
 have no : got.getD i false = true → False := fun h => by rw [getD_both hun] at h; cases h
 rcases h1 with ((h1 | h1) | h1) | h1
 ·exact h1
 ·exact (no (direct i h1)).elim
 ·obtain ⟨j, _, h2⟩ := List.any_eq_true.1 h1
  simp only [Bool.and_eq_true] at h2
  obtain ⟨o', ho', e, he, hb, hon⟩ := Region.waitsFor_spec h2.2
  refine (no ?_).elim
  rw [← hon]
  exact inv.closed j o' ho' (direct j h2.1) e he hb
 ·exact (no (down_got inv 6 _ (fun j hj => direct j (List.mem_filter.1 hj).2) i (h1))).elim
theorem FL_first {i g : Nat} {ps : List Nat} {Q : Exit → Act → World → Prop} {oi : Oper} {v : Value} {L : (Nat → Option Nat) → Array Bool → Act → Prop} (hL : ∀ G got a u, Cl w al G u → L G got a → wpAny P md ops Q g got a u) (hQ : NoFrame Q) (hpu : ∀ p ∈ ps, ∀ o, ops[p]? = some o → Pure P o) (hi : ops[i]? = some oi) (hsel : ∀ (j : Nat) (o : Oper) cs b, ops[j]? = some o → o.op ≠ .select cs b)
  (hs : waitB md ops (n + m) ps = true) (hc : Region.chainB md ops (n + m) = true) (hn : n + m < ops.size) (hin : i < n)
  (hdone : ∀ G got a, L G got a → ∀ j ∈ Region.ready md ops got, n + m ≤ j) :
  ∀ (f : Nat) (G : Nat → Option Nat) (got : Array Bool) (a : Act), HeadInv md ops (n + m) got →
   (∀ j oj, ops[j]? = some oj → j ≠ i → got.getD j true = false → (∀ e ∈ oj.after, Region.binds md e = true → e.on ≠ i) → oi.apart ops oj = true) →
   i ∈ Region.ready md ops got → YA P ops w al oi v a →
   FL P md ops w al n m g Q L f G (got.setIfInBounds i true) (a.put oi.dst v) → FL P md ops w al n m g Q L (f + 1) G got a
 | f, G, got, a, inv, hfree, hr, hy, H => by
  have hun := (mem_ready.1 hr).1
  refine ⟨fun h => (by rw [h] at hr; cases hr), fun j hj => ?_⟩
  have hle := ready_le hc inv hj
  by_cases hji : j = i
  ·subst hji; exact .inl ⟨hin, oi, v, hi, hy, H⟩
  ·have hrj := ready_mono hj hji
   obtain ⟨hjun, oj, hoj, hall⟩ := mem_ready.1 hj
   have hnot : ∀ e ∈ oj.after, Region.binds md e = true → e.on ≠ i := fun e he hb heq => by
    have h1 := hall e he hb
    rw [heq, getD_both hun] at h1
    cases h1
   have hap := hfree j oj hoj hji hjun hnot
   obtain ⟨p1, p2, p3⟩ := Oper.apart_spec hap
   have hfree' : ∀ k ok, ops[k]? = some ok → k ≠ i → (got.setIfInBounds j true).getD k true = false → (∀ e ∈ ok.after, Region.binds md e = true → e.on ≠ i) → oi.apart ops ok = true := fun k ok hk hki hun' hno => by
    refine hfree k ok hk hki ?_ hno
    by_cases hjk : j = k
    ·subst hjk; exact hjun
    ·rw [getD_set_ne true hjk] at hun'; exact hun'
   by_cases hjl : j = n + m
   ·have hip : i ∈ ps := ready_last hs inv (by rw [← hjl]; exact hj) (by omega) hun
    refine .inr (.inr ⟨hjl, fun u hu => ?_⟩)
    have hy' : Yields P ops oi v a := by
     rcases hy G ⟨u, hu⟩ with ⟨hw, hv⟩ | hw
     ·exact .inl ⟨hw, hpu i hip oi hi a _ u v (hv u hu)⟩
     ·exact .inr hw
    have hQ' := hQ
    have fin : ∀ N, wpOp P ops Q j (wpAny P md ops Q N ((got.setIfInBounds i true).setIfInBounds j true)) (a.put oi.dst v) u → wpOp P ops Q j (wpAny P md ops Q (N + 1) (got.setIfInBounds j true)) a u := fun N h => by
     refine wpOp_mono (fun a' w' h3 => wpAny_first hi hsel (fun c a w h => hQ' c _ _ w h) N (got.setIfInBounds j true) a' w' hfree' (ready_mono hr (Ne.symm hji)) h3.1 ?_) (wpOp_put hoj hap (fun cs b => hsel i oi cs b hi) (fun cs b => hsel j oj cs b hoj) (fun c a w h => hQ' c _ _ w h) hy' h)
     rw [Array.setIfInBounds_comm _ _ hji]
     exact h3.2
    match f, H with
    | 0, H =>
     have X := hL _ _ _ u hu H
     match g, X with
     | 0, X => rw [X.1] at hrj; cases hrj
     | g + 1, X => rw [Nat.zero_add]; exact fin g (X.2 j hrj)
    | f + 1, H =>
     rcases H.2 j hrj with ⟨h, _⟩ | ⟨_, h, _⟩ | ⟨_, h⟩
     ·omega
     ·omega
     ·rw [show f + 1 + g = f + g + 1 by omega]; exact fin _ (h u hu)
   have hjn : j < n + m := by omega
   match f, H with
   | 0, H => have := hdone _ _ _ H j hrj; omega
   | f + 1, H =>
    rcases H.2 j hrj with ⟨hjn', o, u, ho, hyj, hf⟩ | ⟨h1, h2, o, d, ho, ha, hf⟩ | ⟨h1, _⟩
    ·have e : o = oj := Option.some.inj (ho.symm.trans hoj)
     subst e
     refine .inl ⟨hjn', o, u, ho, hyj.unput (fun cs b => hsel j o cs b ho) p1, ?_⟩
     refine FL_first hL hQ hpu hi hsel hs hc hn hin hdone f G _ _ (inv.set hj hjn) hfree' (ready_mono hr (Ne.symm hji)) (hy.put (fun cs b => hsel i oi cs b hi) p3) ?_
     rw [Array.setIfInBounds_comm _ _ hji, ← Act.put_comm a v u p2]
     exact hf
    ·have e : o = oj := Option.some.inj (ho.symm.trans hoj)
     subst e
     refine .inr (.inl ⟨h1, h2, o, d, ho, ha, fun g => ?_⟩)
     have hyi : YA P ops w al oi v (a.put o.dst (.pointer (some ⟨g, 0, none⟩))) := hy.put (fun cs b => hsel i oi cs b hi) p3
     have hg := hf g
     rw [← ha.dst] at hg ⊢
     refine FL_first hL hQ hpu hi hsel hs hc hn hin hdone f _ _ _ (inv.set hj hjn) hfree' (ready_mono hr (Ne.symm hji)) hyi ?_
     rw [Array.setIfInBounds_comm _ _ hji, ← Act.put_comm a v _ p2]
     exact hg
    ·omega
theorem FL_firstA {i gg : Nat} {ps : List Nat} {Q : Exit → Act → World → Prop} {oi : Oper} {di : Tmp} {L : (Nat → Option Nat) → Array Bool → Act → Prop} (hi : ops[i]? = some oi) (ha : Alc P oi di (al i).1 (al i).2)
  (hs : waitB md ops (n + m) ps = true) (hp : ∀ p ∈ ps, p < n ∨ n + m ≤ p) (hc : Region.chainB md ops (n + m) = true) (hn : n + m < ops.size) (hi0 : n ≤ i) (hin : i < n + m)
  (hdone : ∀ G got a, L G got a → ∀ j ∈ Region.ready md ops got, n + m ≤ j) :
  ∀ (f : Nat) (G : Nat → Option Nat) (got : Array Bool) (a : Act), HeadInv md ops (n + m) got → (∀ j, j < n → got.getD j true = true) →
   (∀ j oj, ops[j]? = some oj → j ≠ i → got.getD j true = false → (∀ e ∈ oj.after, Region.binds md e = true → e.on ≠ i) → oi.apart ops oj = true) →
   i ∈ Region.ready md ops got →
   (∀ g, FL P md ops w al n m gg Q L f (upd G i g) (got.setIfInBounds i true) (a.put (some di) (.pointer (some ⟨g, 0, none⟩)))) → FL P md ops w al n m gg Q L (f + 1) G got a
 | f, G, got, a, inv, hall0, hfree, hr, H => by
  have hun := (mem_ready.1 hr).1
  refine ⟨fun h => (by rw [h] at hr; cases hr), fun j hj => ?_⟩
  have hjn : j < n + m := by
   have hle := ready_le hc inv hj
   refine Nat.lt_of_le_of_ne hle fun e => ?_
   have := hp i (ready_last (i := i) hs inv (by rw [← e]; exact hj) hin hun)
   omega
  obtain ⟨hjun, oj, hoj, hall⟩ := mem_ready.1 hj
  have hjn0 : n ≤ j := by
   refine Nat.not_lt.1 fun h => ?_
   rw [hall0 j h] at hjun; cases hjun
  by_cases hji : j = i
  ·subst hji; exact .inr (.inl ⟨hi0, hin, oi, di, hi, ha, H⟩)
  ·have hrj := ready_mono hj hji
   match f, H with
   | 0, H => have := hdone _ _ _ (H 0) j hrj; omega
   | f + 1, H =>
    have hnot : ∀ e ∈ oj.after, Region.binds md e = true → e.on ≠ i := fun e he hb heq => by
     have h1 := hall e he hb
     rw [heq, getD_both hun] at h1
     cases h1
    obtain ⟨p1, p2, p3⟩ := Oper.apart_spec (hfree j oj hoj hji hjun hnot)
    have hfree' : ∀ k ok, ops[k]? = some ok → k ≠ i → (got.setIfInBounds j true).getD k true = false → (∀ e ∈ ok.after, Region.binds md e = true → e.on ≠ i) → oi.apart ops ok = true := fun k ok hk hki hun' hno => by
     refine hfree k ok hk hki ?_ hno
     by_cases hjk : j = k
     ·subst hjk; exact hjun
     ·rw [getD_set_ne true hjk] at hun'; exact hun'
    have key : ∀ g, ∃ d, Alc P oj d (al j).1 (al j).2 ∧ ∀ g', FL P md ops w al n m gg Q L f (upd (upd G i g) j g') ((got.setIfInBounds i true).setIfInBounds j true) ((a.put (some di) (.pointer (some ⟨g, 0, none⟩))).put (some d) (.pointer (some ⟨g', 0, none⟩))) := fun g => by
     rcases (H g).2 j hrj with ⟨hjn', _⟩ | ⟨h1, h2, o, d, ho, had, hf⟩ | ⟨h1, _⟩
     ·omega
     ·have e : o = oj := Option.some.inj (ho.symm.trans hoj)
      subst e
      exact ⟨d, had, hf⟩
     ·omega
    obtain ⟨d, had, _⟩ := key 0
    refine .inr (.inl ⟨hjn0, hjn, oj, d, hoj, had, fun g' => ?_⟩)
    refine FL_firstA hi ha hs hp hc hn hi0 hin hdone f _ _ _ (inv.set hj hjn) (fun k hk => by
     have hjk : j ≠ k := by omega
     rw [getD_set_ne true hjk]; exact hall0 k hk) hfree' (ready_mono hr (Ne.symm hji)) fun g => ?_
    obtain ⟨d', had', hf⟩ := key g
    have e : d' = d := Option.some.inj (had'.dst.symm.trans had.dst)
    subst e
    rw [Array.setIfInBounds_comm _ _ hji, upd_comm G hji]
    have hp : ∀ x, some di = some x → some d' ≠ some x := fun x hx => by rw [← had.dst]; exact p2 x (by rw [ha.dst]; exact hx)
    rw [← Act.put_comm a _ _ hp]
    exact hf g'
theorem FL_lexA {g : Nat} {ps : List Nat} {Q : Exit → Act → World → Prop} {Lq : (Nat → Option Nat) → Act → Prop} (hs : waitB md ops (n + m) ps = true) (hp : ∀ p ∈ ps, p < n ∨ n + m ≤ p) (hc : Region.chainB md ops (n + m) = true) (hn : n + m < ops.size) :
  ∀ (l : List Oper) (k : Nat) (G : Nat → Option Nat) (got : Array Bool) (a : Act), (∀ j, j < l.length → l[j]? = ops[k + j]?) → n ≤ k → k + l.length = n + m → HeadInv md ops (n + m) got → (∀ j, j < n → got.getD j true = true) →
  Region.lexHead md ops g l.length k got = true → Ah P al Lq l k G a →
  FL P md ops w al n m g Q (fun G' got' a' => Region.seqB md ops g (n + m) got' = true ∧ Lq G' a') l.length G got a
 | [], k, G, got, a, _, _, hk, _, _, hB, h => by
  obtain rfl : k = n + m := by simpa using hk
  exact ⟨by simpa [Region.lexHead] using hB, h⟩
 | o :: l, k, G, got, a, hl, hnk, hk, inv, hall, hB, h => by
  have h0 : ops[k]? = some o := by simpa using (hl 0 (by simp)).symm
  simp only [List.length_cons, Region.lexHead, Bool.and_eq_true] at hB
  obtain ⟨⟨hr, hf⟩, hB'⟩ := hB
  have hkn : k < n + m := by simp only [List.length_cons] at hk; omega
  have hr' : k ∈ Region.ready md ops got := by simpa using hr
  obtain ⟨d, ha, hh⟩ := h
  refine FL_firstA h0 ha hs hp hc hn hnk hkn (fun G' got' a' hL => seqB_ready hL.1) l.length G got a inv hall (Region.free_spec h0 hf) hr' fun b => ?_
  exact FL_lexA hs hp hc hn l (k + 1) _ _ _ (fun j hj => by have := hl (j + 1) (by simp; omega); simpa [Nat.add_assoc, Nat.add_comm 1 j] using this) (by omega) (by simp only [List.length_cons] at hk; omega) (inv.set hr' hkn)
   (fun j hj => by
    have hjk : k ≠ j := by omega
    rw [getD_set_ne true hjk]; exact hall j hj) hB' (hh b)
theorem FL_lex {g : Nat} {ps : List Nat} {Q : Exit → Act → World → Prop} {Lq : (Nat → Option Nat) → Act → Prop} {A : Act} {la : List Oper} (hL : ∀ G got a u, Cl w al G u → (Region.seqB md ops g (n + m) got = true ∧ Lq G a) → wpAny P md ops Q g got a u) (hQ : NoFrame Q) (hpu : ∀ p ∈ ps, ∀ o, ops[p]? = some o → Pure P o) (hp : ∀ p ∈ ps, p < n ∨ n + m ≤ p) (hla : ∀ j, j < la.length → la[j]? = ops[n + j]?) (hlm : la.length = m) (hsel : Region.noSelect ops = true)
  (hs : waitB md ops (n + m) ps = true) (hc : Region.chainB md ops (n + m) = true) (hn : n + m < ops.size) :
  ∀ (l : List Oper) (k : Nat) (G : Nat → Option Nat) (got : Array Bool) (a : Act), (∀ j, j < l.length → l[j]? = ops[k + j]?) → k + l.length = n → HeadInv md ops (n + m) got → (∀ j, j < k → got.getD j true = true) →
  Region.lexHead md ops g (l.length + m) k got = true → Ch P ops w al A l a → Ah P al Lq la n G A →
  FL P md ops w al n m g Q (fun G' got' a' => Region.seqB md ops g (n + m) got' = true ∧ Lq G' a') (l.length + m) G got a
 | [], k, G, got, a, _, hk, inv, hall, hB, h, hA => by
  obtain rfl : k = n := by simpa using hk
  subst hlm
  simp only [List.length_nil, Nat.zero_add] at hB ⊢
  rw [show a = A from h]
  exact FL_lexA hs hp hc hn la k G got A hla (Nat.le_refl _) rfl inv hall hB hA
 | o :: l, k, G, got, a, hl, hk, inv, hall, hB, h, hA => by
  have h0 : ops[k]? = some o := by simpa using (hl 0 (by simp)).symm
  rw [show (o :: l).length + m = (l.length + m) + 1 by simp only [List.length_cons]; omega] at hB ⊢
  simp only [Region.lexHead, Bool.and_eq_true] at hB
  obtain ⟨⟨hr, hf⟩, hB'⟩ := hB
  have hkn : k < n := by simp only [List.length_cons] at hk; omega
  have hr' : k ∈ Region.ready md ops got := by simpa using hr
  obtain ⟨v, hy, hK⟩ := h
  exact FL_first hL hQ hpu h0 (Region.noSelect_spec hsel) hs hc hn hkn (fun G' got' a' hL => seqB_ready hL.1) (l.length + m) G got a inv (Region.free_spec h0 hf) hr' hy
   (FL_lex hL hQ hpu hp hla hlm hsel hs hc hn l (k + 1) G _ _ (fun j hj => by have := hl (j + 1) (by simp; omega); simpa [Nat.add_assoc, Nat.add_comm 1 j] using this) (by simp only [List.length_cons] at hk; omega) (inv.set hr' (by omega))
    (fun j hj => getD_listed (by rw [inv.size]; omega) hall hj) hB' hK hA)
def floatB (md : Region.Mode) (ops : Array Oper) (k : Nat) (ps : List Nat) : Bool :=
 Region.noSelect ops && decide (k < ops.size) && waitB md ops k ps && Region.chainB md ops k && Region.lexHead md ops (ops.size - k) k 0 (Array.replicate ops.size false)
end
section
variable {P : Program}
theorem region_float {id : Nat} {Q : Exit → Act → World → Prop} {a A : Act} {w : World} {l : List Oper} (n m N : Nat) (ps : List Nat) (al : Nat → TypeId × Array Value) (hm : P.follows .mixedOrders = true) (hB : floatB .any l.toArray (n + m) ps = true)
  (hQ : NoFrame Q) (hpu : ∀ p ∈ ps, ∀ o, l.toArray[p]? = some o → Pure P o) (hp : ∀ p ∈ ps, p < n ∨ n + m ≤ p)
  (hD : dstB N (l.take n) = true) (hN : a.tmps.size = N)
  (h1 : ∀ (T : Type) (_ : Nonempty T) (f : T → World), Class w f → wpQuiet P l.toArray (fun w' => ∃ x, w' = f x) (fun a' => a' = A) (l.take n) a)
  (h2 : Ah P al (fun G a' => ∀ u, Cl w al G u → wpList P l.toArray Q (l.drop (n + m)) a' u) ((l.drop n).take m) n (fun _ => none) A) : (Code.region id l.toArray true).wp P Q a w := by
 simp only [floatB, Bool.and_eq_true, decide_eq_true_eq] at hB
 obtain ⟨⟨⟨⟨hsel, hn⟩, hs⟩, hc⟩, hlex⟩ := hB
 have hn' : n + m < l.length := by simpa using hn
 have htl : (l.take n).length = n := by simp; omega
 have hml : ((l.drop n).take m).length = m := by simp; omega
 have hdl : (l.drop (n + m)).length = l.toArray.size - (n + m) := by simp
 have inv0 : HeadInv .any l.toArray (n + m) (Array.replicate l.toArray.size false) :=
  ⟨by simp, fun j oj _ hl => (by rw [getD_replicate_false] at hl; cases hl), fun t _ ht => getD_in (by simpa using ht) (getD_replicate_false _ _)⟩
 have hch : Ch P l.toArray w al A (l.take n) a := by
  refine chain_of (N := N) _ _ hN hD fun G hG => ?_
  obtain ⟨u, hu⟩ := hG
  have := h1 {v // Cl w al G v} ⟨⟨u, hu⟩⟩ Subtype.val ⟨fun x => x.2.1, fun x v hv => ⟨⟨v, x.2.step hv⟩, rfl⟩⟩
  have e : (fun w' => ∃ x : {v // Cl w al G v}, w' = x.1) = Cl w al G := by
   funext w'
   exact propext ⟨fun ⟨x, hx⟩ => hx ▸ x.2, fun h => ⟨⟨w', h⟩, rfl⟩⟩
  rw [e] at this
  exact this
 have hL : ∀ G got a' u, Cl w al G u → (Region.seqB .any l.toArray (l.toArray.size - (n + m)) (n + m) got = true ∧ ∀ u, Cl w al G u → wpList P l.toArray Q (l.drop (n + m)) a' u) → wpAny P .any l.toArray Q (l.toArray.size - (n + m)) got a' u := fun G got a' u hu hL => by
  have := wpAny_of_seq (md := .any) (Q' := Q) (l.drop (n + m)) (n + m) got a' u (fun j => by simp [List.getElem?_drop]) (by rw [hdl]; exact hL.1) (hL.2 u hu)
  rwa [hdl] at this
 have H := FL_lex (md := .any) (g := l.toArray.size - (n + m)) (P := P) (w := w) (al := al) (Lq := fun G a' => ∀ u, Cl w al G u → wpList P l.toArray Q (l.drop (n + m)) a' u) (la := (l.drop n).take m) (m := m) (n := n) (A := A) (Q := Q)
  hL hQ hpu hp (fun j hj => by
   have hj' : j < m := by rw [hml] at hj; exact hj
   simp [hj']) hml hsel hs hc hn (l.take n) 0 (fun _ => none) _ a (fun j hj => by
   have hj' : j < n := by rw [htl] at hj; exact hj
   simp [hj']) (by simpa using htl) inv0 (fun j hj => by omega) (by rw [htl]; exact hlex) hch h2
 refine wp_region_any hm ?_
 have c0 : Cl w al (fun _ => none) { w with drawn := w.drawn + 1 } := ⟨made_draw w, fun i g e => (by cases e), fun i j g e => (by cases e)⟩
 have := FL_any hL _ _ _ _ _ c0 H
 rw [htl, show n + m + (l.toArray.size - (n + m)) = l.toArray.size by omega] at this
 exact this
end
end Go.Proofs.YtjecadafjnbijaaGreat.Fx.FS