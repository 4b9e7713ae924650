/- SoN SoQ -/
import Derived.Test.YtjhcejmfiekjgaaGreatSt18
import Derived.Test.YtjhcejmfiekjgaaGreatSt23
import Derived.Test.YtjhcejmfiekjgaaGreatSt26
import Derived.Test.YtjhcejmfiekjgaaGreatSt27
set_option maxRecDepth 100000
set_option maxHeartbeats 64000000
/- Package solve: what presses and holds do, in the plain words of SoP. -/
namespace Go.Proofs.YtjhcejmfiekjgaaGreat.Fx
open Go.ChangeShapes Go.WideShapes Go.ChangeAt Go.RowKit
set_option linter.unusedVariables false
theorem bump_set' {L : List Bd} {i k : Nat} {a b : Bd} {ra rb p : Int × Int} (hi : L[i]? = some a) (hk : (L.set i (awayB ra p a))[k]? = some b) : bumpS L i k ra rb p = (L.set i (awayB ra p a)).set k (ontoB rb p b) := by
 unfold bumpS
 rw [modify_set _ hi]
 exact modify_set _ hk
theorem set_I {L : List Bd} (h : LI L) {i : Nat} {a : Bd} (ha : BdI a) : LI (L.set i a) := fun j b hb => by
 rw [List.getElem?_set] at hb
 split at hb
 ·split at hb
  ·cases hb; exact ha
  ·cases hb
 ·exact h j b hb
theorem mass_same {a b : Bd} (h : SameAt a b) : mA b = mA a ∧ mI b = mI a ∧ moveB b = moveB a ∧ spinB b = spinB a := by
 obtain ⟨e1, e2⟩ := h.area
 obtain ⟨e3, e4⟩ := h.mass
 refine ⟨?_, ?_, e3, e4⟩
 ·unfold mA; rw [e1, h.2.2.2.2.1]
 ·unfold mI; rw [e2, h.2.2.2.2.1]
theorem lk_same {L M : List Bd} (h : SameL L M) (i k : Nat) (ra rb : Int × Int) : lkOf M i k ra rb = lkOf L i k ra rb := by
 have key : ∀ j, mA (bdAt M j) = mA (bdAt L j) ∧ mI (bdAt M j) = mI (bdAt L j) ∧ moveB (bdAt M j) = moveB (bdAt L j) ∧ spinB (bdAt M j) = spinB (bdAt L j) := fun j => by
  unfold bdAt
  cases e : L[j]? with
  | none =>
   have e2 : M[j]? = none := by rw [List.getElem?_eq_none_iff] at e ⊢; rw [h.1]; exact e
   rw [e2]
   exact ⟨rfl, rfl, rfl, rfl⟩
  | some b =>
   have hj := (List.getElem?_eq_some_iff.1 e).1
   obtain ⟨c, e2⟩ : ∃ c, M[j]? = some c := ⟨_, List.getElem?_eq_getElem (by rw [h.1]; exact hj)⟩
   rw [e2]
   exact mass_same (h.2 j b c e e2)
 unfold lkOf
 obtain ⟨a1, a2, a3, a4⟩ := key i
 obtain ⟨b1, b2, b3, b4⟩ := key k
 rw [a1, a2, a3, a4, b1, b2, b3, b4]
theorem pr_same {L M : List Bd} (h : SameL L M) {r q : Ro} (hr : SameR r q) (k : Nat) : prOf M k q = prOf L k r := by
 unfold prOf
 rw [lk_same h, hr.1, hr.2.1, hr.2.2.2.2.1, hr.2.2.2.2.2.1]
theorem ho_same {L M : List Bd} (h : SameL L M) (t : Ti) : hoOf M t = hoOf L t := by
 unfold hoOf
 rw [lk_same h]
theorem SameR.rfl_ (r : Ro) : SameR r r := ⟨rfl, rfl, rfl, rfl, rfl, rfl, rfl, rfl, rfl⟩
section
variable {g gr n m : Nat} {tB tR : TypeId} {L : List Bd} {R : List Ro} {r : Ro} {k : Nat} {w : World}
theorem press_cells (gr g k : Nat) {L : List Bd} {r : Ro} {a b : Bd} (ha : L[r.a]? = some a) (hb : L[r.b]? = some b) : (encPr gr g (prOf L k r)).toArray = #[.pointer (some ⟨gr, k * 14, none⟩), .pointer (some ⟨g, r.a * 11, none⟩), .pointer (some ⟨g, r.b * 11, none⟩), .int .i64 (mA a), .int .i64 (mI a), .int .i64 (moveB a), .int .i64 (spinB a), .int .i64 (mA b), .int .i64 (mI b), .int .i64 (moveB b), .int .i64 (spinB b), .int .i64 r.ra.1, .int .i64 r.ra.2, .int .i64 r.rb.1, .int .i64 r.rb.2] := by
 unfold encPr prOf lkOf encL
 simp only
 rw [bdAt_is ha, bdAt_is hb]
theorem begin_s (hL : RowL encB 11 w g tB n L) (hR : RowL encR 14 w gr tR m R) (hr : R[k]? = some r) (hI : LI L) (hri : RoI r) (ha : r.a < n) (hb : r.b < n) :
  Calls Tryz.prog 46 #[.agg (encPr gr g (prOf L k r)).toArray] w fun e v => e = .returned (.tuple #[]) ∧ But (fun x => x = g) w v ∧ RowL encB 11 v g tB n (beginS L r) := by
 obtain ⟨a, hi⟩ : ∃ a, L[r.a]? = some a := ⟨_, List.getElem?_eq_getElem (by rw [hL.1]; exact ha)⟩
 obtain ⟨b0, hk0⟩ : ∃ a, L[r.b]? = some a := ⟨_, List.getElem?_eq_getElem (by rw [hL.1]; exact hb)⟩
 obtain ⟨p, ep⟩ : ∃ p, addS (scaS r.n r.N) (scaS (leftS r.n) r.T) = p := ⟨_, rfl⟩
 obtain ⟨b, hk⟩ : ∃ b, (L.set r.a (awayB r.ra p a))[r.b]? = some b := ⟨_, List.getElem?_eq_getElem (by rw [List.length_set, hL.1]; exact hb)⟩
 have hmb : moveB b0 = moveB b ∧ spinB b0 = spinB b := by
  rw [List.getElem?_set] at hk
  split at hk
  ·rename_i e
   split at hk
   ·cases hk
    rw [← e, hi] at hk0
    cases hk0
    have hs : SameAt a (awayB r.ra p a) := ⟨rfl, rfl, rfl, rfl, rfl, rfl, rfl, rfl, rfl, rfl, rfl⟩
    exact ⟨hs.mass.1.symm, hs.mass.2.symm⟩
   ·cases hk
  ·rw [hk0] at hk; cases hk; exact ⟨rfl, rfl⟩
 have hA := hI _ _ hi
 have hB := set_I hI (away_I hA r.ra p) _ _ hk
 have c := hR.elt hr
 rw [press_cells gr g k hi hk0, hmb.1, hmb.2]
 have e : beginS L r = (L.set r.a (awayB r.ra p a)).set r.b (ontoB r.rb p b) := by unfold beginS; rw [ep]; exact bump_set' hi hk
 rw [e]
 have e1 : addF (mulF r.n.1 r.N) (mulF (negF r.n.2) r.T) = p.1 := by rw [← ep]; rfl
 have e2 : addF (mulF r.n.2 r.N) (mulF r.n.1 r.T) = p.2 := by rw [← ep]; rfl
 exact begin_c r.n.1 r.n.2 r.N r.T _ _ _ _ _ _ _ _ r.ra.1 r.ra.2 r.rb.1 r.rb.2 _ _ _ _ _ p.1 p.2 _ _ _ _ _ _ _ _ _ _ _ _ _ _ w hL hi hk hA hB (c 3 _ rfl) (c 4 _ rfl) (c 12 _ rfl) (c 13 _ rfl)
  hri.ra.1 hri.ra.2 hri.rb.1 hri.rb.2 hri.n.1 hri.n.2 (move_I _) (spin_I _) (move_I _) (spin_I _) hri.N hri.T (hid rfl) (hid rfl) (hid rfl) (hid rfl) (hid rfl) (hid e1) (hid e2)
  (hid rfl) (hid rfl) (hid rfl) (hid rfl) (hid rfl) (hid rfl) (hid rfl) (hid rfl) (hid rfl) (hid rfl) (hid rfl) (hid rfl) (hid rfl) (hid rfl)
theorem set_mass {L : List Bd} {i k : Nat} {a b0 b : Bd} {ra p : Int × Int} (hi : L[i]? = some a) (hk0 : L[k]? = some b0) (hk : (L.set i (awayB ra p a))[k]? = some b) : moveB b0 = moveB b ∧ spinB b0 = spinB b := by
 rw [List.getElem?_set] at hk
 split at hk
 ·rename_i e
  split at hk
  ·cases hk
   rw [← e, hi] at hk0
   cases hk0
   have hs : SameAt a (awayB ra p a) := ⟨rfl, rfl, rfl, rfl, rfl, rfl, rfl, rfl, rfl, rfl, rfl⟩
   exact ⟨hs.mass.1.symm, hs.mass.2.symm⟩
  ·cases hk
 ·rw [hk0] at hk; cases hk; exact ⟨rfl, rfl⟩
theorem speed_at {L : List Bd} {i k : Nat} {a b : Bd} (hi : L[i]? = some a) (hk : L[k]? = some b) (ra rb q : Int × Int) :
  speedS L i k ra rb q = addF (mulF (subF (addF b.vx (mulF (negF rb.2) b.sp)) (addF a.vx (mulF (negF ra.2) a.sp))) q.1) (mulF (subF (addF b.vy (mulF rb.1 b.sp)) (addF a.vy (mulF ra.1 a.sp))) q.2) := by
 unfold speedS; rw [hi, hk]; rfl
theorem row_put {u : World} {x : Value} {r' : Ro} (hgr : gr ≠ g) (hL : RowL encB 11 u g tB n L) (hR : RowL encR 14 u gr tR m R) (hr : R[k]? = some r) {j : Nat} (hj : j < 14) (e : encR r' = (encR r).set j x) :
  RowL encB 11 (u.setCell ⟨gr, k * 14 + j, none⟩ x) g tB n L ∧ RowL encR 14 (u.setCell ⟨gr, k * 14 + j, none⟩ x) gr tR m (R.set k r') :=
 ⟨hL.but (X := fun b => b = gr) ((But.rfl_ (fun b => b = gr) u).put (p := ⟨gr, k * 14 + j, none⟩) (.inl rfl) x) (fun e => hgr e.symm), hR.put1 encR_len hr hj e⟩
theorem rub_s (hgr : gr ≠ g) (hL : RowL encB 11 w g tB n L) (hR : RowL encR 14 w gr tR m R) (hr : R[k]? = some r) (hI : LI L) (hri : RoI r) (ha : r.a < n) (hb : r.b < n) :
  Calls Tryz.prog 48 #[.agg (encPr gr g (prOf L k r)).toArray] w fun e v => e = .returned (.tuple #[]) ∧ But (fun x => x = g ∨ x = gr) w v ∧ RowL encB 11 v g tB n (rubS L r) ∧ RowL encR 14 v gr tR m (R.set k { r with T := rubT L r }) := by
 obtain ⟨a, hi⟩ : ∃ a, L[r.a]? = some a := ⟨_, List.getElem?_eq_getElem (by rw [hL.1]; exact ha)⟩
 obtain ⟨b0, hk0⟩ : ∃ a, L[r.b]? = some a := ⟨_, List.getElem?_eq_getElem (by rw [hL.1]; exact hb)⟩
 obtain ⟨p, ep⟩ : ∃ p, scaS (leftS r.n) (subF (rubT L r) r.T) = p := ⟨_, rfl⟩
 obtain ⟨b, hk⟩ : ∃ b, (L.set r.a (awayB r.ra p a))[r.b]? = some b := ⟨_, List.getElem?_eq_getElem (by rw [List.length_set, hL.1]; exact hb)⟩
 have hmb := set_mass hi hk0 hk
 have hA := hI _ _ hi
 have hB0 := hI _ _ hk0
 have hB := set_I hI (away_I hA r.ra p) _ _ hk
 have c := hR.elt hr
 rw [press_cells gr g k hi hk0, hmb.1, hmb.2]
 have e : rubS L r = (L.set r.a (awayB r.ra p a)).set r.b (ontoB r.rb p b) := by unfold rubS; rw [ep]; exact bump_set' hi hk
 rw [e]
 have eT : bringF (addF r.T (negF (mulF r.gt (addF (mulF (subF (addF b0.vx (mulF (negF r.rb.2) b0.sp)) (addF a.vx (mulF (negF r.ra.2) a.sp))) (negF r.n.2)) (mulF (subF (addF b0.vy (mulF r.rb.1 b0.sp)) (addF a.vy (mulF r.ra.1 a.sp))) r.n.1))))) (negF (mulF r.N 2147483648)) (mulF r.N 2147483648) = rubT L r := by
  unfold rubT; rw [speed_at hi hk0]; rfl
 have e1 : mulF (negF r.n.2) (subF (rubT L r) r.T) = p.1 := by rw [← ep]; rfl
 have e2 : mulF r.n.1 (subF (rubT L r) r.T) = p.2 := by rw [← ep]; rfl
 refine (rub_c r.n.1 r.n.2 r.gt r.N r.T _ _ _ _ _ _ _ _ r.ra.1 r.ra.2 r.rb.1 r.rb.2 _ _ _ _ _ _ _ _ _ _ _ _ _ _ _ _ _ (rubT L r) _ p.1 p.2 _ _ _ _ _ _ _ _ _ _ _ _ _ _ w hgr hL hi hk0 hk hA hB0 hB (c 3 _ rfl) (c 4 _ rfl) (c 10 _ rfl) (c 12 _ rfl) (c 13 _ rfl) (hR.free _)
  hri.ra.1 hri.ra.2 hri.rb.1 hri.rb.2 hri.n.1 hri.n.2 (move_I _) (spin_I _) (move_I _) (spin_I _) hri.gt hri.N hri.T (hid rfl) (hid rfl) (hid rfl) (hid rfl) (hid rfl) (hid rfl) (hid rfl) (hid rfl) (hid rfl) (hid rfl) (hid rfl) (hid rfl) (hid rfl)
  (hid rfl) (hid rfl) (hid rfl) (hid rfl) (hid eT) (hid rfl) (hid e1) (hid e2)
  (hid rfl) (hid rfl) (hid rfl) (hid rfl) (hid rfl) (hid rfl) (hid rfl) (hid rfl) (hid rfl) (hid rfl) (hid rfl) (hid rfl) (hid rfl) (hid rfl)).mono ?_
 rintro e v ⟨rfl, u, rfl, kb, kl⟩
 have h := row_put (x := .int .i64 (rubT L r)) (r' := { r with T := rubT L r }) hgr kl (hR.but kb hgr) hr (j := 13) (by omega) rfl
 exact ⟨rfl, (kb.up (fun b _ h => .inl h)).put (p := ⟨gr, k * 14 + 13, none⟩) (.inl (.inr rfl)) _, h.1, h.2⟩
theorem push_s (hgr : gr ≠ g) (hL : RowL encB 11 w g tB n L) (hR : RowL encR 14 w gr tR m R) (hr : R[k]? = some r) (hI : LI L) (hri : RoI r) (ha : r.a < n) (hb : r.b < n) :
  Calls Tryz.prog 49 #[.agg (encPr gr g (prOf L k r)).toArray] w fun e v => e = .returned (.tuple #[]) ∧ But (fun x => x = g ∨ x = gr) w v ∧ RowL encB 11 v g tB n (pushS L r) ∧ RowL encR 14 v gr tR m (R.set k { r with N := pushN L r }) := by
 obtain ⟨a, hi⟩ : ∃ a, L[r.a]? = some a := ⟨_, List.getElem?_eq_getElem (by rw [hL.1]; exact ha)⟩
 obtain ⟨b0, hk0⟩ : ∃ a, L[r.b]? = some a := ⟨_, List.getElem?_eq_getElem (by rw [hL.1]; exact hb)⟩
 obtain ⟨p, ep⟩ : ∃ p, scaS r.n (subF (pushN L r) r.N) = p := ⟨_, rfl⟩
 obtain ⟨b, hk⟩ : ∃ b, (L.set r.a (awayB r.ra p a))[r.b]? = some b := ⟨_, List.getElem?_eq_getElem (by rw [List.length_set, hL.1]; exact hb)⟩
 have hmb := set_mass hi hk0 hk
 have hA := hI _ _ hi
 have hB0 := hI _ _ hk0
 have hB := set_I hI (away_I hA r.ra p) _ _ hk
 have c := hR.elt hr
 rw [press_cells gr g k hi hk0, hmb.1, hmb.2]
 have e : pushS L r = (L.set r.a (awayB r.ra p a)).set r.b (ontoB r.rb p b) := by unfold pushS; rw [ep]; exact bump_set' hi hk
 rw [e]
 have eN : max 0 (addF r.N (mulF r.gn (subF r.out (addF (mulF (subF (addF b0.vx (mulF (negF r.rb.2) b0.sp)) (addF a.vx (mulF (negF r.ra.2) a.sp))) r.n.1) (mulF (subF (addF b0.vy (mulF r.rb.1 b0.sp)) (addF a.vy (mulF r.ra.1 a.sp))) r.n.2))))) = pushN L r := by
  unfold pushN; rw [speed_at hi hk0]
 have e1 : mulF r.n.1 (subF (pushN L r) r.N) = p.1 := by rw [← ep]; rfl
 have e2 : mulF r.n.2 (subF (pushN L r) r.N) = p.2 := by rw [← ep]; rfl
 refine (push_c r.n.1 r.n.2 r.gn r.out r.N _ _ _ _ _ _ _ _ r.ra.1 r.ra.2 r.rb.1 r.rb.2 _ _ _ _ _ _ _ _ _ _ _ _ _ _ (pushN L r) _ p.1 p.2 _ _ _ _ _ _ _ _ _ _ _ _ _ _ w hgr hL hi hk0 hk hA hB0 hB (c 3 _ rfl) (c 4 _ rfl) (c 9 _ rfl) (c 11 _ rfl) (c 12 _ rfl) (hR.free _)
  hri.ra.1 hri.ra.2 hri.rb.1 hri.rb.2 hri.n.1 hri.n.2 (move_I _) (spin_I _) (move_I _) (spin_I _) hri.gn hri.out hri.N (hid rfl) (hid rfl) (hid rfl) (hid rfl) (hid rfl) (hid rfl) (hid rfl) (hid rfl) (hid rfl) (hid rfl) (hid rfl)
  (hid rfl) (hid rfl) (hid rfl) eN (hid rfl) (hid e1) (hid e2)
  (hid rfl) (hid rfl) (hid rfl) (hid rfl) (hid rfl) (hid rfl) (hid rfl) (hid rfl) (hid rfl) (hid rfl) (hid rfl) (hid rfl) (hid rfl) (hid rfl)).mono ?_
 rintro e v ⟨rfl, u, rfl, kb, kl⟩
 have h := row_put (x := .int .i64 (pushN L r)) (r' := { r with N := pushN L r }) hgr kl (hR.but kb hgr) hr (j := 12) (by omega) rfl
 exact ⟨rfl, (kb.up (fun b _ h => .inl h)).put (p := ⟨gr, k * 14 + 12, none⟩) (.inl (.inr rfl)) _, h.1, h.2⟩
theorem hold_cells (g : Nat) {L : List Bd} {t : Ti} {a b : Bd} (ha : L[t.a]? = some a) (hb : L[t.b]? = some b) : (encHo g (hoOf L t)).toArray = #[.int .i64 (t.a : Nat), .int .i64 (t.b : Nat), .int .i64 t.n.1, .int .i64 t.n.2, .int .i64 t.ra.1, .int .i64 t.ra.2, .int .i64 t.rb.1, .int .i64 t.rb.2, .int .i64 t.g, .int .i64 t.off,
  .pointer (some ⟨g, t.a * 11, none⟩), .pointer (some ⟨g, t.b * 11, none⟩), .int .i64 (mA a), .int .i64 (mI a), .int .i64 (moveB a), .int .i64 (spinB a), .int .i64 (mA b), .int .i64 (mI b), .int .i64 (moveB b), .int .i64 (spinB b), .int .i64 t.ra.1, .int .i64 t.ra.2, .int .i64 t.rb.1, .int .i64 t.rb.2] := by
 unfold encHo hoOf lkOf encL encTi
 simp only
 rw [bdAt_is ha, bdAt_is hb]
 rfl
theorem pull_s {t : Ti} (hL : RowL encB 11 w g tB n L) (hI : LI L) (hti : TiI t) (ha : t.a < n) (hb : t.b < n) :
  Calls Tryz.prog 47 #[.agg (encHo g (hoOf L t)).toArray] w fun e v => e = .returned (.tuple #[]) ∧ But (fun x => x = g) w v ∧ RowL encB 11 v g tB n (pullS L t) := by
 obtain ⟨a, hi⟩ : ∃ a, L[t.a]? = some a := ⟨_, List.getElem?_eq_getElem (by rw [hL.1]; exact ha)⟩
 obtain ⟨b0, hk0⟩ : ∃ a, L[t.b]? = some a := ⟨_, List.getElem?_eq_getElem (by rw [hL.1]; exact hb)⟩
 obtain ⟨p, ep⟩ : ∃ p, scaS t.n (negF (mulF t.g (addF (speedS L t.a t.b t.ra t.rb t.n) t.off))) = p := ⟨_, rfl⟩
 obtain ⟨b, hk⟩ : ∃ b, (L.set t.a (awayB t.ra p a))[t.b]? = some b := ⟨_, List.getElem?_eq_getElem (by rw [List.length_set, hL.1]; exact hb)⟩
 have hmb := set_mass hi hk0 hk
 have hA := hI _ _ hi
 have hB0 := hI _ _ hk0
 have hB := set_I hI (away_I hA t.ra p) _ _ hk
 rw [hold_cells g hi hk0, hmb.1, hmb.2]
 have e : pullS L t = (L.set t.a (awayB t.ra p a)).set t.b (ontoB t.rb p b) := by unfold pullS; rw [ep]; exact bump_set' hi hk
 rw [e]
 have es := speed_at hi hk0 t.ra t.rb t.n
 have e1 : mulF t.n.1 (negF (mulF t.g (addF (speedS L t.a t.b t.ra t.rb t.n) t.off))) = p.1 := by rw [← ep]; rfl
 have e2 : mulF t.n.2 (negF (mulF t.g (addF (speedS L t.a t.b t.ra t.rb t.n) t.off))) = p.2 := by rw [← ep]; rfl
 exact pull_c _ _ t.n.1 t.n.2 t.ra.1 t.ra.2 t.rb.1 t.rb.2 t.g t.off _ _ _ _ _ _ _ _ t.ra.1 t.ra.2 t.rb.1 t.rb.2 _ _ _ _ _ _ _ _ _ _ (speedS L t.a t.b t.ra t.rb t.n) _ _ _ p.1 p.2 _ _ _ _ _ _ _ _ _ _ _ _ _ _ w hL hi hk0 hk hA hB0 hB
  hti.ra.1 hti.ra.2 hti.rb.1 hti.rb.2 hti.n.1 hti.n.2 (move_I _) (spin_I _) (move_I _) (spin_I _) hti.g hti.off (hid rfl) (hid rfl) (hid rfl) (hid rfl) (hid rfl) (hid rfl) (hid rfl) (hid rfl) (hid rfl) (hid rfl) (hid es.symm)
  (hid rfl) (hid rfl) (hid rfl) (hid e1) (hid e2)
  (hid rfl) (hid rfl) (hid rfl) (hid rfl) (hid rfl) (hid rfl) (hid rfl) (hid rfl) (hid rfl) (hid rfl) (hid rfl) (hid rfl) (hid rfl) (hid rfl)
theorem limit_s {b : Bd} (hL : RowL encB 11 w g tB n L) (hI : LI L) (hi : L[k]? = some b) :
  Calls Tryz.prog 50 #[.pointer (some ⟨g, k * 11, none⟩)] w fun e v => e = .returned (.tuple #[]) ∧ But (fun x => x = g) w v ∧ RowL encB 11 v g tB n (L.set k (limitB b)) :=
 limit_c _ _ _ w hL hi (hI _ _ hi) (hid rfl) (hid rfl) (hid rfl)
end
end Go.Proofs.YtjhcejmfiekjgaaGreat.Fx
/- Impulses, plainly: what has come behind some rows, ties or bodies. -/
namespace Go.Proofs.YtjhcejmfiekjgaaGreat.Fx
set_option linter.unusedVariables false
theorem rows_snoc : ∀ (A : List Ro) (L : List Bd) (r : Ro), rowsS L (A ++ [r]) = ((turnS (rowsS L A).1 r).1, (rowsS L A).2 ++ [(turnS (rowsS L A).1 r).2])
 | [], L, r => rfl
 | q :: A, L, r => by
  have ih := rows_snoc A (turnS L q).1 r
  show ((rowsS (turnS L q).1 (A ++ [r])).1, (turnS L q).2 :: (rowsS (turnS L q).1 (A ++ [r])).2) = _
  rw [ih]
  rfl
theorem take_snoc' {α : Type} {l : List α} {k : Nat} {x : α} (h : l[k]? = some x) : l.take (k + 1) = l.take k ++ [x] := by
 rw [List.take_add_one, h]; rfl
theorem drop_cons' {α : Type} {l : List α} {k : Nat} {x : α} (h : l[k]? = some x) : l.drop k = x :: l.drop (k + 1) := by
 obtain ⟨hl, hx⟩ := List.getElem?_eq_some_iff.1 h
 rw [List.drop_eq_getElem_cons hl, hx]
def rowsAt (L : List Bd) (R : List Ro) (j : Nat) : List Ro := (rowsS L (R.take j)).2 ++ R.drop j
def bodsAt (L : List Bd) (R : List Ro) (j : Nat) : List Bd := (rowsS L (R.take j)).1
theorem rowsAt_len (L : List Bd) (R : List Ro) {j : Nat} (hj : j ≤ R.length) : (rowsS L (R.take j)).2.length = j := by
 rw [rows_len, List.length_take]; omega
theorem rowsAt_get {L : List Bd} {R : List Ro} {j : Nat} {r : Ro} (h : R[j]? = some r) : (rowsAt L R j)[j]? = some r := by
 have hj := (List.getElem?_eq_some_iff.1 h).1
 unfold rowsAt
 rw [List.getElem?_append_right (by rw [rowsAt_len L R (by omega)]; exact Nat.le_refl _), rowsAt_len L R (by omega), Nat.sub_self, drop_cons' h]
 rfl
theorem rowsAt_next {L : List Bd} {R : List Ro} {j : Nat} {r : Ro} (h : R[j]? = some r) : bodsAt L R (j + 1) = (turnS (bodsAt L R j) r).1 ∧ (rowsAt L R j).set j (turnS (bodsAt L R j) r).2 = rowsAt L R (j + 1) := by
 have hj := (List.getElem?_eq_some_iff.1 h).1
 have hl := rowsAt_len L R (Nat.le_of_lt hj)
 unfold bodsAt rowsAt
 rw [take_snoc' h, rows_snoc]
 refine ⟨rfl, ?_⟩
 rw [drop_cons' h, List.set_append_right _ _ (by omega), hl, Nat.sub_self, List.append_assoc]
 rfl
theorem rowsAt_all (L : List Bd) (R : List Ro) {j : Nat} (hj : R.length ≤ j) : bodsAt L R j = (rowsS L R).1 ∧ rowsAt L R j = (rowsS L R).2 := by
 unfold bodsAt rowsAt
 rw [List.take_of_length_le hj, List.drop_eq_nil_of_le hj, List.append_nil]
 exact ⟨rfl, rfl⟩
theorem rowsAt_I {L : List Bd} {R : List Ro} (hL : LI L) (hR : ∀ r ∈ R, RoI r) (j : Nat) : LI (bodsAt L R j) := (rows_I _ hL fun r hr => hR r (List.mem_of_mem_take hr)).1
theorem bodsAt_same (L : List Bd) (R : List Ro) (j : Nat) : SameL L (bodsAt L R j) := rows_same _ _
theorem ties_next {L : List Bd} {T : List Ti} {j : Nat} {t : Ti} (h : T[j]? = some t) : tiesS L (T.take (j + 1)) = pullS (tiesS L (T.take j)) t := by
 rw [take_snoc' h]; unfold tiesS; rw [List.foldl_append]; rfl
theorem begin_next {L : List Bd} {R : List Ro} {j : Nat} {r : Ro} (h : R[j]? = some r) : (R.take (j + 1)).foldl beginS L = beginS ((R.take j).foldl beginS L) r := by
 rw [take_snoc' h, List.foldl_append]; rfl
def limAt (L : List Bd) (j : Nat) : List Bd := (L.take j).map limitB ++ L.drop j
theorem limAt_get {L : List Bd} {j : Nat} {b : Bd} (h : L[j]? = some b) : (limAt L j)[j]? = some b := by
 have hj := (List.getElem?_eq_some_iff.1 h).1
 have hl : ((L.take j).map limitB).length = j := by rw [List.length_map, List.length_take]; omega
 unfold limAt
 rw [List.getElem?_append_right (by omega), hl, Nat.sub_self, drop_cons' h]
 rfl
theorem limAt_next {L : List Bd} {j : Nat} {b : Bd} (h : L[j]? = some b) : (limAt L j).set j (limitB b) = limAt L (j + 1) := by
 have hj := (List.getElem?_eq_some_iff.1 h).1
 have hl : ((L.take j).map limitB).length = j := by rw [List.length_map, List.length_take]; omega
 unfold limAt
 rw [drop_cons' h, List.set_append_right _ _ (by omega), hl, Nat.sub_self, take_snoc' h, List.map_append, List.append_assoc]
 rfl
theorem limAt_all {L : List Bd} {j : Nat} (h : L.length ≤ j) : limAt L j = L.map limitB := by
 unfold limAt
 rw [List.take_of_length_le h, List.drop_eq_nil_of_le h, List.append_nil]
theorem limit_I {b : Bd} (h : BdI b) : BdI (limitB b) := ⟨h.id, h.x, h.y, i64_bring h.vx (i64_neg (by unfold I64; omega)) (by unfold I64; omega), i64_bring h.vy (i64_neg (by unfold I64; omega)) (by unfold I64; omega), h.an, i64_bring h.sp (by unfold I64; omega) (by unfold I64; omega), h.de, h.k, h.r, h.f⟩
theorem limAt_I {L : List Bd} (h : LI L) (j : Nat) : LI (limAt L j) := by
 intro i b hb
 unfold limAt at hb
 rw [List.getElem?_append] at hb
 split at hb
 ·rw [List.getElem?_map] at hb
  cases e : (L.take j)[i]? with
  | none => rw [e] at hb; simp at hb
  | some c =>
   rw [e] at hb
   rw [← Option.some.inj hb]
   rw [List.getElem?_take] at e
   split at e
   ·exact limit_I (h i c e)
   ·cases e
 ·rw [List.getElem?_drop] at hb
  exact h _ b hb
theorem SameB.bdI {b b' : Bd} (h : SameB b b') (k : BdI b) : BdI b' := by
 obtain ⟨h0, h1, h2, h3, h4, h5, h6, h7, h8, h9, h10, h11⟩ := h
 obtain ⟨k0, k1, k2, k3, k4, k5, k6, k7, k8, k9, k10⟩ := k
 exact ⟨by rw [h0]; exact k0, by rw [h1]; exact k1, by rw [h2]; exact k2, by rw [h3]; exact k3, by rw [h4]; exact k4, by rw [h5]; exact k5, by rw [h6]; exact k6, by rw [h7]; exact k7, by rw [h8]; exact k8, by rw [h9]; exact k9, by rw [h10, h11]; exact k10⟩
end Go.Proofs.YtjhcejmfiekjgaaGreat.Fx