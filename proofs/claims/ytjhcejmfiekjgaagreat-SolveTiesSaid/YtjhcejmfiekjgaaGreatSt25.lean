/- Flb SpC -/
import Derived.Test.YtjhcejmfiekjgaaGreatSt0
import Derived.Test.YtjhcejmfiekjgaaGreatSt17
import Derived.Test.YtjhcejmfiekjgaaGreatSt19
set_option maxRecDepth 100000
set_option maxHeartbeats 64000000
/- Regions that draw their order and make variables, over the class 'what lay below has not turned'. -/
namespace Go.Proofs.YtjhcejmfiekjgaaGreat.Fx.FB
open Go.ChangeShapes Go.WideShapes Go.ChangeAt Go.RowKit
set_option linter.unusedVariables false
def Cl (w : World) (al : Nat → TypeId × Array Value) (G : Nat → Option Nat) (v : World) : Prop :=
 Below w.heap.size w v ∧ (∀ i g, G i = some g → w.heap.size ≤ g ∧ Has v g (al i).1 (al i).2) ∧ (∀ i j g, G i = some g → G j = some g → i = j)
section
variable {w : World} {al : Nat → TypeId × Array Value} {G : Nat → Option Nat}
theorem Cl.step {u v : World} (h : Cl w al G u) (k : Below u.heap.size u v) : Cl w al G v :=
 ⟨h.1.trans (k.mono h.1.size), fun i g e => ⟨(h.2.1 i g e).1, (h.2.1 i g e).2.below k (h.2.1 i g e).2.here⟩, h.2.2⟩
theorem Cl.new {u : World} (h : Cl w al G u) (i : Nat) : Cl w al (upd G i u.heap.size) (u.alloc (.cells (al i).2 (al i).1)) := by
 refine ⟨h.1.alloc h.1.size _, fun j g e => ?_, fun j k g ej ek => ?_⟩
 ·unfold upd at e
  split at e
  ·rename_i hj
   subst hj
   cases e
   exact ⟨h.1.size, has_new _ _ _⟩
  ·exact ⟨(h.2.1 j g e).1, (h.2.1 j g e).2.more _⟩
 ·unfold upd at ej ek
  split at ej <;> split at ek
  ·rename_i a b; rw [a, b]
  ·cases ej
   have := (h.2.1 k _ ek).2.here
   omega
  ·cases ek
   have := (h.2.1 j _ ej).2.here
   omega
  ·exact h.2.2 j k g ej ek
end
section
variable {P : Program} {ops : Array Oper} {md : Region.Mode} {w : World} {al : Nat → TypeId × Array Value} {n m : Nat}
def YA (P : Program) (ops : Array Oper) (w : World) (al : Nat → TypeId × Array Value) (o : Oper) (v : Value) (a : Act) : Prop := ∀ G, (∃ u, Cl w al G u) → YieldsIn P ops (Cl w al G) o v a
theorem YA.put {oi oj : Oper} {v u : Value} {a : Act} (hy : YA P ops w al oi v a) (hsi : ∀ cs b, oi.op ≠ .select cs b) (h : ∀ d, oj.dst = some d → d ∉ oi.looksAt ops) : YA P ops w al oi v (a.put oj.dst u) :=
 fun G hG => (hy G hG).of_same (execOp_put oi hsi a oj.dst u h) (wanted_put oi a oj.dst u h)
theorem YA.unput {oi oj : Oper} {v u : Value} {a : Act} (hy : YA P ops w al oi v (a.put oj.dst u)) (hsi : ∀ cs b, oi.op ≠ .select cs b) (h : ∀ d, oj.dst = some d → d ∉ oi.looksAt ops) : YA P ops w al oi v a :=
 fun G hG => (hy G hG).of_same (execOp_put oi hsi a oj.dst u h).symm (wanted_put oi a oj.dst u h).symm
def FL (P : Program) (md : Region.Mode) (ops : Array Oper) (w : World) (al : Nat → TypeId × Array Value) (n m g : Nat) (Q : Exit → Act → World → Prop) (L : (Nat → Option Nat) → Array Bool → Act → Prop) : Nat → (Nat → Option Nat) → Array Bool → Act → Prop
 | 0, G, got, a => L G got a
 | f + 1, G, got, a => Region.ready md ops got ≠ [] ∧ ∀ i ∈ Region.ready md ops got,
   (i < n ∧ ∃ o v, ops[i]? = some o ∧ YA P ops w al o v a ∧ FL P md ops w al n m g Q L f G (got.setIfInBounds i true) (a.put o.dst v)) ∨
   (n ≤ i ∧ i < n + m ∧ ∃ o d, ops[i]? = some o ∧ Alc P o d (al i).1 (al i).2 ∧ ∀ b, FL P md ops w al n m g Q L f (upd G i b) (got.setIfInBounds i true) (a.put (some d) (.pointer (some ⟨b, 0, none⟩)))) ∨
   (i = n + m ∧ ∀ u, Cl w al G u → wpOp P ops Q i (wpAny P md ops Q (f + g) (got.setIfInBounds i true)) a u)
theorem FL_any {g : Nat} {L : (Nat → Option Nat) → Array Bool → Act → Prop} {Q : Exit → Act → World → Prop}
  (hL : ∀ G got a u, Cl w al G u → L G got a → wpAny P md ops Q g got a u) :
  ∀ (f : Nat) (G : Nat → Option Nat) (got : Array Bool) (a : Act) (u : World), Cl w al G u → FL P md ops w al n m g Q L f G got a → wpAny P md ops Q (f + g) got a u
 | 0, G, got, a, u, hu, h => by rw [Nat.zero_add]; exact hL _ _ _ _ hu h
 | f + 1, G, got, a, u, hu, h => by
  rw [show f + 1 + g = (f + g) + 1 by omega]
  refine ⟨fun h0 => absurd h0 h.1, fun i hi => ?_⟩
  rcases h.2 i hi with ⟨_, o, v, ho, hy, hf⟩ | ⟨_, _, o, d, ho, ha, hf⟩ | ⟨_, hf⟩
  ·refine wpOp_of_qOp (C := Cl w al G) (K := fun a' => a' = a.put o.dst v) hu (fun a' u' hu' e => ?_) ((hy G ⟨u, hu⟩).qOp ho rfl)
   rw [e]
   exact FL_any hL f _ _ _ _ hu' hf
  ·unfold wpOp
   simp only [ho]
   have hw : Region.wanted o (yielded ops a.tmps) = true := by unfold Region.wanted; rw [ha.guard]
   rw [if_pos hw]
   left
   unfold Oper.wp
   rw [ha.runs, Oper.upon_value, ha.dst]
   exact FL_any hL f _ _ _ _ (hu.new i) (hf _)
  ·exact hf u hu
theorem FL_first {i g p : Nat} {Q : Exit → Act → World → Prop} {oi : Oper} {v : Value} {L : (Nat → Option Nat) → Array Bool → Act → Prop} (hL : ∀ G got a u, Cl w al G u → L G got a → wpAny P md ops Q g got a u) (hQ : p < n → NoFrame Q) (hpu : ∀ o, ops[p]? = some o → Pure P o) (hi : ops[i]? = some oi) (hsel : ∀ (j : Nat) (o : Oper) cs b, ops[j]? = some o → o.op ≠ .select cs b)
  (hs : waitB md ops (n + m) p = true) (hc : Region.chainB md ops (n + m) = true) (hn : n + m < ops.size) (hin : i < n)
  (hdone : ∀ G got a, L G got a → ∀ j ∈ Region.ready md ops got, n + m ≤ j) :
  ∀ (f : Nat) (G : Nat → Option Nat) (got : Array Bool) (a : Act), HeadInv md ops (n + m) got →
   (∀ j oj, ops[j]? = some oj → j ≠ i → got.getD j true = false → (∀ e ∈ oj.after, Region.binds md e = true → e.on ≠ i) → oi.apart ops oj = true) →
   i ∈ Region.ready md ops got → YA P ops w al oi v a →
   FL P md ops w al n m g Q L f G (got.setIfInBounds i true) (a.put oi.dst v) → FL P md ops w al n m g Q L (f + 1) G got a
 | f, G, got, a, inv, hfree, hr, hy, H => by
  have hun := (mem_ready.1 hr).1
  refine ⟨fun h => (by rw [h] at hr; cases hr), fun j hj => ?_⟩
  have hle := ready_le hc inv hj
  by_cases hji : j = i
  ·subst hji; exact .inl ⟨hin, oi, v, hi, hy, H⟩
  ·have hrj := ready_mono hj hji
   obtain ⟨hjun, oj, hoj, hall⟩ := mem_ready.1 hj
   have hnot : ∀ e ∈ oj.after, Region.binds md e = true → e.on ≠ i := fun e he hb heq => by
    have h1 := hall e he hb
    rw [heq, getD_both hun] at h1
    cases h1
   have hap := hfree j oj hoj hji hjun hnot
   obtain ⟨p1, p2, p3⟩ := Oper.apart_spec hap
   have hfree' : ∀ k ok, ops[k]? = some ok → k ≠ i → (got.setIfInBounds j true).getD k true = false → (∀ e ∈ ok.after, Region.binds md e = true → e.on ≠ i) → oi.apart ops ok = true := fun k ok hk hki hun' hno => by
    refine hfree k ok hk hki ?_ hno
    by_cases hjk : j = k
    ·subst hjk; exact hjun
    ·rw [getD_set_ne true hjk] at hun'; exact hun'
   by_cases hjl : j = n + m
   ·have hip : i = p := ready_last hs inv (by rw [← hjl]; exact hj) (by omega) hun
    refine .inr (.inr ⟨hjl, fun u hu => ?_⟩)
    have hy' : Yields P ops oi v a := by
     rcases hy G ⟨u, hu⟩ with ⟨hw, hv⟩ | hw
     ·exact .inl ⟨hw, hpu oi (by rw [← hip]; exact hi) a _ u v (hv u hu)⟩
     ·exact .inr hw
    have hQ' := hQ (by omega)
    have fin : ∀ N, wpOp P ops Q j (wpAny P md ops Q N ((got.setIfInBounds i true).setIfInBounds j true)) (a.put oi.dst v) u → wpOp P ops Q j (wpAny P md ops Q (N + 1) (got.setIfInBounds j true)) a u := fun N h => by
     refine wpOp_mono (fun a' w' h3 => wpAny_first hi hsel (fun c a w h => hQ' c _ _ w h) N (got.setIfInBounds j true) a' w' hfree' (ready_mono hr (Ne.symm hji)) h3.1 ?_) (wpOp_put hoj hap (fun cs b => hsel i oi cs b hi) (fun cs b => hsel j oj cs b hoj) (fun c a w h => hQ' c _ _ w h) hy' h)
     rw [Array.setIfInBounds_comm _ _ hji]
     exact h3.2
    match f, H with
    | 0, H =>
     have X := hL _ _ _ u hu H
     match g, X with
     | 0, X => rw [X.1] at hrj; cases hrj
     | g + 1, X => rw [Nat.zero_add]; exact fin g (X.2 j hrj)
    | f + 1, H =>
     rcases H.2 j hrj with ⟨h, _⟩ | ⟨_, h, _⟩ | ⟨_, h⟩
     ·omega
     ·omega
     ·rw [show f + 1 + g = f + g + 1 by omega]; exact fin _ (h u hu)
   have hjn : j < n + m := by omega
   match f, H with
   | 0, H => have := hdone _ _ _ H j hrj; omega
   | f + 1, H =>
    rcases H.2 j hrj with ⟨hjn', o, u, ho, hyj, hf⟩ | ⟨h1, h2, o, d, ho, ha, hf⟩ | ⟨h1, _⟩
    ·have e : o = oj := Option.some.inj (ho.symm.trans hoj)
     subst e
     refine .inl ⟨hjn', o, u, ho, hyj.unput (fun cs b => hsel j o cs b ho) p1, ?_⟩
     refine FL_first hL hQ hpu hi hsel hs hc hn hin hdone f G _ _ (inv.set hj hjn) hfree' (ready_mono hr (Ne.symm hji)) (hy.put (fun cs b => hsel i oi cs b hi) p3) ?_
     rw [Array.setIfInBounds_comm _ _ hji, ← Act.put_comm a v u p2]
     exact hf
    ·have e : o = oj := Option.some.inj (ho.symm.trans hoj)
     subst e
     refine .inr (.inl ⟨h1, h2, o, d, ho, ha, fun g => ?_⟩)
     have hyi : YA P ops w al oi v (a.put o.dst (.pointer (some ⟨g, 0, none⟩))) := hy.put (fun cs b => hsel i oi cs b hi) p3
     have hg := hf g
     rw [← ha.dst] at hg ⊢
     refine FL_first hL hQ hpu hi hsel hs hc hn hin hdone f _ _ _ (inv.set hj hjn) hfree' (ready_mono hr (Ne.symm hji)) hyi ?_
     rw [Array.setIfInBounds_comm _ _ hji, ← Act.put_comm a v _ p2]
     exact hg
    ·omega
theorem FL_firstA {i gg p : Nat} {Q : Exit → Act → World → Prop} {oi : Oper} {di : Tmp} {L : (Nat → Option Nat) → Array Bool → Act → Prop} (hi : ops[i]? = some oi) (ha : Alc P oi di (al i).1 (al i).2)
  (hs : waitB md ops (n + m) p = true) (hp : p < n ∨ n + m ≤ p) (hc : Region.chainB md ops (n + m) = true) (hn : n + m < ops.size) (hi0 : n ≤ i) (hin : i < n + m)
  (hdone : ∀ G got a, L G got a → ∀ j ∈ Region.ready md ops got, n + m ≤ j) :
  ∀ (f : Nat) (G : Nat → Option Nat) (got : Array Bool) (a : Act), HeadInv md ops (n + m) got → (∀ j, j < n → got.getD j true = true) →
   (∀ j oj, ops[j]? = some oj → j ≠ i → got.getD j true = false → (∀ e ∈ oj.after, Region.binds md e = true → e.on ≠ i) → oi.apart ops oj = true) →
   i ∈ Region.ready md ops got →
   (∀ g, FL P md ops w al n m gg Q L f (upd G i g) (got.setIfInBounds i true) (a.put (some di) (.pointer (some ⟨g, 0, none⟩)))) → FL P md ops w al n m gg Q L (f + 1) G got a
 | f, G, got, a, inv, hall0, hfree, hr, H => by
  have hun := (mem_ready.1 hr).1
  refine ⟨fun h => (by rw [h] at hr; cases hr), fun j hj => ?_⟩
  have hjn : j < n + m := by
   have hle := ready_le hc inv hj
   refine Nat.lt_of_le_of_ne hle fun e => ?_
   have := ready_last (i := i) hs inv (by rw [← e]; exact hj) hin hun
   omega
  obtain ⟨hjun, oj, hoj, hall⟩ := mem_ready.1 hj
  have hjn0 : n ≤ j := by
   refine Nat.not_lt.1 fun h => ?_
   rw [hall0 j h] at hjun; cases hjun
  by_cases hji : j = i
  ·subst hji; exact .inr (.inl ⟨hi0, hin, oi, di, hi, ha, H⟩)
  ·have hrj := ready_mono hj hji
   match f, H with
   | 0, H => have := hdone _ _ _ (H 0) j hrj; omega
   | f + 1, H =>
    have hnot : ∀ e ∈ oj.after, Region.binds md e = true → e.on ≠ i := fun e he hb heq => by
     have h1 := hall e he hb
     rw [heq, getD_both hun] at h1
     cases h1
    obtain ⟨p1, p2, p3⟩ := Oper.apart_spec (hfree j oj hoj hji hjun hnot)
    have hfree' : ∀ k ok, ops[k]? = some ok → k ≠ i → (got.setIfInBounds j true).getD k true = false → (∀ e ∈ ok.after, Region.binds md e = true → e.on ≠ i) → oi.apart ops ok = true := fun k ok hk hki hun' hno => by
     refine hfree k ok hk hki ?_ hno
     by_cases hjk : j = k
     ·subst hjk; exact hjun
     ·rw [getD_set_ne true hjk] at hun'; exact hun'
    have key : ∀ g, ∃ d, Alc P oj d (al j).1 (al j).2 ∧ ∀ g', FL P md ops w al n m gg Q L f (upd (upd G i g) j g') ((got.setIfInBounds i true).setIfInBounds j true) ((a.put (some di) (.pointer (some ⟨g, 0, none⟩))).put (some d) (.pointer (some ⟨g', 0, none⟩))) := fun g => by
     rcases (H g).2 j hrj with ⟨hjn', _⟩ | ⟨h1, h2, o, d, ho, had, hf⟩ | ⟨h1, _⟩
     ·omega
     ·have e : o = oj := Option.some.inj (ho.symm.trans hoj)
      subst e
      exact ⟨d, had, hf⟩
     ·omega
    obtain ⟨d, had, _⟩ := key 0
    refine .inr (.inl ⟨hjn0, hjn, oj, d, hoj, had, fun g' => ?_⟩)
    refine FL_firstA hi ha hs hp hc hn hi0 hin hdone f _ _ _ (inv.set hj hjn) (fun k hk => by
     have hjk : j ≠ k := by omega
     rw [getD_set_ne true hjk]; exact hall0 k hk) hfree' (ready_mono hr (Ne.symm hji)) fun g => ?_
    obtain ⟨d', had', hf⟩ := key g
    have e : d' = d := Option.some.inj (had'.dst.symm.trans had.dst)
    subst e
    rw [Array.setIfInBounds_comm _ _ hji, upd_comm G hji]
    have hp : ∀ x, some di = some x → some d' ≠ some x := fun x hx => by rw [← had.dst]; exact p2 x (by rw [ha.dst]; exact hx)
    rw [← Act.put_comm a _ _ hp]
    exact hf g'
def Ch (P : Program) (ops : Array Oper) (w : World) (al : Nat → TypeId × Array Value) (A : Act) : List Oper → Act → Prop
 | [], a => a = A
 | o :: l, a => ∃ v, YA P ops w al o v a ∧ Ch P ops w al A l (a.put o.dst v)
theorem FL_lexA {g p : Nat} {Q : Exit → Act → World → Prop} {Lq : (Nat → Option Nat) → Act → Prop} (hs : waitB md ops (n + m) p = true) (hp : p < n ∨ n + m ≤ p) (hc : Region.chainB md ops (n + m) = true) (hn : n + m < ops.size) :
  ∀ (l : List Oper) (k : Nat) (G : Nat → Option Nat) (got : Array Bool) (a : Act), (∀ j, j < l.length → l[j]? = ops[k + j]?) → n ≤ k → k + l.length = n + m → HeadInv md ops (n + m) got → (∀ j, j < n → got.getD j true = true) →
  Region.lexHead md ops g l.length k got = true → Ah P al Lq l k G a →
  FL P md ops w al n m g Q (fun G' got' a' => Region.seqB md ops g (n + m) got' = true ∧ Lq G' a') l.length G got a
 | [], k, G, got, a, _, _, hk, _, _, hB, h => by
  obtain rfl : k = n + m := by simpa using hk
  exact ⟨by simpa [Region.lexHead] using hB, h⟩
 | o :: l, k, G, got, a, hl, hnk, hk, inv, hall, hB, h => by
  have h0 : ops[k]? = some o := by simpa using (hl 0 (by simp)).symm
  simp only [List.length_cons, Region.lexHead, Bool.and_eq_true] at hB
  obtain ⟨⟨hr, hf⟩, hB'⟩ := hB
  have hkn : k < n + m := by simp only [List.length_cons] at hk; omega
  have hr' : k ∈ Region.ready md ops got := by simpa using hr
  obtain ⟨d, ha, hh⟩ := h
  refine FL_firstA h0 ha hs hp hc hn hnk hkn (fun G' got' a' hL => seqB_ready hL.1) l.length G got a inv hall (Region.free_spec h0 hf) hr' fun b => ?_
  exact FL_lexA hs hp hc hn l (k + 1) _ _ _ (fun j hj => by have := hl (j + 1) (by simp; omega); simpa [Nat.add_assoc, Nat.add_comm 1 j] using this) (by omega) (by simp only [List.length_cons] at hk; omega) (inv.set hr' hkn)
   (fun j hj => by
    have hjk : k ≠ j := by omega
    rw [getD_set_ne true hjk]; exact hall j hj) hB' (hh b)
theorem FL_lex {g p : Nat} {Q : Exit → Act → World → Prop} {Lq : (Nat → Option Nat) → Act → Prop} {A : Act} {la : List Oper} (hL : ∀ G got a u, Cl w al G u → (Region.seqB md ops g (n + m) got = true ∧ Lq G a) → wpAny P md ops Q g got a u) (hQ : p < n → NoFrame Q) (hpu : ∀ o, ops[p]? = some o → Pure P o) (hp : p < n ∨ n + m ≤ p) (hla : ∀ j, j < la.length → la[j]? = ops[n + j]?) (hlm : la.length = m) (hsel : Region.noSelect ops = true)
  (hs : waitB md ops (n + m) p = true) (hc : Region.chainB md ops (n + m) = true) (hn : n + m < ops.size) :
  ∀ (l : List Oper) (k : Nat) (G : Nat → Option Nat) (got : Array Bool) (a : Act), (∀ j, j < l.length → l[j]? = ops[k + j]?) → k + l.length = n → HeadInv md ops (n + m) got → (∀ j, j < k → got.getD j true = true) →
  Region.lexHead md ops g (l.length + m) k got = true → Ch P ops w al A l a → Ah P al Lq la n G A →
  FL P md ops w al n m g Q (fun G' got' a' => Region.seqB md ops g (n + m) got' = true ∧ Lq G' a') (l.length + m) G got a
 | [], k, G, got, a, _, hk, inv, hall, hB, h, hA => by
  obtain rfl : k = n := by simpa using hk
  subst hlm
  simp only [List.length_nil, Nat.zero_add] at hB ⊢
  rw [show a = A from h]
  exact FL_lexA hs hp hc hn la k G got A hla (Nat.le_refl _) rfl inv hall hB hA
 | o :: l, k, G, got, a, hl, hk, inv, hall, hB, h, hA => by
  have h0 : ops[k]? = some o := by simpa using (hl 0 (by simp)).symm
  rw [show (o :: l).length + m = (l.length + m) + 1 by simp only [List.length_cons]; omega] at hB ⊢
  simp only [Region.lexHead, Bool.and_eq_true] at hB
  obtain ⟨⟨hr, hf⟩, hB'⟩ := hB
  have hkn : k < n := by simp only [List.length_cons] at hk; omega
  have hr' : k ∈ Region.ready md ops got := by simpa using hr
  obtain ⟨v, hy, hK⟩ := h
  exact FL_first hL hQ hpu h0 (Region.noSelect_spec hsel) hs hc hn hkn (fun G' got' a' hL => seqB_ready hL.1) (l.length + m) G got a inv (Region.free_spec h0 hf) hr' hy
   (FL_lex hL hQ hpu hp hla hlm hsel hs hc hn l (k + 1) G _ _ (fun j hj => by have := hl (j + 1) (by simp; omega); simpa [Nat.add_assoc, Nat.add_comm 1 j] using this) (by simp only [List.length_cons] at hk; omega) (inv.set hr' (by omega))
    (fun j hj => getD_listed (by rw [inv.size]; omega) hall hj) hB' hK hA)
theorem chain_of {A : Act} {N : Nat} : ∀ (l : List Oper) (a : Act), a.tmps.size = N → dstB N l = true → (∀ G, (∃ u, Cl w al G u) → wpQuiet P ops (Cl w al G) (fun a' => a' = A) l a) → Ch P ops w al A l a
 | [], a, _, _, h => h (fun _ => none) ⟨w, Below.refl _ _, fun i g e => (by cases e), fun i j g e => (by cases e)⟩
 | o :: l, a, hN, hD, h => by
  have h0 : ∃ u, Cl w al (fun _ => none) u := ⟨w, Below.refl _ _, fun i g e => (by cases e), fun i j g e => (by cases e)⟩
  unfold dstB at hD
  simp only [Bool.and_eq_true] at hD
  obtain ⟨hd, hD'⟩ := hD
  cases ho : o.dst with
  | none => rw [ho] at hd; cases hd
  | some d =>
   rw [ho] at hd
   simp only [Bool.and_eq_true, decide_eq_true_eq, List.all_eq_true, bne_iff_ne] at hd
   obtain ⟨v, _, hv⟩ := quiet_cons (h _ h0)
   have slot : ∀ G, (∃ u, Cl w al G u) → ∀ x, wpQuiet P ops (Cl w al G) (fun a' => a' = A) l (a.put o.dst x) → A.tmps[d]? = some x := fun G hG x hx => by
    rw [last_slot l _ hx hd.2, ho]
    exact put_get a d x (by rw [hN]; exact hd.1)
   have all : ∀ G, (∃ u, Cl w al G u) → YieldsIn P ops (Cl w al G) o v a ∧ wpQuiet P ops (Cl w al G) (fun a' => a' = A) l (a.put o.dst v) := fun G hG => by
    obtain ⟨x, hy, hx⟩ := quiet_cons (h G hG)
    have e : x = v := Option.some.inj ((slot G hG x hx).symm.trans (slot _ h0 v hv))
    rw [e] at hy hx
    exact ⟨hy, hx⟩
   exact ⟨v, fun G hG => (all G hG).1, chain_of l _ ((put_size ..).trans hN) hD' fun G hG => (all G hG).2⟩
end
section
variable {P : Program}
theorem region_float {id : Nat} {Q : Exit → Act → World → Prop} {a A : Act} {w : World} {l : List Oper} (n m N p : Nat) (al : Nat → TypeId × Array Value) (hm : P.follows .mixedOrders = true) (hB : floatB .any l.toArray (n + m) p = true)
  (hQ : p < n → NoFrame Q) (hpu : ∀ o, l.toArray[p]? = some o → Pure P o) (hp : p < n ∨ n + m ≤ p)
  (hD : dstB N (l.take n) = true) (hN : a.tmps.size = N)
  (h1 : ∀ (T : Type) (_ : Nonempty T) (f : T → World), ClassB w f → wpQuiet P l.toArray (fun w' => ∃ x, w' = f x) (fun a' => a' = A) (l.take n) a)
  (h2 : Ah P al (fun G a' => ∀ u, Cl w al G u → wpList P l.toArray Q (l.drop (n + m)) a' u) ((l.drop n).take m) n (fun _ => none) A) : (Code.region id l.toArray true).wp P Q a w := by
 simp only [floatB, Bool.and_eq_true, decide_eq_true_eq] at hB
 obtain ⟨⟨⟨⟨hsel, hn⟩, hs⟩, hc⟩, hlex⟩ := hB
 have hn' : n + m < l.length := by simpa using hn
 have htl : (l.take n).length = n := by simp; omega
 have hml : ((l.drop n).take m).length = m := by simp; omega
 have hdl : (l.drop (n + m)).length = l.toArray.size - (n + m) := by simp
 have inv0 : HeadInv .any l.toArray (n + m) (Array.replicate l.toArray.size false) :=
  ⟨by simp, fun j oj _ hl => (by rw [getD_replicate_false] at hl; cases hl), fun t _ ht => getD_in (by simpa using ht) (getD_replicate_false _ _)⟩
 have hch : Ch P l.toArray w al A (l.take n) a := by
  refine chain_of (N := N) _ _ hN hD fun G hG => ?_
  obtain ⟨u, hu⟩ := hG
  have := h1 {v // Cl w al G v} ⟨⟨u, hu⟩⟩ Subtype.val ⟨fun x => x.2.1, fun x v hv => ⟨⟨v, x.2.step hv⟩, rfl⟩⟩
  have e : (fun w' => ∃ x : {v // Cl w al G v}, w' = x.1) = Cl w al G := by
   funext w'
   exact propext ⟨fun ⟨x, hx⟩ => hx ▸ x.2, fun h => ⟨⟨w', h⟩, rfl⟩⟩
  rw [e] at this
  exact this
 have hL : ∀ G got a' u, Cl w al G u → (Region.seqB .any l.toArray (l.toArray.size - (n + m)) (n + m) got = true ∧ ∀ u, Cl w al G u → wpList P l.toArray Q (l.drop (n + m)) a' u) → wpAny P .any l.toArray Q (l.toArray.size - (n + m)) got a' u := fun G got a' u hu hL => by
  have := wpAny_of_seq (md := .any) (Q' := Q) (l.drop (n + m)) (n + m) got a' u (fun j => by simp [List.getElem?_drop]) (by rw [hdl]; exact hL.1) (hL.2 u hu)
  rwa [hdl] at this
 have H := FL_lex (md := .any) (g := l.toArray.size - (n + m)) (P := P) (w := w) (al := al) (Lq := fun G a' => ∀ u, Cl w al G u → wpList P l.toArray Q (l.drop (n + m)) a' u) (la := (l.drop n).take m) (m := m) (n := n) (A := A) (Q := Q)
  hL hQ hpu hp (fun j hj => by
   have hj' : j < m := by rw [hml] at hj; exact hj
   simp [hj']) hml hsel hs hc hn (l.take n) 0 (fun _ => none) _ a (fun j hj => by
   have hj' : j < n := by rw [htl] at hj; exact hj
   simp [hj']) (by simpa using htl) inv0 (fun j hj => by omega) (by rw [htl]; exact hlex) hch h2
 refine wp_region_any hm ?_
 have c0 : Cl w al (fun _ => none) { w with drawn := w.drawn + 1 } := ⟨below_draw w, fun i g e => (by cases e), fun i j g e => (by cases e)⟩
 have := FL_any hL _ _ _ _ _ c0 H
 rw [htl, show n + m + (l.toArray.size - (n + m)) = l.toArray.size by omega] at this
 exact this
theorem reg_late1 {id : Nat} {Q : Exit → Act → World → Prop} {a : Act} {w : World} {l : List Oper} (n N p : Nat) (d : Tmp) (t : TypeId) (z : Array Value) (o : Oper) (hm : P.follows .mixedOrders = true) (hB : floatB .any l.toArray (n + 1) p = true) (hpu : ∀ o, l.toArray[p]? = some o → Pure P o) (hp : p < n ∨ n + 1 ≤ p)
  (hD : dstB N (l.take n) = true) (hN : a.tmps.size = N) (ho : (l.drop n).take 1 = [o]) (ha : Alc P o d t z)
  (h : ∃ A : Act, (∀ (T : Type) (_ : Nonempty T) (f : T → World), ClassB w f → wpQuiet P l.toArray (fun w' => ∃ x, w' = f x) (fun a' => a' = A) (l.take n) a) ∧
  (∀ (g : Nat) (v : World), Below w.heap.size w v → w.heap.size ≤ g → Has v g t z → wpList P l.toArray (NoPanic Q) (l.drop (n + 1)) (A.put (some d) (.pointer (some ⟨g, 0, none⟩))) v)) : (Code.region id l.toArray true).wp P Q a w := by
 obtain ⟨A, h1, h2⟩ := h
 refine wp_region_noPanic ?_
 refine region_float (A := A) n 1 N p (fun _ => (t, z)) hm hB (fun _ _ _ _ _ h => h) hpu hp hD hN h1 ?_
 rw [ho]
 refine ⟨d, ha, fun g u hu => ?_⟩
 have h := hu.2.1 n g (by unfold upd; simp)
 exact h2 g u hu.1 h.1 h.2
theorem reg_float1 {id : Nat} {Q : Exit → Act → World → Prop} {a : Act} {w : World} {l : List Oper} (n N : Nat) (d : Tmp) (t : TypeId) (z : Array Value) (o : Oper) (hm : P.follows .mixedOrders = true) (hB : floatB .any l.toArray (n + 1) l.length = true)
  (hD : dstB N (l.take n) = true) (hN : a.tmps.size = N) (ho : (l.drop n).take 1 = [o]) (ha : Alc P o d t z)
  (h : ∃ A : Act, (∀ (T : Type) (_ : Nonempty T) (f : T → World), ClassB w f → wpQuiet P l.toArray (fun w' => ∃ x, w' = f x) (fun a' => a' = A) (l.take n) a) ∧
  (∀ (g : Nat) (v : World), Below w.heap.size w v → w.heap.size ≤ g → Has v g t z → wpList P l.toArray Q (l.drop (n + 1)) (A.put (some d) (.pointer (some ⟨g, 0, none⟩))) v)) : (Code.region id l.toArray true).wp P Q a w := by
 have hl : n + 1 < l.length := by
  simp only [floatB, Bool.and_eq_true, decide_eq_true_eq] at hB
  simpa using hB.1.1.1.2
 obtain ⟨A, h1, h2⟩ := h
 refine region_float (A := A) n 1 N l.length (fun _ => (t, z)) hm hB (fun h => absurd h (by omega)) (fun o ho => by simp at ho) (.inr (Nat.le_of_lt hl)) hD hN h1 ?_
 rw [ho]
 refine ⟨d, ha, fun g u hu => ?_⟩
 have h := hu.2.1 n g (by unfold upd; simp)
 exact h2 g u hu.1 h.1 h.2
theorem reg_float2 {id : Nat} {Q : Exit → Act → World → Prop} {a : Act} {w : World} {l : List Oper} (n N : Nat) (d d' : Tmp) (t t' : TypeId) (z z' : Array Value) (o o' : Oper) (hm : P.follows .mixedOrders = true) (hB : floatB .any l.toArray (n + 2) l.length = true)
  (hD : dstB N (l.take n) = true) (hN : a.tmps.size = N) (ho : (l.drop n).take 2 = [o, o']) (ha : Alc P o d t z) (ha' : Alc P o' d' t' z')
  (h : ∃ A : Act, (∀ (T : Type) (_ : Nonempty T) (f : T → World), ClassB w f → wpQuiet P l.toArray (fun w' => ∃ x, w' = f x) (fun a' => a' = A) (l.take n) a) ∧
  (∀ (g g' : Nat) (v : World), Below w.heap.size w v → w.heap.size ≤ g → w.heap.size ≤ g' → g ≠ g' → Has v g t z → Has v g' t' z' →
   wpList P l.toArray Q (l.drop (n + 2)) ((A.put (some d) (.pointer (some ⟨g, 0, none⟩))).put (some d') (.pointer (some ⟨g', 0, none⟩))) v)) : (Code.region id l.toArray true).wp P Q a w := by
 have hl : n + 2 < l.length := by
  simp only [floatB, Bool.and_eq_true, decide_eq_true_eq] at hB
  simpa using hB.1.1.1.2
 obtain ⟨A, h1, h2⟩ := h
 refine region_float (A := A) n 2 N l.length (fun i => if i = n then (t, z) else (t', z')) hm hB (fun h => absurd h (by omega)) (fun o ho => by simp at ho) (.inr (Nat.le_of_lt hl)) hD hN h1 ?_
 rw [ho]
 refine ⟨d, by simpa using ha, fun g => ⟨d', by simpa using ha', fun g' u hu => ?_⟩⟩
 have e1 : upd (upd (fun _ => none) n g) (n + 1) g' n = some g := by unfold upd; simp
 have e2 : upd (upd (fun _ => none) n g) (n + 1) g' (n + 1) = some g' := by unfold upd; simp
 have k1 : w.heap.size ≤ g ∧ Has u g t z := by
  have := hu.2.1 n g e1
  simpa using this
 have k2 : w.heap.size ≤ g' ∧ Has u g' t' z' := by
  have := hu.2.1 (n + 1) g' e2
  simpa using this
 exact h2 g g' u hu.1 k1.1 k2.1 (fun e => by
  have := hu.2.2 n (n + 1) g e1 (by rw [e2, e])
  omega) k1.2 k2.2
end
end Go.Proofs.YtjhcejmfiekjgaaGreat.Fx.FB
/- SolveTies: what two bodies give, by the statement's own words. -/
namespace Go.Proofs.YtjhcejmfiekjgaaGreat.Fx
open Go.ChangeShapes Go.WideShapes Go.ChangeAt Go.RowKit
set_option linter.unusedVariables false
theorem alc_M' {d : Tmp} {ty : TypeId} {ps : String} {af : Array Edge} : Alc Tryz.prog { dst := some d, op := .alloc 96, type := ty, pos := ps, after := af, guard := none } d 96 #[.int .i64 0, .int .i64 0, .int .i64 0, .int .i64 0] :=
 ⟨rfl, rfl, fun a w => by kernel_rfl⟩
theorem ret_i11 {a b : Int} (h : a = b) : Ending.returned (.int .i64 a) = .returned (.int .i64 b) := by rw [h]
theorem give_c (a b : Bd) (rax ray rbx rby nx ny r : Int) {w : World} (hA : BdI a) (hPA : BodyP a) (hSA : Sl w a.ao a.n a.f) (hB : BdI b) (hPB : BodyP b) (hSB : Sl w b.ao b.n b.f) (h1 : I64 rax) (h2 : I64 ray) (h3 : I64 rbx) (h4 : I64 rby) (h5 : I64 nx) (h6 : I64 ny)
  (er : giveS a b (rax, ray) (rbx, rby) (nx, ny) = r) :
  Calls Tryz.prog 16 #[bdV a, bdV b, vecV rax ray, vecV rbx rby, vecV nx ny] w fun e w' => e = .returned (.int .i64 r) ∧ Below w.heap.size w w' := by
 have iA2 : I64 (moveB a) := move_I a
 have iB2 := move_I b
 have iA3 := spin_I a
 have iB3 := spin_I b
 unfold giveS crossV at er
 simp only at er
 obtain ⟨W, eW⟩ : ∃ W, W = ((((w.alloc (.cells #[.int .i64 a.id, .int .i64 a.x, .int .i64 a.y, .int .i64 a.vx, .int .i64 a.vy, .int .i64 a.an, .int .i64 a.sp, .int .i64 a.de, .int .i64 a.k, .int .i64 a.r, .slice a.ao a.n a.c] 43)).alloc (.cells #[.int .i64 b.id, .int .i64 b.x, .int .i64 b.y, .int .i64 b.vx, .int .i64 b.vy, .int .i64 b.an, .int .i64 b.sp, .int .i64 b.de, .int .i64 b.k, .int .i64 b.r, .slice b.ao b.n b.c] 43)).alloc (.cells #[.int .i64 rax, .int .i64 ray] 26)).alloc (.cells #[.int .i64 rbx, .int .i64 rby] 26)).alloc (.cells #[.int .i64 nx, .int .i64 ny] 26) := ⟨_, rfl⟩
 obtain ⟨g0, eg0⟩ : ∃ g, w.heap.size = g := ⟨_, rfl⟩
 obtain ⟨g1, eg1⟩ : ∃ g, g0 + 1 = g := ⟨_, rfl⟩
 obtain ⟨g2, eg2⟩ : ∃ g, g1 + 1 = g := ⟨_, rfl⟩
 obtain ⟨g3, eg3⟩ : ∃ g, g2 + 1 = g := ⟨_, rfl⟩
 obtain ⟨g4, eg4⟩ : ∃ g, g3 + 1 = g := ⟨_, rfl⟩
 have KW : Hid (Made w.heap.size w W) := by unfold Hid; rw [eW]; exact (((((Made.rfl_ _ _).cells (Nat.le_refl _) _ _).cells (by simp) _ _).cells (by simp; omega) _ _).cells (by simp; omega) _ _).cells (by simp; omega) _ _
 have HA0 : Hid (Has W g0 43 #[.int .i64 a.id, .int .i64 a.x, .int .i64 a.y, .int .i64 a.vx, .int .i64 a.vy, .int .i64 a.an, .int .i64 a.sp, .int .i64 a.de, .int .i64 a.k, .int .i64 a.r, .slice a.ao a.n a.c]) := by unfold Hid; rw [eW, ← eg0]; exact ((((has_new _ _ _).more _).more _).more _).more _
 have HB0 : Hid (Has W g1 43 #[.int .i64 b.id, .int .i64 b.x, .int .i64 b.y, .int .i64 b.vx, .int .i64 b.vy, .int .i64 b.an, .int .i64 b.sp, .int .i64 b.de, .int .i64 b.k, .int .i64 b.r, .slice b.ao b.n b.c]) := by unfold Hid; rw [eW, ← eg1, ← eg0]; exact (((has_next _ _ _ _).more _).more _).more _
 have HR0 : Hid (Has W g2 26 #[.int .i64 rax, .int .i64 ray]) := by
  unfold Hid; rw [eW, ← eg2, ← eg1, ← eg0]
  have h := has_new ((w.alloc (.cells #[.int .i64 a.id, .int .i64 a.x, .int .i64 a.y, .int .i64 a.vx, .int .i64 a.vy, .int .i64 a.an, .int .i64 a.sp, .int .i64 a.de, .int .i64 a.k, .int .i64 a.r, .slice a.ao a.n a.c] 43)).alloc (.cells #[.int .i64 b.id, .int .i64 b.x, .int .i64 b.y, .int .i64 b.vx, .int .i64 b.vy, .int .i64 b.an, .int .i64 b.sp, .int .i64 b.de, .int .i64 b.k, .int .i64 b.r, .slice b.ao b.n b.c] 43)) 26 #[.int .i64 rax, .int .i64 ray]
  rw [World.size_alloc, World.size_alloc] at h
  exact (h.more _).more _
 have HR1 : Hid (Has W g3 26 #[.int .i64 rbx, .int .i64 rby]) := by
  unfold Hid; rw [eW, ← eg3, ← eg2, ← eg1, ← eg0]
  have h := has_new (((w.alloc (.cells #[.int .i64 a.id, .int .i64 a.x, .int .i64 a.y, .int .i64 a.vx, .int .i64 a.vy, .int .i64 a.an, .int .i64 a.sp, .int .i64 a.de, .int .i64 a.k, .int .i64 a.r, .slice a.ao a.n a.c] 43)).alloc (.cells #[.int .i64 b.id, .int .i64 b.x, .int .i64 b.y, .int .i64 b.vx, .int .i64 b.vy, .int .i64 b.an, .int .i64 b.sp, .int .i64 b.de, .int .i64 b.k, .int .i64 b.r, .slice b.ao b.n b.c] 43)).alloc (.cells #[.int .i64 rax, .int .i64 ray] 26)) 26 #[.int .i64 rbx, .int .i64 rby]
  rw [World.size_alloc, World.size_alloc, World.size_alloc] at h
  exact h.more _
 have HN0 : Hid (Has W g4 26 #[.int .i64 nx, .int .i64 ny]) := by
  unfold Hid; rw [eW, ← eg4, ← eg3, ← eg2, ← eg1, ← eg0]
  have h := has_new ((((w.alloc (.cells #[.int .i64 a.id, .int .i64 a.x, .int .i64 a.y, .int .i64 a.vx, .int .i64 a.vy, .int .i64 a.an, .int .i64 a.sp, .int .i64 a.de, .int .i64 a.k, .int .i64 a.r, .slice a.ao a.n a.c] 43)).alloc (.cells #[.int .i64 b.id, .int .i64 b.x, .int .i64 b.y, .int .i64 b.vx, .int .i64 b.vy, .int .i64 b.an, .int .i64 b.sp, .int .i64 b.de, .int .i64 b.k, .int .i64 b.r, .slice b.ao b.n b.c] 43)).alloc (.cells #[.int .i64 rax, .int .i64 ray] 26)).alloc (.cells #[.int .i64 rbx, .int .i64 rby] 26)) 26 #[.int .i64 nx, .int .i64 ny]
  rw [World.size_alloc, World.size_alloc, World.size_alloc, World.size_alloc] at h
  exact h
 have HMA := hid (fun v (k : Below W.heap.size W v) => mof_c a hA hPA (Sl.blw (Sl.blw hSA KW.out.1) k))
 have HMB := hid (fun v (k : Below W.heap.size W v) => mof_c b hB hPB (Sl.blw (Sl.blw hSB KW.out.1) k))
 rw [mass_enc] at HMA
 rw [mass_enc] at HMB
 have l4 : g4 < W.heap.size := HN0.out.here
 obtain ⟨c, ec⟩ : ∃ x, subF (mulF rax ny) (mulF ray nx) = x := ⟨_, rfl⟩
 obtain ⟨d, ed⟩ : ∃ x, subF (mulF rbx ny) (mulF rby nx) = x := ⟨_, rfl⟩
 have ic : I64 c := by rw [← ec]; exact i64_sub _ _
 have id_ : I64 d := by rw [← ed]; exact i64_sub _ _
 rw [ec, ed] at er
 obtain ⟨A0, e0⟩ : ∃ x, mA a = x := ⟨_, rfl⟩
 obtain ⟨A1, e1⟩ : ∃ x, mI a = x := ⟨_, rfl⟩
 obtain ⟨A2, e2⟩ : ∃ x, moveB a = x := ⟨_, rfl⟩
 obtain ⟨A3, e3⟩ : ∃ x, spinB a = x := ⟨_, rfl⟩
 obtain ⟨B0, f0⟩ : ∃ x, mA b = x := ⟨_, rfl⟩
 obtain ⟨B1, f1⟩ : ∃ x, mI b = x := ⟨_, rfl⟩
 obtain ⟨B2, f2⟩ : ∃ x, moveB b = x := ⟨_, rfl⟩
 obtain ⟨B3, f3⟩ : ∃ x, spinB b = x := ⟨_, rfl⟩
 rw [e2] at iA2; rw [e3] at iA3; rw [f2] at iB2; rw [f3] at iB3
 rw [e2, e3, f2, f3] at er
 unfold encM at HMA HMB
 rw [e0, e1, e2, e3] at HMA
 rw [f0, f1, f2, f3] at HMB
 obtain ⟨s1, q1⟩ : ∃ x, addF A2 B2 = x := ⟨_, rfl⟩
 obtain ⟨m1, q2⟩ : ∃ x, mulF c c = x := ⟨_, rfl⟩
 obtain ⟨m2, q3⟩ : ∃ x, mulF A3 m1 = x := ⟨_, rfl⟩
 obtain ⟨s2, q4⟩ : ∃ x, addF s1 m2 = x := ⟨_, rfl⟩
 obtain ⟨m3, q5⟩ : ∃ x, mulF d d = x := ⟨_, rfl⟩
 obtain ⟨m4, q6⟩ : ∃ x, mulF B3 m3 = x := ⟨_, rfl⟩
 obtain ⟨G, q7⟩ : ∃ x, addF s2 m4 = x := ⟨_, rfl⟩
 rw [q1, q2, q3, q4, q5, q6, q7] at er
 have is1 : I64 s1 := by rw [← q1]; exact i64_add _ _
 have im1 : I64 m1 := by rw [← q2]; exact i64_mul _ _
 have im2 : I64 m2 := by rw [← q3]; exact i64_mul _ _
 have is2 : I64 s2 := by rw [← q4]; exact i64_add _ _
 have im3 : I64 m3 := by rw [← q5]; exact i64_mul _ _
 have im4 : I64 m4 := by rw [← q6]; exact i64_mul _ _
 have iG : I64 G := by rw [← q7]; exact i64_add _ _
 have EC := hid ec; have ED := hid ed; have Q1 := hid q1; have Q2 := hid q2; have Q3 := hid q3; have Q4 := hid q4; have Q5 := hid q5; have Q6 := hid q6; have Q7 := hid q7; have ER := hid er
 clear hA hPA hSA hB hPB hSB e0 e1 e2 e3 f0 f1 f2 f3 ec ed q1 q2 q3 q4 q5 q6 q7 er
 go_enter Tryz.func16, Tryz.ntmps16
 go_upto_region 1 with fail
 try rw [← eW]
 try rw [eg0]
 try rw [eg1]
 try rw [eg2]
 try rw [eg3]
 try rw [eg4]
 clear eW eg0
 refine FB.reg_float2 4 49 11 12 96 96 #[.int .i64 0, .int .i64 0, .int .i64 0, .int .i64 0] #[.int .i64 0, .int .i64 0, .int .i64 0, .int .i64 0] _ _ (by kernel_rfl) (by kernel_rfl) (by kernel_rfl) rfl rfl alc_M' alc_M' ?_
 apply Exists.intro
 refine ⟨?h1, ?h2⟩
 case h1 =>
  intro T hT fw hf
  have a0 := hf.reads (show W.cell? ⟨g0, 0, none⟩ = some (.int .i64 a.id) from HA0.out.at_ 0)
  have a1 := hf.reads (show W.cell? ⟨g0, 1, none⟩ = some (.int .i64 a.x) from HA0.out.at_ 1)
  have a2 := hf.reads (show W.cell? ⟨g0, 2, none⟩ = some (.int .i64 a.y) from HA0.out.at_ 2)
  have a3 := hf.reads (show W.cell? ⟨g0, 3, none⟩ = some (.int .i64 a.vx) from HA0.out.at_ 3)
  have a4 := hf.reads (show W.cell? ⟨g0, 4, none⟩ = some (.int .i64 a.vy) from HA0.out.at_ 4)
  have a5 := hf.reads (show W.cell? ⟨g0, 5, none⟩ = some (.int .i64 a.an) from HA0.out.at_ 5)
  have a6 := hf.reads (show W.cell? ⟨g0, 6, none⟩ = some (.int .i64 a.sp) from HA0.out.at_ 6)
  have a7 := hf.reads (show W.cell? ⟨g0, 7, none⟩ = some (.int .i64 a.de) from HA0.out.at_ 7)
  have a8 := hf.reads (show W.cell? ⟨g0, 8, none⟩ = some (.int .i64 a.k) from HA0.out.at_ 8)
  have a9 := hf.reads (show W.cell? ⟨g0, 9, none⟩ = some (.int .i64 a.r) from HA0.out.at_ 9)
  have a10 := hf.reads (show W.cell? ⟨g0, 10, none⟩ = some (.slice a.ao a.n a.c) from HA0.out.at_ 10)
  have b0 := hf.reads (show W.cell? ⟨g1, 0, none⟩ = some (.int .i64 b.id) from HB0.out.at_ 0)
  have b1 := hf.reads (show W.cell? ⟨g1, 1, none⟩ = some (.int .i64 b.x) from HB0.out.at_ 1)
  have b2 := hf.reads (show W.cell? ⟨g1, 2, none⟩ = some (.int .i64 b.y) from HB0.out.at_ 2)
  have b3 := hf.reads (show W.cell? ⟨g1, 3, none⟩ = some (.int .i64 b.vx) from HB0.out.at_ 3)
  have b4 := hf.reads (show W.cell? ⟨g1, 4, none⟩ = some (.int .i64 b.vy) from HB0.out.at_ 4)
  have b5 := hf.reads (show W.cell? ⟨g1, 5, none⟩ = some (.int .i64 b.an) from HB0.out.at_ 5)
  have b6 := hf.reads (show W.cell? ⟨g1, 6, none⟩ = some (.int .i64 b.sp) from HB0.out.at_ 6)
  have b7 := hf.reads (show W.cell? ⟨g1, 7, none⟩ = some (.int .i64 b.de) from HB0.out.at_ 7)
  have b8 := hf.reads (show W.cell? ⟨g1, 8, none⟩ = some (.int .i64 b.k) from HB0.out.at_ 8)
  have b9 := hf.reads (show W.cell? ⟨g1, 9, none⟩ = some (.int .i64 b.r) from HB0.out.at_ 9)
  have b10 := hf.reads (show W.cell? ⟨g1, 10, none⟩ = some (.slice b.ao b.n b.c) from HB0.out.at_ 10)
  have HZ := hid (fun t => hf.below (x := t) (HMA.out (fw t) (hf.1 t)))
  have HY := hid (fun t => hf.below (x := t) (HMB.out (fw t) (hf.1 t)))
  simp only [List.take_succ_cons, List.take_zero]
  repeat (go_big_quiet_step ((go_at_call 37; with_reducible first | exact HZ.out _ | exact HY.out _)))
  exact wpQuiet_nil rfl
 intro g g' w3 k3 hg hg' hne hh hh'
 have HR3 := hid (HR0.out.below k3 HR0.out.here)
 have HS3 := hid (HR1.out.below k3 HR1.out.here)
 have HN3 := hid (HN0.out.below k3 HN0.out.here)
 obtain ⟨W4, e4⟩ : ∃ V, V = (((((((w3.setCell ⟨g, 0, none⟩ (.int .i64 A0)).setCell ⟨g, 1, none⟩ (.int .i64 A1)).setCell ⟨g, 2, none⟩ (.int .i64 A2)).setCell ⟨g, 3, none⟩ (.int .i64 A3)).setCell ⟨g', 0, none⟩ (.int .i64 B0)).setCell ⟨g', 1, none⟩ (.int .i64 B1)).setCell ⟨g', 2, none⟩ (.int .i64 B2)).setCell ⟨g', 3, none⟩ (.int .i64 B3) := ⟨_, rfl⟩
 have z0 := hh.at_ 0
 have z1 := hh.at_ 1
 have z2 := hh.at_ 2
 have z3 := hh.at_ 3
 have y0 := hh'.at_ 0
 have y1 := hh'.at_ 1
 have y2 := hh'.at_ 2
 have y3 := hh'.at_ 3
 simp at z0 z1 z2 z3 y0 y1 y2 y3
 have zf : ∀ i, w3.frozen? ⟨g, i, none⟩ = false := fun i => hh.free i
 have yf : ∀ i, w3.frozen? ⟨g', i, none⟩ = false := fun i => hh'.free i
 have HG4 : Hid (Has W4 g 96 #[.int .i64 A0, .int .i64 A1, .int .i64 A2, .int .i64 A3]) := by
  unfold Hid; rw [e4]
  exact ((((((((hh.put 0 (.int .i64 A0)).put 1 (.int .i64 A1)).put 2 (.int .i64 A2)).put 3 (.int .i64 A3)).other ⟨g', 0, none⟩ (by show g ≠ g'; exact hne) (.int .i64 B0)).other ⟨g', 1, none⟩ (by show g ≠ g'; exact hne) (.int .i64 B1)).other ⟨g', 2, none⟩ (by show g ≠ g'; exact hne) (.int .i64 B2)).other ⟨g', 3, none⟩ (by show g ≠ g'; exact hne) (.int .i64 B3) : Has _ g _ _)
 have HH4 : Hid (Has W4 g' 96 #[.int .i64 B0, .int .i64 B1, .int .i64 B2, .int .i64 B3]) := by
  unfold Hid; rw [e4]
  exact ((((((((hh'.other ⟨g, 0, none⟩ (by show g' ≠ g; omega) (.int .i64 A0)).other ⟨g, 1, none⟩ (by show g' ≠ g; omega) (.int .i64 A1)).other ⟨g, 2, none⟩ (by show g' ≠ g; omega) (.int .i64 A2)).other ⟨g, 3, none⟩ (by show g' ≠ g; omega) (.int .i64 A3)).put 0 (.int .i64 B0)).put 1 (.int .i64 B1)).put 2 (.int .i64 B2)).put 3 (.int .i64 B3) : Has _ g' _ _)
 have keep : ∀ (q : Nat) (t : TypeId) (cs : Array Value), q < W.heap.size → Has w3 q t cs → Has W4 q t cs := fun q t cs hq h => by
  rw [e4]
  exact (((((((h.other ⟨g, 0, none⟩ (by show q ≠ g; omega) _).other ⟨g, 1, none⟩ (by show q ≠ g; omega) _).other ⟨g, 2, none⟩ (by show q ≠ g; omega) _).other ⟨g, 3, none⟩ (by show q ≠ g; omega) _).other ⟨g', 0, none⟩ (by show q ≠ g'; omega) _).other ⟨g', 1, none⟩ (by show q ≠ g'; omega) _).other ⟨g', 2, none⟩ (by show q ≠ g'; omega) _).other ⟨g', 3, none⟩ (by show q ≠ g'; omega) _
 have HR4 := hid (keep g2 _ _ (by omega) HR3.out)
 have HS4 := hid (keep g3 _ _ (by omega) HS3.out)
 have HN4 := hid (keep g4 _ _ l4 HN3.out)
 have K4 : Hid (Below w.heap.size w W4) := by
  have k0 : Below w.heap.size w w3 := KW.out.1.trans (k3.mono KW.out.1.size)
  have hgw : w.heap.size ≤ g := Nat.le_trans KW.out.1.size hg
  have hgw' : w.heap.size ≤ g' := Nat.le_trans KW.out.1.size hg'
  unfold Hid; rw [e4]
  exact (((((((k0.setCell (p := ⟨g, 0, none⟩) hgw _).setCell (p := ⟨g, 1, none⟩) hgw _).setCell (p := ⟨g, 2, none⟩) hgw _).setCell (p := ⟨g, 3, none⟩) hgw _).setCell (p := ⟨g', 0, none⟩) hgw' _).setCell (p := ⟨g', 1, none⟩) hgw' _).setCell (p := ⟨g', 2, none⟩) hgw' _).setCell (p := ⟨g', 3, none⟩) hgw' _
 clear k3 hh hh' HR3 HS3 HN3 HR0 HR1 HN0 HMA HMB HA0 HB0 keep
 simp only [List.drop_succ_cons, List.drop_zero]
 go_upto_region 2 with fail
 try rw [← e4]
 clear e4 z0 z1 z2 z3 y0 y1 y2 y3 zf yf
 refine reg_made (by kernel_rfl) (by kernel_rfl) ?_
 intro T hT fw hf
 have z0 := Class.reads hf (show W4.cell? ⟨g2, 0, none⟩ = some (.int .i64 rax) from HR4.out.at_ 0)
 have z1 := Class.reads hf (show W4.cell? ⟨g2, 1, none⟩ = some (.int .i64 ray) from HR4.out.at_ 1)
 have z2 := Class.reads hf (show W4.cell? ⟨g3, 0, none⟩ = some (.int .i64 rbx) from HS4.out.at_ 0)
 have z3 := Class.reads hf (show W4.cell? ⟨g3, 1, none⟩ = some (.int .i64 rby) from HS4.out.at_ 1)
 have z4 := Class.reads hf (show W4.cell? ⟨g4, 0, none⟩ = some (.int .i64 nx) from HN4.out.at_ 0)
 have z5 := Class.reads hf (show W4.cell? ⟨g4, 1, none⟩ = some (.int .i64 ny) from HN4.out.at_ 1)
 have H1 := hid (fun t => hf.made (x := t) (vcross_is rax ray nx ny c (fw t) h1 h2 h5 h6 EC.out))
 have H2 := hid (fun t => hf.made (x := t) (vcross_is rbx rby nx ny d (fw t) h3 h4 h5 h6 ED.out))
 repeat (go_big_quiet_step ((go_at_call 38; with_reducible first | exact H1.out _ | exact H2.out _)))
 refine wpQuiet_nil ?_
 intro w5 h5'
 have k5 := hf.here h5'
 have HG5 := hid (HG4.out.stays k5 HG4.out.here)
 have HH5 := hid (HH4.out.stays k5 HH4.out.here)
 have K5 : Hid (Below w.heap.size w w5) := K4.out.trans (k5.1.mono K4.out.size)
 clear h5' hf k5 z0 z1 z2 z3 z4 z5 H1 H2 HG4 HH4 HR4 HS4 HN4 K4
 go_upto_region 3 with fail
 refine reg_made (by kernel_rfl) (by kernel_rfl) ?_
 intro T hT fw hf
 have z0 := Class.reads hf (show w5.cell? ⟨g, 2, none⟩ = some (.int .i64 A2) from HG5.out.at_ 2)
 have z1 := Class.reads hf (show w5.cell? ⟨g, 3, none⟩ = some (.int .i64 A3) from HG5.out.at_ 3)
 have z2 := Class.reads hf (show w5.cell? ⟨g', 2, none⟩ = some (.int .i64 B2) from HH5.out.at_ 2)
 have z3 := Class.reads hf (show w5.cell? ⟨g', 3, none⟩ = some (.int .i64 B3) from HH5.out.at_ 3)
 have H1 := hid (fun t => hf.same (x := t) (add_is A2 B2 s1 (fw t) iA2 iB2 Q1.out))
 have H2 := hid (fun t => hf.same (x := t) (mul_is c c m1 (fw t) ic ic Q2.out))
 have H3 := hid (fun t => hf.same (x := t) (mul_is A3 m1 m2 (fw t) iA3 im1 Q3.out))
 have H4 := hid (fun t => hf.same (x := t) (add_is s1 m2 s2 (fw t) is1 im2 Q4.out))
 have H5 := hid (fun t => hf.same (x := t) (mul_is d d m3 (fw t) id_ id_ Q5.out))
 have H6 := hid (fun t => hf.same (x := t) (mul_is B3 m3 m4 (fw t) iB3 im3 Q6.out))
 have H7 := hid (fun t => hf.same (x := t) (add_is s2 m4 G (fw t) is2 im4 Q7.out))
 repeat (go_big_quiet_step ((first
  | (go_at_call 26; with_reducible first | exact H1.out _ | exact H4.out _ | exact H7.out _)
  | (go_at_call 12; with_reducible first | exact H2.out _ | exact H3.out _ | exact H5.out _ | exact H6.out _))))
 refine wpQuiet_nil ?_
 intro w6 h6'
 have k6 := hf.here h6'
 have K6 : Hid (Below w.heap.size w w6) := K5.out.trans (k6.1.mono K5.out.size)
 clear h6' hf k6 z0 z1 z2 z3 H1 H2 H3 H4 H5 H6 H7 HG5 HH5 K5
 by_cases hG : 0 < G
 ·have er := ER.out
  rw [if_pos hG] at er
  have d0 : decide (0 < G) = true := decide_eq_true hG
  have ER2 := hid er
  clear er
  go_wp2_with fail
  refine (div_is 4294967296 G r _ (by unfold I64; omega) iG ER2.out).mono ?_
  rintro e w7 ⟨rfl, q, rfl⟩
  go_wp2_with fail
  go_ret
  exact ⟨rfl, K6.out.trans ((((Made.rfl_ _ _).draws q).1 : Below w6.heap.size w6 _).mono K6.out.size)⟩
 ·have er := ER.out
  rw [if_neg hG] at er
  have d0 : decide (0 < G) = false := decide_eq_false hG
  have ER2 := hid er
  clear er
  go_wp2_with fail
  go_ret
  exact ⟨ret_i11 ER2.out, K6.out⟩
end Go.Proofs.YtjhcejmfiekjgaaGreat.Fx