/- Regions that draw their order and make variables, with any number of operations that come up late. -/
import Derived.Test.YtdaelblapgcljaaMem
namespace Go.Proofs.Ytdaelblapgcljaa.Fx.FS
open Go.ChangeShapes Go.WideShapes Go.ChangeAt Go.RowKit
set_option linter.unusedVariables false
section
variable {P : Program} {ops : Array Oper} {md : Region.Mode} {w : World} {al : Nat → TypeId × Array Value} {n m : Nat}
def waitB (md : Region.Mode) (ops : Array Oper) (k : Nat) (ps : List Nat) : Bool := (List.range k).all fun i => ps.contains i || Region.waitsFor md ops k i || ((List.range k).any fun j => Region.waitsFor md ops k j && Region.waitsFor md ops j i) || (down md ops 6 ((List.range k).filter fun j => Region.waitsFor md ops k j)).contains i

theorem ready_last {k i : Nat} {ps : List Nat} {got : Array Bool} (hw : waitB md ops k ps = true) (inv : HeadInv md ops k got) (hj : k ∈ Region.ready md ops got) (hi : i < k) (hun : got.getD i true = false) : i ∈ ps := by
  have h1 := List.all_eq_true.1 hw i (List.mem_range.2 hi)
  simp only [Bool.or_eq_true, List.contains_iff_mem] at h1
  obtain ⟨_, ot, hot, hall⟩ := mem_ready.1 hj
  have direct : ∀ j, Region.waitsFor md ops k j = true → got.getD j false = true := fun j h => by
    obtain ⟨o', ho', e, he, hb, hon⟩ := Region.waitsFor_spec h
    have e1 : o' = ot := Option.some.inj (ho'.symm.trans hot)
    subst e1
    rw [← hon]
    exact hall e he hb
  have no : got.getD i false = true → False := fun h => by rw [getD_both hun] at h; cases h
  rcases h1 with ((h1 | h1) | h1) | h1
  · exact h1
  · exact (no (direct i h1)).elim
  · obtain ⟨j, _, h2⟩ := List.any_eq_true.1 h1
    simp only [Bool.and_eq_true] at h2
    obtain ⟨o', ho', e, he, hb, hon⟩ := Region.waitsFor_spec h2.2
    refine (no ?_).elim
    rw [← hon]
    exact inv.closed j o' ho' (direct j h2.1) e he hb
  · exact (no (down_got inv 6 _ (fun j hj => direct j (List.mem_filter.1 hj).2) i (h1))).elim

theorem FL_first {i g : Nat} {ps : List Nat} {Q : Exit → Act → World → Prop} {oi : Oper} {v : Value} {L : (Nat → Option Nat) → Array Bool → Act → Prop} (hL : ∀ G got a u, Cl w al G u → L G got a → wpAny P md ops Q g got a u) (hQ : NoFrame Q) (hpu : ∀ p ∈ ps, ∀ o, ops[p]? = some o → Pure P o) (hi : ops[i]? = some oi) (hsel : ∀ (j : Nat) (o : Oper) cs b, ops[j]? = some o → o.op ≠ .select cs b)
    (hs : waitB md ops (n + m) ps = true) (hc : Region.chainB md ops (n + m) = true) (hn : n + m < ops.size) (hin : i < n)
    (hdone : ∀ G got a, L G got a → ∀ j ∈ Region.ready md ops got, n + m ≤ j) :
    ∀ (f : Nat) (G : Nat → Option Nat) (got : Array Bool) (a : Act), HeadInv md ops (n + m) got →
      (∀ j oj, ops[j]? = some oj → j ≠ i → got.getD j true = false → (∀ e ∈ oj.after, Region.binds md e = true → e.on ≠ i) → oi.apart ops oj = true) →
      i ∈ Region.ready md ops got → YA P ops w al oi v a →
      FL P md ops w al n m g Q L f G (got.setIfInBounds i true) (a.put oi.dst v) → FL P md ops w al n m g Q L (f + 1) G got a
  | f, G, got, a, inv, hfree, hr, hy, H => by
    have hun := (mem_ready.1 hr).1
    refine ⟨fun h => (by rw [h] at hr; cases hr), fun j hj => ?_⟩
    have hle := ready_le hc inv hj
    by_cases hji : j = i
    · subst hji; exact .inl ⟨hin, oi, v, hi, hy, H⟩
    · have hrj := ready_mono hj hji
      obtain ⟨hjun, oj, hoj, hall⟩ := mem_ready.1 hj
      have hnot : ∀ e ∈ oj.after, Region.binds md e = true → e.on ≠ i := fun e he hb heq => by
        have h1 := hall e he hb
        rw [heq, getD_both hun] at h1
        cases h1
      have hap := hfree j oj hoj hji hjun hnot
      obtain ⟨p1, p2, p3⟩ := Oper.apart_spec hap
      have hfree' : ∀ k ok, ops[k]? = some ok → k ≠ i → (got.setIfInBounds j true).getD k true = false → (∀ e ∈ ok.after, Region.binds md e = true → e.on ≠ i) → oi.apart ops ok = true := fun k ok hk hki hun' hno => by
        refine hfree k ok hk hki ?_ hno
        by_cases hjk : j = k
        · subst hjk; exact hjun
        · rw [getD_set_ne true hjk] at hun'; exact hun'
      by_cases hjl : j = n + m
      · have hip : i ∈ ps := ready_last hs inv (by rw [← hjl]; exact hj) (by omega) hun
        refine .inr (.inr ⟨hjl, fun u hu => ?_⟩)
        have hy' : Yields P ops oi v a := by
          rcases hy G ⟨u, hu⟩ with ⟨hw, hv⟩ | hw
          · exact .inl ⟨hw, hpu i hip oi hi a _ u v (hv u hu)⟩
          · exact .inr hw
        have hQ' := hQ
        have fin : ∀ N, wpOp P ops Q j (wpAny P md ops Q N ((got.setIfInBounds i true).setIfInBounds j true)) (a.put oi.dst v) u → wpOp P ops Q j (wpAny P md ops Q (N + 1) (got.setIfInBounds j true)) a u := fun N h => by
          refine wpOp_mono (fun a' w' h3 => wpAny_first hi hsel (fun c a w h => hQ' c _ _ w h) N (got.setIfInBounds j true) a' w' hfree' (ready_mono hr (Ne.symm hji)) h3.1 ?_) (wpOp_put hoj hap (fun cs b => hsel i oi cs b hi) (fun cs b => hsel j oj cs b hoj) (fun c a w h => hQ' c _ _ w h) hy' h)
          rw [Array.setIfInBounds_comm _ _ hji]
          exact h3.2
        match f, H with
        | 0, H =>
          have X := hL _ _ _ u hu H
          match g, X with
          | 0, X => rw [X.1] at hrj; cases hrj
          | g + 1, X => rw [Nat.zero_add]; exact fin g (X.2 j hrj)
        | f + 1, H =>
          rcases H.2 j hrj with ⟨h, _⟩ | ⟨_, h, _⟩ | ⟨_, h⟩
          · omega
          · omega
          · rw [show f + 1 + g = f + g + 1 by omega]; exact fin _ (h u hu)
      have hjn : j < n + m := by omega
      match f, H with
      | 0, H => have := hdone _ _ _ H j hrj; omega
      | f + 1, H =>
        rcases H.2 j hrj with ⟨hjn', o, u, ho, hyj, hf⟩ | ⟨h1, h2, o, d, ho, ha, hf⟩ | ⟨h1, _⟩
        · have e : o = oj := Option.some.inj (ho.symm.trans hoj)
          subst e
          refine .inl ⟨hjn', o, u, ho, hyj.unput (fun cs b => hsel j o cs b ho) p1, ?_⟩
          refine FL_first hL hQ hpu hi hsel hs hc hn hin hdone f G _ _ (inv.set hj hjn) hfree' (ready_mono hr (Ne.symm hji)) (hy.put (fun cs b => hsel i oi cs b hi) p3) ?_
          rw [Array.setIfInBounds_comm _ _ hji, ← Act.put_comm a v u p2]
          exact hf
        · have e : o = oj := Option.some.inj (ho.symm.trans hoj)
          subst e
          refine .inr (.inl ⟨h1, h2, o, d, ho, ha, fun g => ?_⟩)
          have hyi : YA P ops w al oi v (a.put o.dst (.pointer (some ⟨g, 0, none⟩))) := hy.put (fun cs b => hsel i oi cs b hi) p3
          have hg := hf g
          rw [← ha.dst] at hg ⊢
          refine FL_first hL hQ hpu hi hsel hs hc hn hin hdone f _ _ _ (inv.set hj hjn) hfree' (ready_mono hr (Ne.symm hji)) hyi ?_
          rw [Array.setIfInBounds_comm _ _ hji, ← Act.put_comm a v _ p2]
          exact hg
        · omega


theorem FL_firstA {i gg : Nat} {ps : List Nat} {Q : Exit → Act → World → Prop} {oi : Oper} {di : Tmp} {L : (Nat → Option Nat) → Array Bool → Act → Prop} (hi : ops[i]? = some oi) (ha : Alc P oi di (al i).1 (al i).2)
    (hs : waitB md ops (n + m) ps = true) (hp : ∀ p ∈ ps, p < n ∨ n + m ≤ p) (hc : Region.chainB md ops (n + m) = true) (hn : n + m < ops.size) (hi0 : n ≤ i) (hin : i < n + m)
    (hdone : ∀ G got a, L G got a → ∀ j ∈ Region.ready md ops got, n + m ≤ j) :
    ∀ (f : Nat) (G : Nat → Option Nat) (got : Array Bool) (a : Act), HeadInv md ops (n + m) got → (∀ j, j < n → got.getD j true = true) →
      (∀ j oj, ops[j]? = some oj → j ≠ i → got.getD j true = false → (∀ e ∈ oj.after, Region.binds md e = true → e.on ≠ i) → oi.apart ops oj = true) →
      i ∈ Region.ready md ops got →
      (∀ g, FL P md ops w al n m gg Q L f (upd G i g) (got.setIfInBounds i true) (a.put (some di) (.pointer (some ⟨g, 0, none⟩)))) → FL P md ops w al n m gg Q L (f + 1) G got a
  | f, G, got, a, inv, hall0, hfree, hr, H => by
    have hun := (mem_ready.1 hr).1
    refine ⟨fun h => (by rw [h] at hr; cases hr), fun j hj => ?_⟩
    have hjn : j < n + m := by
      have hle := ready_le hc inv hj
      refine Nat.lt_of_le_of_ne hle fun e => ?_
      have := hp i (ready_last (i := i) hs inv (by rw [← e]; exact hj) hin hun)
      omega
    obtain ⟨hjun, oj, hoj, hall⟩ := mem_ready.1 hj
    have hjn0 : n ≤ j := by
      refine Nat.not_lt.1 fun h => ?_
      rw [hall0 j h] at hjun; cases hjun
    by_cases hji : j = i
    · subst hji; exact .inr (.inl ⟨hi0, hin, oi, di, hi, ha, H⟩)
    · have hrj := ready_mono hj hji
      match f, H with
      | 0, H => have := hdone _ _ _ (H 0) j hrj; omega
      | f + 1, H =>
        have hnot : ∀ e ∈ oj.after, Region.binds md e = true → e.on ≠ i := fun e he hb heq => by
          have h1 := hall e he hb
          rw [heq, getD_both hun] at h1
          cases h1
        obtain ⟨p1, p2, p3⟩ := Oper.apart_spec (hfree j oj hoj hji hjun hnot)
        have hfree' : ∀ k ok, ops[k]? = some ok → k ≠ i → (got.setIfInBounds j true).getD k true = false → (∀ e ∈ ok.after, Region.binds md e = true → e.on ≠ i) → oi.apart ops ok = true := fun k ok hk hki hun' hno => by
          refine hfree k ok hk hki ?_ hno
          by_cases hjk : j = k
          · subst hjk; exact hjun
          · rw [getD_set_ne true hjk] at hun'; exact hun'
        have key : ∀ g, ∃ d, Alc P oj d (al j).1 (al j).2 ∧ ∀ g', FL P md ops w al n m gg Q L f (upd (upd G i g) j g') ((got.setIfInBounds i true).setIfInBounds j true) ((a.put (some di) (.pointer (some ⟨g, 0, none⟩))).put (some d) (.pointer (some ⟨g', 0, none⟩))) := fun g => by
          rcases (H g).2 j hrj with ⟨hjn', _⟩ | ⟨h1, h2, o, d, ho, had, hf⟩ | ⟨h1, _⟩
          · omega
          · have e : o = oj := Option.some.inj (ho.symm.trans hoj)
            subst e
            exact ⟨d, had, hf⟩
          · omega
        obtain ⟨d, had, _⟩ := key 0
        refine .inr (.inl ⟨hjn0, hjn, oj, d, hoj, had, fun g' => ?_⟩)
        refine FL_firstA hi ha hs hp hc hn hi0 hin hdone f _ _ _ (inv.set hj hjn) (fun k hk => by
          have hjk : j ≠ k := by omega
          rw [getD_set_ne true hjk]; exact hall0 k hk) hfree' (ready_mono hr (Ne.symm hji)) fun g => ?_
        obtain ⟨d', had', hf⟩ := key g
        have e : d' = d := Option.some.inj (had'.dst.symm.trans had.dst)
        subst e
        rw [Array.setIfInBounds_comm _ _ hji, upd_comm G hji]
        have hp : ∀ x, some di = some x → some d' ≠ some x := fun x hx => by rw [← had.dst]; exact p2 x (by rw [ha.dst]; exact hx)
        rw [← Act.put_comm a _ _ hp]
        exact hf g'


theorem FL_lexA {g : Nat} {ps : List Nat} {Q : Exit → Act → World → Prop} {Lq : (Nat → Option Nat) → Act → Prop} (hs : waitB md ops (n + m) ps = true) (hp : ∀ p ∈ ps, p < n ∨ n + m ≤ p) (hc : Region.chainB md ops (n + m) = true) (hn : n + m < ops.size) :
    ∀ (l : List Oper) (k : Nat) (G : Nat → Option Nat) (got : Array Bool) (a : Act), (∀ j, j < l.length → l[j]? = ops[k + j]?) → n ≤ k → k + l.length = n + m → HeadInv md ops (n + m) got → (∀ j, j < n → got.getD j true = true) →
    Region.lexHead md ops g l.length k got = true → Ah P al Lq l k G a →
    FL P md ops w al n m g Q (fun G' got' a' => Region.seqB md ops g (n + m) got' = true ∧ Lq G' a') l.length G got a
  | [], k, G, got, a, _, _, hk, _, _, hB, h => by
    obtain rfl : k = n + m := by simpa using hk
    exact ⟨by simpa [Region.lexHead] using hB, h⟩
  | o :: l, k, G, got, a, hl, hnk, hk, inv, hall, hB, h => by
    have h0 : ops[k]? = some o := by simpa using (hl 0 (by simp)).symm
    simp only [List.length_cons, Region.lexHead, Bool.and_eq_true] at hB
    obtain ⟨⟨hr, hf⟩, hB'⟩ := hB
    have hkn : k < n + m := by simp only [List.length_cons] at hk; omega
    have hr' : k ∈ Region.ready md ops got := by simpa using hr
    obtain ⟨d, ha, hh⟩ := h
    refine FL_firstA h0 ha hs hp hc hn hnk hkn (fun G' got' a' hL => seqB_ready hL.1) l.length G got a inv hall (Region.free_spec h0 hf) hr' fun b => ?_
    exact FL_lexA hs hp hc hn l (k + 1) _ _ _ (fun j hj => by have := hl (j + 1) (by simp; omega); simpa [Nat.add_assoc, Nat.add_comm 1 j] using this) (by omega) (by simp only [List.length_cons] at hk; omega) (inv.set hr' hkn)
      (fun j hj => by
        have hjk : k ≠ j := by omega
        rw [getD_set_ne true hjk]; exact hall j hj) hB' (hh b)


theorem FL_lex {g : Nat} {ps : List Nat} {Q : Exit → Act → World → Prop} {Lq : (Nat → Option Nat) → Act → Prop} {A : Act} {la : List Oper} (hL : ∀ G got a u, Cl w al G u → (Region.seqB md ops g (n + m) got = true ∧ Lq G a) → wpAny P md ops Q g got a u) (hQ : NoFrame Q) (hpu : ∀ p ∈ ps, ∀ o, ops[p]? = some o → Pure P o) (hp : ∀ p ∈ ps, p < n ∨ n + m ≤ p) (hla : ∀ j, j < la.length → la[j]? = ops[n + j]?) (hlm : la.length = m) (hsel : Region.noSelect ops = true)
    (hs : waitB md ops (n + m) ps = true) (hc : Region.chainB md ops (n + m) = true) (hn : n + m < ops.size) :
    ∀ (l : List Oper) (k : Nat) (G : Nat → Option Nat) (got : Array Bool) (a : Act), (∀ j, j < l.length → l[j]? = ops[k + j]?) → k + l.length = n → HeadInv md ops (n + m) got → (∀ j, j < k → got.getD j true = true) →
    Region.lexHead md ops g (l.length + m) k got = true → Ch P ops w al A l a → Ah P al Lq la n G A →
    FL P md ops w al n m g Q (fun G' got' a' => Region.seqB md ops g (n + m) got' = true ∧ Lq G' a') (l.length + m) G got a
  | [], k, G, got, a, _, hk, inv, hall, hB, h, hA => by
    obtain rfl : k = n := by simpa using hk
    subst hlm
    simp only [List.length_nil, Nat.zero_add] at hB ⊢
    rw [show a = A from h]
    exact FL_lexA hs hp hc hn la k G got A hla (Nat.le_refl _) rfl inv hall hB hA
  | o :: l, k, G, got, a, hl, hk, inv, hall, hB, h, hA => by
    have h0 : ops[k]? = some o := by simpa using (hl 0 (by simp)).symm
    rw [show (o :: l).length + m = (l.length + m) + 1 by simp only [List.length_cons]; omega] at hB ⊢
    simp only [Region.lexHead, Bool.and_eq_true] at hB
    obtain ⟨⟨hr, hf⟩, hB'⟩ := hB
    have hkn : k < n := by simp only [List.length_cons] at hk; omega
    have hr' : k ∈ Region.ready md ops got := by simpa using hr
    obtain ⟨v, hy, hK⟩ := h
    exact FL_first hL hQ hpu h0 (Region.noSelect_spec hsel) hs hc hn hkn (fun G' got' a' hL => seqB_ready hL.1) (l.length + m) G got a inv (Region.free_spec h0 hf) hr' hy
      (FL_lex hL hQ hpu hp hla hlm hsel hs hc hn l (k + 1) G _ _ (fun j hj => by have := hl (j + 1) (by simp; omega); simpa [Nat.add_assoc, Nat.add_comm 1 j] using this) (by simp only [List.length_cons] at hk; omega) (inv.set hr' (by omega))
        (fun j hj => getD_listed (by rw [inv.size]; omega) hall hj) hB' hK hA)

/-! ### from the walks to the chain: the values are what the last frame holds -/

def floatB (md : Region.Mode) (ops : Array Oper) (k : Nat) (ps : List Nat) : Bool :=
  Region.noSelect ops && decide (k < ops.size) && waitB md ops k ps && Region.chainB md ops k && Region.lexHead md ops (ops.size - k) k 0 (Array.replicate ops.size false)

end
section
variable {P : Program}
theorem region_float {id : Nat} {Q : Exit → Act → World → Prop} {a A : Act} {w : World} {l : List Oper} (n m N : Nat) (ps : List Nat) (al : Nat → TypeId × Array Value) (hm : P.follows .mixedOrders = true) (hB : floatB .any l.toArray (n + m) ps = true)
    (hQ : NoFrame Q) (hpu : ∀ p ∈ ps, ∀ o, l.toArray[p]? = some o → Pure P o) (hp : ∀ p ∈ ps, p < n ∨ n + m ≤ p)
    (hD : dstB N (l.take n) = true) (hN : a.tmps.size = N)
    (h1 : ∀ (T : Type) (_ : Nonempty T) (f : T → World), Class w f → wpQuiet P l.toArray (fun w' => ∃ x, w' = f x) (fun a' => a' = A) (l.take n) a)
    (h2 : Ah P al (fun G a' => ∀ u, Cl w al G u → wpList P l.toArray Q (l.drop (n + m)) a' u) ((l.drop n).take m) n (fun _ => none) A) : (Code.region id l.toArray true).wp P Q a w := by
  simp only [floatB, Bool.and_eq_true, decide_eq_true_eq] at hB
  obtain ⟨⟨⟨⟨hsel, hn⟩, hs⟩, hc⟩, hlex⟩ := hB
  have hn' : n + m < l.length := by simpa using hn
  have htl : (l.take n).length = n := by simp; omega
  have hml : ((l.drop n).take m).length = m := by simp; omega
  have hdl : (l.drop (n + m)).length = l.toArray.size - (n + m) := by simp
  have inv0 : HeadInv .any l.toArray (n + m) (Array.replicate l.toArray.size false) :=
    ⟨by simp, fun j oj _ hl => (by rw [getD_replicate_false] at hl; cases hl), fun t _ ht => getD_in (by simpa using ht) (getD_replicate_false _ _)⟩
  have hch : Ch P l.toArray w al A (l.take n) a := by
    refine chain_of (N := N) _ _ hN hD fun G hG => ?_
    obtain ⟨u, hu⟩ := hG
    have := h1 {v // Cl w al G v} ⟨⟨u, hu⟩⟩ Subtype.val ⟨fun x => x.2.1, fun x v hv => ⟨⟨v, x.2.step hv⟩, rfl⟩⟩
    have e : (fun w' => ∃ x : {v // Cl w al G v}, w' = x.1) = Cl w al G := by
      funext w'
      exact propext ⟨fun ⟨x, hx⟩ => hx ▸ x.2, fun h => ⟨⟨w', h⟩, rfl⟩⟩
    rw [e] at this
    exact this
  have hL : ∀ G got a' u, Cl w al G u → (Region.seqB .any l.toArray (l.toArray.size - (n + m)) (n + m) got = true ∧ ∀ u, Cl w al G u → wpList P l.toArray Q (l.drop (n + m)) a' u) → wpAny P .any l.toArray Q (l.toArray.size - (n + m)) got a' u := fun G got a' u hu hL => by
    have := wpAny_of_seq (md := .any) (Q' := Q) (l.drop (n + m)) (n + m) got a' u (fun j => by simp [List.getElem?_drop]) (by rw [hdl]; exact hL.1) (hL.2 u hu)
    rwa [hdl] at this
  have H := FL_lex (md := .any) (g := l.toArray.size - (n + m)) (P := P) (w := w) (al := al) (Lq := fun G a' => ∀ u, Cl w al G u → wpList P l.toArray Q (l.drop (n + m)) a' u) (la := (l.drop n).take m) (m := m) (n := n) (A := A) (Q := Q)
    hL hQ hpu hp (fun j hj => by
      have hj' : j < m := by rw [hml] at hj; exact hj
      simp [hj']) hml hsel hs hc hn (l.take n) 0 (fun _ => none) _ a (fun j hj => by
      have hj' : j < n := by rw [htl] at hj; exact hj
      simp [hj']) (by simpa using htl) inv0 (fun j hj => by omega) (by rw [htl]; exact hlex) hch h2
  refine wp_region_any hm ?_
  have c0 : Cl w al (fun _ => none) { w with drawn := w.drawn + 1 } := ⟨made_draw w, fun i g e => (by cases e), fun i j g e => (by cases e)⟩
  have := FL_any hL _ _ _ _ _ c0 H
  rw [htl, show n + m + (l.toArray.size - (n + m)) = l.toArray.size by omega] at this
  exact this


theorem reg_late2 {id : Nat} {Q : Exit → Act → World → Prop} {a : Act} {w : World} {l : List Oper} (n N : Nat) (ps : List Nat) (d d' : Tmp) (t t' : TypeId) (z z' : Array Value) (o o' : Oper) (hm : P.follows .mixedOrders = true) (hB : floatB .any l.toArray (n + 2) ps = true) (hpu : ∀ p ∈ ps, ∀ o, l.toArray[p]? = some o → Pure P o) (hp : ∀ p ∈ ps, p < n ∨ n + 2 ≤ p)
    (hD : dstB N (l.take n) = true) (hN : a.tmps.size = N) (ho : (l.drop n).take 2 = [o, o']) (ha : Alc P o d t z) (ha' : Alc P o' d' t' z')
    (h : ∃ A : Act, (∀ (T : Type) (_ : Nonempty T) (f : T → World), Class w f → wpQuiet P l.toArray (fun w' => ∃ x, w' = f x) (fun a' => a' = A) (l.take n) a) ∧
    (∀ (g g' : Nat) (v : World), Made w.heap.size w v → w.heap.size ≤ g → w.heap.size ≤ g' → g ≠ g' → Has v g t z → Has v g' t' z' →
      wpList P l.toArray (NoPanic Q) (l.drop (n + 2)) ((A.put (some d) (.pointer (some ⟨g, 0, none⟩))).put (some d') (.pointer (some ⟨g', 0, none⟩))) v)) : (Code.region id l.toArray true).wp P Q a w := by
  obtain ⟨A, h1, h2⟩ := h
  refine wp_region_noPanic ?_
  refine region_float (A := A) n 2 N ps (fun i => if i = n then (t, z) else (t', z')) hm hB (fun _ _ _ _ h => h) hpu hp hD hN h1 ?_
  rw [ho]
  refine ⟨d, by simpa using ha, fun g => ⟨d', by simpa using ha', fun g' u hu => ?_⟩⟩
  have e1 : upd (upd (fun _ => none) n g) (n + 1) g' n = some g := by unfold upd; simp
  have e2 : upd (upd (fun _ => none) n g) (n + 1) g' (n + 1) = some g' := by unfold upd; simp
  have k1 : w.heap.size ≤ g ∧ Has u g t z := by
    have := hu.2.1 n g e1
    simpa using this
  have k2 : w.heap.size ≤ g' ∧ Has u g' t' z' := by
    have := hu.2.1 (n + 1) g' e2
    simpa using this
  exact h2 g g' u hu.1 k1.1 k2.1 (fun e => by
    have := hu.2.2 n (n + 1) g e1 (by rw [e2, e])
    omega) k1.2 k2.2

end
end Go.Proofs.Ytdaelblapgcljaa.Fx.FS
