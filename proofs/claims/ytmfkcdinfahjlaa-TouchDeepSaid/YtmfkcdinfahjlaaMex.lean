/- Regions that draw their order, whose tail is a call and what is taken out of its answer, in any order, and then the rest in one order alone. -/
import Derived.Test.YtmfkcdinfahjlaaMem
namespace Go.Proofs.Ytmfkcdinfahjlaa.Fx
open Go.ChangeShapes Go.WideShapes Go.ChangeAt Go.RowKit
set_option linter.unusedVariables false

/-- Q, but only for an end as usual -/
def OnlyN (Q : Exit → Act → World → Prop) : Exit → Act → World → Prop
  | .normal, a, w => Q .normal a w
  | _, _, _ => False
theorem OnlyN.imp {Q : Exit → Act → World → Prop} : ∀ (e : Exit) (a : Act) (w : World), OnlyN Q e a w → Q e a w := fun e a w h => by
  cases e <;> first | exact h | exact (h : False).elim
theorem OnlyN.here {Q : Exit → Act → World → Prop} {a : Act} {w : World} (h : Q .normal a w) : OnlyN Q .normal a w := h
theorem OnlyN.lets {Q : Exit → Act → World → Prop} (h : LetsOut (OnlyN Q)) : False := by
  obtain ⟨a, w, h⟩ := h
  exact h

section
variable {P : Program} {ops : Array Oper} {md : Region.Mode} {C : World → Prop}

/-- each of the tail but its first waits for one of the tail -/
def chainT (md : Region.Mode) (ops : Array Oper) (n : Nat) : Bool :=
  (List.range ops.size).all fun t => decide (t ≤ n) || (List.range t).any fun j => decide (n ≤ j) && Region.waitsFor md ops t j

theorem tail_waitsT {n : Nat} {listed : Array Bool} (hs : Region.sinkB md ops n = true) (hc : chainT md ops n = true) (hn : n < ops.size) (inv : HeadInv md ops n listed) :
    ∀ (d i : Nat), n - i = d → i < n → listed.getD i true = false → ∀ t, n ≤ t → t ∉ Region.ready md ops listed := by
  intro d
  induction d using Nat.strongRecOn with
  | _ d ih =>
    intro i hd hi hun t ht hr
    obtain ⟨_, ot, hot, hall⟩ := mem_ready.1 hr
    have htlt : t < ops.size := (Array.getElem?_eq_some_iff.1 hot).1
    by_cases htn : t = n
    · subst htn
      have h1 := List.all_eq_true.1 hs i (List.mem_range.2 hi)
      obtain ⟨j, hj, hj2⟩ := List.any_eq_true.1 h1
      simp only [Bool.and_eq_true, decide_eq_true_eq] at hj2
      obtain ⟨oj, hoj, e, he, hb, hon⟩ := Region.waitsFor_spec hj2.2
      have hjle : j ≤ t := by have := List.mem_range.1 hj; omega
      by_cases hjt : j = t
      · subst hjt
        have : oj = ot := Option.some.inj (hoj.symm.trans hot)
        subst this
        have h2 := hall e he hb
        rw [hon, getD_both hun] at h2
        cases h2
      · cases hl : listed.getD j false with
        | true =>
          have h2 := inv.closed j oj hoj hl e he hb
          rw [hon, getD_both hun] at h2
          cases h2
        | false =>
          have hjs : j < listed.size := by rw [inv.size]; omega
          exact ih (t - j) (by omega) j rfl (by omega) (getD_in hjs hl) t (Nat.le_refl _) hr
    · have h1 := List.all_eq_true.1 hc t (List.mem_range.2 htlt)
      simp only [Bool.or_eq_true, decide_eq_true_eq] at h1
      rcases h1 with h1 | h1
      · omega
      · obtain ⟨j, hj, hj2⟩ := List.any_eq_true.1 h1
        simp only [Bool.and_eq_true, decide_eq_true_eq] at hj2
        have hjt := List.mem_range.1 hj
        obtain ⟨o', ho', e, he, hb, hon⟩ := Region.waitsFor_spec hj2.2
        have : o' = ot := Option.some.inj (ho'.symm.trans hot)
        subst this
        have h2 := hall e he hb
        rw [hon, getD_both (inv.tail j hj2.1 (by omega))] at h2
        cases h2

theorem headC_firstT {n i : Nat} {oi : Oper} {v : Value} {L : Array Bool → Act → Prop} (hi : ops[i]? = some oi) (hsel : ∀ (j : Nat) (o : Oper) cs b, ops[j]? = some o → o.op ≠ .select cs b)
    (hs : Region.sinkB md ops n = true) (hc : chainT md ops n = true) (hn : n < ops.size) (hin : i < n)
    (hdone : ∀ got a, L got a → ∀ j ∈ Region.ready md ops got, n ≤ j) :
    ∀ (f : Nat) (got : Array Bool) (a : Act), HeadInv md ops n got →
      (∀ j oj, ops[j]? = some oj → j ≠ i → got.getD j true = false → (∀ e ∈ oj.after, Region.binds md e = true → e.on ≠ i) → oi.apart ops oj = true) →
      i ∈ Region.ready md ops got → YieldsIn P ops C oi v a →
      headC P md ops C n L f (got.setIfInBounds i true) (a.put oi.dst v) → headC P md ops C n L (f + 1) got a
  | f, got, a, inv, hfree, hr, hy, H => by
    have hun := (mem_ready.1 hr).1
    refine ⟨fun h => (by rw [h] at hr; cases hr), fun j hj => ?_⟩
    have hjn : j < n := by
      rcases Nat.lt_or_ge j n with h | h
      · exact h
      · exact absurd hj (tail_waitsT hs hc hn inv _ i rfl hin hun j h)
    refine ⟨hjn, ?_⟩
    by_cases hji : j = i
    · subst hji; exact hy.qOp hi H
    · have hrj := ready_mono hj hji
      match f, H with
      | 0, H => have := hdone _ _ H j hrj; omega
      | f + 1, H =>
        obtain ⟨hjun, oj, hoj, hall⟩ := mem_ready.1 hj
        have hnot : ∀ e ∈ oj.after, Region.binds md e = true → e.on ≠ i := fun e he hb heq => by
          have h1 := hall e he hb
          rw [heq, getD_both hun] at h1
          cases h1
        have h2 := qOp_put hoj (hfree j oj hoj hji hjun hnot) (fun cs b => hsel i oi cs b hi) (fun cs b => hsel j oj cs b hoj) hy (H.2 j hrj).2
        refine qOp_mono (fun a' h3 => headC_firstT hi hsel hs hc hn hin hdone f (got.setIfInBounds j true) a' (inv.set hj hjn) (fun k ok hk hki hun' hno => ?_) (ready_mono hr (Ne.symm hji)) h3.1 ?_) h2
        · refine hfree k ok hk hki ?_ hno
          by_cases hjk : j = k
          · subst hjk; exact hjun
          · rw [getD_set_ne true hjk] at hun'; exact hun'
        · rw [Array.setIfInBounds_comm _ _ hji]
          exact h3.2

/-- the head in the text's order; behind it, B -/
def lexH (md : Region.Mode) (ops : Array Oper) (B : Array Bool → Bool) : Nat → Nat → Array Bool → Bool
  | 0, _, got => B got
  | f + 1, k, got => (Region.ready md ops got).contains k && Region.free md ops got k && lexH md ops B f (k + 1) (got.setIfInBounds k true)

theorem headC_lexT {n : Nat} {B : Array Bool → Bool} {Lq : Act → Prop} (hsel : Region.noSelect ops = true) (hs : Region.sinkB md ops n = true) (hc : chainT md ops n = true) (hn : n < ops.size)
    (hdone : ∀ got, B got = true → ∀ j ∈ Region.ready md ops got, n ≤ j) :
    ∀ (l : List Oper) (k : Nat) (got : Array Bool) (a : Act), (∀ j, j < l.length → l[j]? = ops[k + j]?) → k + l.length = n → HeadInv md ops n got →
    lexH md ops B l.length k got = true → wpQuiet P ops C Lq l a →
    headC P md ops C n (fun got' a' => B got' = true ∧ Lq a') l.length got a
  | [], k, got, a, _, hk, _, hB, h => ⟨by simpa [lexH] using hB, h⟩
  | o :: l, k, got, a, hl, hk, inv, hB, h => by
    have h0 : ops[k]? = some o := by simpa using (hl 0 (by simp)).symm
    simp only [List.length_cons, lexH, Bool.and_eq_true] at hB
    obtain ⟨⟨hr, hf⟩, hB'⟩ := hB
    have hkn : k < n := by simp only [List.length_cons] at hk; omega
    have hr' : k ∈ Region.ready md ops got := by simpa using hr
    have hst : qOp P ops C k (wpQuiet P ops C Lq l) a := by unfold qOp; simp only [h0]; exact h
    obtain ⟨v, hy, hK⟩ := yieldsIn_of_qOp h0 hst
    exact headC_firstT h0 (Region.noSelect_spec hsel) hs hc hn hkn (fun got' a' hL => hdone got' hL.1) l.length got a inv (Region.free_spec h0 hf) hr' hy
      (headC_lexT hsel hs hc hn hdone l (k + 1) _ _ (fun j hj => by have := hl (j + 1) (by simp; omega); simpa [Nat.add_assoc, Nat.add_comm 1 j] using this) (by simp only [List.length_cons] at hk; omega) (inv.set hr' hkn) hB' hK)

theorem extract_runs {o : Oper} {x : Operand} {k : Nat} (h : o.op = .extract x k) (e : Operand → Value) :
    (∃ v, ∀ w, (execOp e o).run P w = .ok (.value v) w) ∨ (∀ w, ∃ u, (execOp e o).run P w = .halt u w) := by
  unfold execOp
  rw [h]
  simp only []
  generalize e x = y
  have key : (∃ x, ∀ w', (Instr.extract y k).run P w' = .ok x w') ∨ (∃ h, ∀ w', (Instr.extract y k).run P w' = .halt h w') := by
    unfold Instr.extract
    cases y <;> first | exact .inr ⟨_, fun _ => rfl⟩ | skip
    rename_i vs
    cases h : vs[k]? <;> simp [h]
  rcases key with ⟨x, hx⟩ | ⟨x, hx⟩
  · exact .inl ⟨x, fun w => by simp only [Sem.run_bind, hx, Result.andThen_ok, Sem.run_pure]⟩
  · exact .inr fun w => ⟨x, by simp [hx]⟩

/-- what is taken out of an answer comes up in any order -/
theorem wpAny_pures {Q : Exit → Act → World → Prop} {g : Nat} (hsel : Region.noSelect ops = true) : ∀ (l : List Oper) (k : Nat) (got : Array Bool) (a : Act) (w : World) (rest : List Oper),
    (∀ o ∈ l, ∃ x j, o.op = .extract x j) → (∀ j, j < l.length → l[j]? = ops[k + j]?) → (∀ j, rest[j]? = ops[k + l.length + j]?) → rest.length = g →
    Region.lexHead md ops g l.length k got = true → wpList P ops (OnlyN Q) (l ++ rest) a w → wpAny P md ops (OnlyN Q) (l.length + g) got a w
  | [], k, got, a, w, rest, _, _, hr, hg, hB, h => by
    subst hg
    have := wpAny_of_seq (Q' := OnlyN Q) rest k got a w (fun j => by simpa using hr j) (by simpa [Region.lexHead] using hB) h
    simpa using this
  | o :: l, k, got, a, w, rest, hx, hl, hr, hg, hB, h => by
    have h0 : ops[k]? = some o := by simpa using (hl 0 (by simp)).symm
    simp only [List.length_cons, Region.lexHead, Bool.and_eq_true] at hB
    obtain ⟨⟨hrd, hf⟩, hB'⟩ := hB
    have next : ∀ v, wpList P ops (OnlyN Q) (l ++ rest) (a.put o.dst v) w → Yields P ops o v a → wpAny P md ops (OnlyN Q) ((o :: l).length + g) got a w := fun v hv hy => by
      have := wpAny_pures hsel l (k + 1) (got.setIfInBounds k true) (a.put o.dst v) w rest (fun o' ho' => hx o' (List.mem_cons_of_mem _ ho')) (fun j hj => by have := hl (j + 1) (by simp; omega); simpa [Nat.add_assoc, Nat.add_comm 1 j] using this)
        (fun j => by have := hr j; simp only [List.length_cons] at this; rw [this]; congr 1; omega) hg hB' hv
      rw [List.length_cons, show l.length + 1 + g = (l.length + g) + 1 by omega]
      exact wpAny_take h0 hsel hf hrd (fun c a w h => h) hy this
    have h' : (if Region.wanted o (yielded ops a.tmps) then o.wp P a w (wpList P ops (OnlyN Q) (l ++ rest)) (OnlyN Q) ∨ (o.asks P a w ∧ LetsOut (OnlyN Q)) else wpList P ops (OnlyN Q) (l ++ rest) (a.put o.dst undef) w) := h
    by_cases hw : Region.wanted o (yielded ops a.tmps) = true
    · rw [if_pos hw] at h'
      have h1 : o.wp P a w (wpList P ops (OnlyN Q) (l ++ rest)) (OnlyN Q) := h'.resolve_right fun h => OnlyN.lets h.2
      obtain ⟨x, j, ho⟩ := hx o (List.mem_cons_self ..)
      unfold Oper.wp at h1
      rcases extract_runs (P := P) ho a.eval with ⟨v, hv⟩ | hh
      · rw [hv w, Oper.upon_value] at h1
        exact next v h1 (.inl ⟨hw, hv⟩)
      · obtain ⟨u, hu⟩ := hh w
        rw [hu] at h1
        cases u <;> simp only [Oper.upon] at h1 <;> first | exact h1.elim | skip
        all_goals (first | exact (h1 : False).elim | (obtain ⟨_, h2⟩ := h1; exact (OnlyN.lets h2).elim))
    · rw [if_neg hw] at h'
      exact next undef h' (.inr ⟨by simpa using hw, rfl⟩)

def tailX (md : Region.Mode) (ops : Array Oper) (n m : Nat) (got : Array Bool) : Bool :=
  decide (Region.ready md ops got = [n]) && Region.lexHead md ops (ops.size - n - 1 - m) m (n + 1) (got.setIfInBounds n true)
def tailXB (md : Region.Mode) (ops : Array Oper) (n m : Nat) : Bool :=
  Region.noSelect ops && decide (n + m < ops.size) && Region.sinkB md ops n && chainT md ops n && lexH md ops (tailX md ops n m) n 0 (Array.replicate ops.size false)
def takenB (l : List Oper) : Bool := l.all fun o => match o.op with | .extract _ _ => true | _ => false
theorem taken_spec {l : List Oper} (h : takenB l = true) : ∀ o ∈ l, ∃ x j, o.op = .extract x j := fun o ho => by
  have := List.all_eq_true.1 h o ho
  split at this
  · rename_i x j e; exact ⟨_, _, e⟩
  · cases this

/-- n operations quiet in the class, in the text's order; then one; then m that take out of an answer, in any order; then the others in one order alone -/
theorem region_taken {id : Nat} {Q : Exit → Act → World → Prop} {a : Act} {w : World} {l : List Oper} (n m : Nat) (hm : P.follows .mixedOrders = true) (hB : tailXB .any l.toArray n m = true) (hx : takenB ((l.drop (n + 1)).take m) = true)
    (hC : C { w with drawn := w.drawn + 1 })
    (h : wpQuiet P l.toArray C (fun a' => ∀ w', C w' → wpList P l.toArray (OnlyN Q) (l.drop n) a' w') (l.take n) a) : (Code.region id l.toArray true).wp P Q a w := by
  simp only [tailXB, Bool.and_eq_true, decide_eq_true_eq] at hB
  obtain ⟨⟨⟨⟨hsel, hn⟩, hs⟩, hc⟩, hlex⟩ := hB
  have hn' : n + m < l.length := by simpa using hn
  have htl : (l.take n).length = n := by simp; omega
  have inv0 : HeadInv .any l.toArray n (Array.replicate l.toArray.size false) :=
    ⟨by simp, fun j oj _ hl => (by rw [getD_replicate_false] at hl; cases hl), fun t _ ht => getD_in (by simpa using ht) (getD_replicate_false _ _)⟩
  have H := headC_lexT (md := .any) (P := P) (C := C) (B := tailX .any l.toArray n m) hsel hs hc (by omega) (fun got hg j hj => by
      simp only [tailX, Bool.and_eq_true, decide_eq_true_eq] at hg
      rw [hg.1] at hj
      have : j = n := by simpa using hj
      omega) (l.take n) 0 _ a (fun j hj => by
    have hj' : j < n := by rw [htl] at hj; exact hj
    simp [hj']) (by simpa using htl) inv0 (by rw [htl]; exact hlex) h
  refine Code.wp_mono OnlyN.imp (wp_region_any (Q := OnlyN Q) hm ?_)
  have := headC_any (Q := OnlyN Q) (g := l.toArray.size - n) (fun got a' w' hw' hL => by
    obtain ⟨hT, hL⟩ := hL
    simp only [tailX, Bool.and_eq_true, decide_eq_true_eq] at hT
    have hw1 := hL w' hw'
    have hd : l.drop n = l[n] :: l.drop (n + 1) := by rw [List.drop_eq_getElem_cons]
    have hd2 : l.drop (n + 1) = (l.drop (n + 1)).take m ++ l.drop (n + 1 + m) := by
      conv => lhs; rw [← List.take_append_drop m (l.drop (n + 1))]
      rw [List.drop_drop]
    have h0 : l.toArray[n]? = some l[n] := by simp
    have hm1 : ((l.drop (n + 1)).take m).length = m := by simp; omega
    rw [show l.toArray.size - n = (m + (l.toArray.size - n - 1 - m)) + 1 by simp; omega]
    refine wpAny_all hT.1 (by simp) fun i hi => ?_
    obtain rfl : i = n := by simpa using hi
    have hw2 : wpOp P l.toArray (OnlyN Q) i (wpList P l.toArray (OnlyN Q) (l.drop (i + 1))) a' w' := by
      unfold wpOp
      simp only [h0]
      rw [hd] at hw1
      exact hw1
    refine wpOp_mono (fun a2 w2 h2 => ?_) hw2
    rw [hd2] at h2
    have := wpAny_pures (md := .any) (g := l.toArray.size - i - 1 - m) hsel ((l.drop (i + 1)).take m) (i + 1) (got.setIfInBounds i true) a2 w2 (l.drop (i + 1 + m)) (taken_spec hx)
      (fun j hj => by
        rw [hm1] at hj
        rw [List.getElem?_take, if_pos hj, List.getElem?_drop]; simp)
      (fun j => by rw [hm1, List.getElem?_drop]; simp) (by simp; omega) (by rw [hm1]; exact hT.2) h2
    rw [hm1] at this
    exact this) _ _ _ _ hC H
  rw [htl, show n + (l.toArray.size - n) = l.toArray.size by simp; omega] at this
  exact this
end
section
variable {P : Program}
theorem reg_taken {id : Nat} {Q : Exit → Act → World → Prop} {a : Act} {w : World} {l : List Oper} (n m : Nat) (hm : P.follows .mixedOrders = true) (hB : tailXB .any l.toArray n m = true) (hx : takenB ((l.drop (n + 1)).take m) = true)
    (h : ∀ (T : Type) (_ : Nonempty T) (f : T → World), Class w f → wpQuiet P l.toArray (fun w' => ∃ x, w' = f x) (fun a' => ∀ w', (∃ x, w' = f x) → wpList P l.toArray (OnlyN Q) (l.drop n) a' w') (l.take n) a) : (Code.region id l.toArray true).wp P Q a w := by
  have hT := h {v // Made w.heap.size w v} ⟨w, Made.rfl_ _ _⟩ Subtype.val ⟨fun x => x.2, fun x v hv => ⟨⟨v, x.2.then_ (hv.low x.2.1.size)⟩, rfl⟩⟩
  exact region_taken (C := fun w' => ∃ x : {v // Made w.heap.size w v}, w' = x.1) n m hm hB hx ⟨⟨_, made_draw w⟩, rfl⟩ hT
end
end Go.Proofs.Ytmfkcdinfahjlaa.Fx
