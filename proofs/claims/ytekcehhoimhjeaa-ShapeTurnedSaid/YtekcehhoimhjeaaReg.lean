/- Regions that draw their order: one walk in the text's order, over a class of worlds; with a tail that comes up in one order alone. -/
import Derived.Test.YtekcehhoimhjeaaOwn
import Derived.StillTail
import Derived.Deep.QuietTactic
import Derived.BigQuiet
namespace Go.Proofs.Ytekcehhoimhjeaa.Fx
open Go.ChangeShapes Go.WideShapes Go.ChangeAt Go.RowKit
set_option linter.unusedVariables false

section
variable {P : Program} {ops : Array Oper} {md : Region.Mode} {C : World → Prop}

/-- the head: whatever comes up is one of the first n and is quiet in the class; when so many have come up, L -/
def headC (P : Program) (md : Region.Mode) (ops : Array Oper) (C : World → Prop) (n : Nat) (L : Array Bool → Act → Prop) : Nat → Array Bool → Act → Prop
  | 0, got, a => L got a
  | f + 1, got, a => Region.ready md ops got ≠ [] ∧ ∀ i ∈ Region.ready md ops got, i < n ∧ qOp P ops C i (headC P md ops C n L f (got.setIfInBounds i true)) a

theorem headC_any {n g : Nat} {L : Array Bool → Act → Prop} {Q : Exit → Act → World → Prop}
    (hL : ∀ got a w, C w → L got a → wpAny P md ops Q g got a w) :
    ∀ (f : Nat) (got : Array Bool) (a : Act) (w : World), C w → headC P md ops C n L f got a → wpAny P md ops Q (f + g) got a w
  | 0, got, a, w, hw, h => by rw [Nat.zero_add]; exact hL _ _ _ hw h
  | f + 1, got, a, w, hw, h => by
    rw [show f + 1 + g = (f + g) + 1 by omega]
    exact ⟨fun h0 => absurd h0 h.1, fun i hi => wpOp_of_qOp hw (fun a' w' hw' h' => headC_any hL f _ a' w' hw' h') (h.2 i hi).2⟩

theorem headC_first {n i : Nat} {oi : Oper} {v : Value} {L : Array Bool → Act → Prop} (hi : ops[i]? = some oi) (hsel : ∀ (j : Nat) (o : Oper) cs b, ops[j]? = some o → o.op ≠ .select cs b)
    (hs : Region.sinkB md ops n = true) (hc : Region.chainB md ops n = true) (hn : n < ops.size) (hin : i < n)
    (hdone : ∀ got a, L got a → ∀ j ∈ Region.ready md ops got, n ≤ j) :
    ∀ (f : Nat) (got : Array Bool) (a : Act), HeadInv md ops n got →
      (∀ j oj, ops[j]? = some oj → j ≠ i → got.getD j true = false → (∀ e ∈ oj.after, Region.binds md e = true → e.on ≠ i) → oi.apart ops oj = true) →
      i ∈ Region.ready md ops got → YieldsIn P ops C oi v a →
      headC P md ops C n L f (got.setIfInBounds i true) (a.put oi.dst v) → headC P md ops C n L (f + 1) got a
  | f, got, a, inv, hfree, hr, hy, H => by
    have hun := (mem_ready.1 hr).1
    refine ⟨fun h => (by rw [h] at hr; cases hr), fun j hj => ?_⟩
    have hjn : j < n := by
      rcases Nat.lt_or_ge j n with h | h
      · exact h
      · exact absurd hj (tail_waits hs hc hn inv _ i rfl hin hun j h)
    refine ⟨hjn, ?_⟩
    by_cases hji : j = i
    · subst hji; exact hy.qOp hi H
    · have hrj := ready_mono hj hji
      match f, H with
      | 0, H => have := hdone _ _ H j hrj; omega
      | f + 1, H =>
        obtain ⟨hjun, oj, hoj, hall⟩ := mem_ready.1 hj
        have hnot : ∀ e ∈ oj.after, Region.binds md e = true → e.on ≠ i := fun e he hb heq => by
          have h1 := hall e he hb
          rw [heq, getD_both hun] at h1
          cases h1
        have h2 := qOp_put hoj (hfree j oj hoj hji hjun hnot) (fun cs b => hsel i oi cs b hi) (fun cs b => hsel j oj cs b hoj) hy (H.2 j hrj).2
        refine qOp_mono (fun a' h3 => headC_first hi hsel hs hc hn hin hdone f (got.setIfInBounds j true) a' (inv.set hj hjn) (fun k ok hk hki hun' hno => ?_) (ready_mono hr (Ne.symm hji)) h3.1 ?_) h2
        · refine hfree k ok hk hki ?_ hno
          by_cases hjk : j = k
          · subst hjk; exact hjun
          · rw [getD_set_ne true hjk] at hun'; exact hun'
        · rw [Array.setIfInBounds_comm _ _ hji]
          exact h3.2

theorem headC_lex {n g : Nat} {Lq : Act → Prop} (hsel : Region.noSelect ops = true) (hs : Region.sinkB md ops n = true) (hc : Region.chainB md ops n = true) (hn : n < ops.size) :
    ∀ (l : List Oper) (k : Nat) (got : Array Bool) (a : Act), (∀ j, j < l.length → l[j]? = ops[k + j]?) → k + l.length = n → HeadInv md ops n got →
    Region.lexHead md ops g l.length k got = true → wpQuiet P ops C Lq l a →
    headC P md ops C n (fun got' a' => Region.seqB md ops g n got' = true ∧ Lq a') l.length got a
  | [], k, got, a, _, hk, _, hB, h => by
    obtain rfl : k = n := by simpa using hk
    exact ⟨by simpa [Region.lexHead] using hB, h⟩
  | o :: l, k, got, a, hl, hk, inv, hB, h => by
    have h0 : ops[k]? = some o := by simpa using (hl 0 (by simp)).symm
    simp only [List.length_cons, Region.lexHead, Bool.and_eq_true] at hB
    obtain ⟨⟨hr, hf⟩, hB'⟩ := hB
    have hkn : k < n := by simp only [List.length_cons] at hk; omega
    have hr' : k ∈ Region.ready md ops got := by simpa using hr
    have hst : qOp P ops C k (wpQuiet P ops C Lq l) a := by unfold qOp; simp only [h0]; exact h
    obtain ⟨v, hy, hK⟩ := yieldsIn_of_qOp h0 hst
    exact headC_first h0 (Region.noSelect_spec hsel) hs hc hn hkn (fun got' a' hL => seqB_ready hL.1) l.length got a inv (Region.free_spec h0 hf) hr' hy
      (headC_lex hsel hs hc hn l (k + 1) _ _ (fun j hj => by have := hl (j + 1) (by simp; omega); simpa [Nat.add_assoc, Nat.add_comm 1 j] using this) (by simp only [List.length_cons] at hk; omega) (inv.set hr' hkn) hB' hK)

/-- n operations quiet in the class, in the text's order; then the others, which come up in one order alone, from any world of the class -/
theorem region_tail {id : Nat} {Q : Exit → Act → World → Prop} {a : Act} {w : World} {l : List Oper} (n : Nat) (hm : P.follows .mixedOrders = true) (hB : Region.lexTailB .any l.toArray n = true)
    (hC : C { w with drawn := w.drawn + 1 })
    (h : wpQuiet P l.toArray C (fun a' => ∀ w', C w' → wpList P l.toArray Q (l.drop n) a' w') (l.take n) a) : (Code.region id l.toArray true).wp P Q a w := by
  simp only [Region.lexTailB, Bool.and_eq_true, decide_eq_true_eq] at hB
  obtain ⟨⟨⟨⟨hsel, hn⟩, hs⟩, hc⟩, hlex⟩ := hB
  have hn' : n < l.length := by simpa using hn
  have htl : (l.take n).length = n := by simp; omega
  have hdl : (l.drop n).length = l.toArray.size - n := by simp
  have inv0 : HeadInv .any l.toArray n (Array.replicate l.toArray.size false) :=
    ⟨by simp, fun j oj _ hl => (by rw [getD_replicate_false] at hl; cases hl), fun t _ ht => getD_in (by simpa using ht) (getD_replicate_false _ _)⟩
  have H := headC_lex (md := .any) (g := l.toArray.size - n) hsel hs hc hn (l.take n) 0 _ a (fun j hj => by
    have hj' : j < n := by rw [htl] at hj; exact hj
    simp [hj']) (by simpa using htl) inv0 (by rw [htl]; exact hlex) h
  refine wp_region_any hm ?_
  have := headC_any (Q := Q) (g := l.toArray.size - n) (fun got a' w' hw' hL => by
    have := wpAny_of_seq (md := .any) (Q' := Q) (l.drop n) n got a' w' (fun j => by simp [List.getElem?_drop]) (by rw [hdl]; exact hL.1) (hL.2 w' hw')
    rwa [hdl] at this) _ _ _ _ hC H
  rw [htl, show n + (l.toArray.size - n) = l.toArray.size by omega] at this
  exact this
end

/-! ### the class: from w on, memory has only been made. T, f: the worlds of the class by name -/
def Class (w : World) {T : Type} (f : T → World) : Prop := (∀ x, Made w.heap.size w (f x)) ∧ (∀ x v, Made (f x).heap.size (f x) v → ∃ y, v = f y)
theorem made_draw (w : World) : Made w.heap.size w { w with drawn := w.drawn + 1 } := (Made.rfl_ w.heap.size w).draws 1
section
variable {P : Program}
/-- all operations read, or call what only makes memory -/
theorem reg_made {id : Nat} {Q : Exit → Act → World → Prop} {a : Act} {w : World} {l : List Oper} (hm : P.follows .mixedOrders = true) (hB : Region.lexB .any l.toArray = true)
    (h : ∀ (T : Type) (_ : Nonempty T) (f : T → World), Class w f → wpQuiet P l.toArray (fun w' => ∃ x, w' = f x) (fun a' => ∀ w', (∃ x, w' = f x) → Q .normal a' w') l a) : (Code.region id l.toArray true).wp P Q a w := by
  have hT := h {v // Made w.heap.size w v} ⟨w, Made.rfl_ _ _⟩ Subtype.val ⟨fun x => x.2, fun x v hv => ⟨⟨v, x.2.then_ (hv.low x.2.1.size)⟩, rfl⟩⟩
  exact wp_region_quiet (C := fun w' => ∃ x : {v // Made w.heap.size w v}, w' = x.1) hm hB ⟨⟨_, made_draw w⟩, rfl⟩ hT
/-- the same for the first n; the tail from any world of the class -/
theorem reg_made_tail {id : Nat} {Q : Exit → Act → World → Prop} {a : Act} {w : World} {l : List Oper} (n : Nat) (hm : P.follows .mixedOrders = true) (hB : Region.lexTailB .any l.toArray n = true)
    (h : ∀ (T : Type) (_ : Nonempty T) (f : T → World), Class w f → wpQuiet P l.toArray (fun w' => ∃ x, w' = f x) (fun a' => ∀ w', (∃ x, w' = f x) → wpList P l.toArray Q (l.drop n) a' w') (l.take n) a) : (Code.region id l.toArray true).wp P Q a w := by
  have hT := h {v // Made w.heap.size w v} ⟨w, Made.rfl_ _ _⟩ Subtype.val ⟨fun x => x.2, fun x v hv => ⟨⟨v, x.2.then_ (hv.low x.2.1.size)⟩, rfl⟩⟩
  exact region_tail (C := fun w' => ∃ x : {v // Made w.heap.size w v}, w' = x.1) n hm hB ⟨⟨_, made_draw w⟩, rfl⟩ hT

variable {T : Type} {f : T → World} {w : World} {k : FuncId} {args : Array Value} {v : Value}
theorem Class.reads (h : Class w f) {p : Addr} {u : Value} (k : w.cell? p = some u) (x : T) : (f x).cell? p = some u := (h.1 x).reads k
theorem Class.free (h : Class w f) {p : Addr} {b : Bool} (k : w.frozen? p = b) (x : T) : (f x).frozen? p = b := ((h.1 x).2 p).trans k
/-- a callee that only makes memory -/
theorem Class.made (h : Class w f) {x : T} (hc : Calls P k args (f x) fun e w' => e = .returned v ∧ Made (f x).heap.size (f x) w') : Calls P k args (f x) fun e w'' => e = .returned v ∧ ∃ m, w'' = f m :=
  hc.mono fun _ _ ⟨he, hw⟩ => ⟨he, h.2 x _ hw⟩
/-- a callee that leaves the world -/
theorem Class.same (h : Class w f) {x : T} (hc : Calls P k args (f x) fun e w' => e = .returned v ∧ f x = w') : Calls P k args (f x) fun e w'' => e = .returned v ∧ ∃ m, w'' = f m :=
  hc.mono fun _ _ ⟨he, hw⟩ => ⟨he, x, hw.symm⟩
/-- a callee that draws -/
theorem Class.drawn (h : Class w f) {x : T} (hc : Calls P k args (f x) fun e w' => e = .returned v ∧ ∃ n, w' = (f x).drewN n) : Calls P k args (f x) fun e w'' => e = .returned v ∧ ∃ m, w'' = f m :=
  hc.mono fun _ _ ⟨he, n, hw⟩ => ⟨he, h.2 x _ (by rw [hw]; exact (Made.rfl_ _ _).draws n)⟩
theorem Class.here (h : Class w f) {w' : World} (k : ∃ x, w' = f x) : Made w.heap.size w w' := by obtain ⟨x, rfl⟩ := k; exact h.1 x
end
end Go.Proofs.Ytekcehhoimhjeaa.Fx
