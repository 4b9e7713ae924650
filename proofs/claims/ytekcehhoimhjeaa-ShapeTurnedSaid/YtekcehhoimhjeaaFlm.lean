/- Regions that draw their order and make blocks, by themselves or by calls: the makings come up whenever they like; one walk all the same. -/
import Derived.Test.YtekcehhoimhjeaaFlo
namespace Go.Proofs.Ytekcehhoimhjeaa.Fx
open Go.ChangeShapes Go.WideShapes Go.ChangeAt Go.RowKit
set_option linter.unusedVariables false

/-- from w on memory has only been made, and these blocks are there, each as 'al' says -/
def ClM (w : World) (al : Nat → World → Nat → Prop) (G : Nat → Option Nat) (v : World) : Prop :=
  Made w.heap.size w v ∧ (∀ i g, G i = some g → w.heap.size ≤ g ∧ g < v.heap.size ∧ al i v g) ∧ (∀ i j g, G i = some g → G j = some g → i = j)
/-- what is said of a block outlasts whatever only makes memory -/
def Lasts (al : Nat → World → Nat → Prop) : Prop := ∀ i u v g, al i u g → g < u.heap.size → Made u.heap.size u v → al i v g
section
variable {w : World} {al : Nat → World → Nat → Prop} {G : Nat → Option Nat}
theorem ClM.step (hst : Lasts al) {u v : World} (h : ClM w al G u) (k : Made u.heap.size u v) : ClM w al G v :=
  ⟨h.1.then_ (k.low h.1.1.size), fun i g e => by
    obtain ⟨h1, h2, h3⟩ := h.2.1 i g e
    exact ⟨h1, Nat.lt_of_lt_of_le h2 k.1.size, hst i u v g h3 h2 k⟩, h.2.2⟩
/-- one more block -/
theorem ClM.next (hst : Lasts al) {u v : World} (h : ClM w al G u) (k : Made u.heap.size u v) {i g : Nat} (h1 : u.heap.size ≤ g) (h2 : g < v.heap.size) (h3 : al i v g) : ClM w al (upd G i g) v := by
  have h' := h.step hst k
  refine ⟨h'.1, fun j b e => ?_, fun j m b ej em => ?_⟩
  · unfold upd at e
    split at e
    · rename_i hj
      subst hj
      cases e
      exact ⟨Nat.le_trans h.1.1.size h1, h2, h3⟩
    · exact h'.2.1 j b e
  · unfold upd at ej em
    split at ej <;> split at em
    · rename_i a b; rw [a, b]
    · cases ej
      have := (h.2.1 m _ em).2.1
      omega
    · cases em
      have := (h.2.1 j _ ej).2.1
      omega
    · exact h.2.2 j m b ej em
end

section
variable {P : Program} {ops : Array Oper} {md : Region.Mode} {w : World} {al : Nat → World → Nat → Prop} {val : Nat → Nat → Nat → Value} {k : Nat} {qs ms : List Nat}

def YM (P : Program) (ops : Array Oper) (w : World) (al : Nat → World → Nat → Prop) (o : Oper) (v : Value) (a : Act) : Prop := ∀ G, (∃ u, ClM w al G u) → YieldsIn P ops (ClM w al G) o v a
theorem YM.put {oi oj : Oper} {v u : Value} {a : Act} (hy : YM P ops w al oi v a) (hsi : ∀ cs b, oi.op ≠ .select cs b) (h : ∀ d, oj.dst = some d → d ∉ oi.looksAt ops) : YM P ops w al oi v (a.put oj.dst u) :=
  fun G hG => (hy G hG).of_same (execOp_put oi hsi a oj.dst u h) (wanted_put oi a oj.dst u h)
theorem YM.unput {oi oj : Oper} {v u : Value} {a : Act} (hy : YM P ops w al oi v (a.put oj.dst u)) (hsi : ∀ cs b, oi.op ≠ .select cs b) (h : ∀ d, oj.dst = some d → d ∉ oi.looksAt ops) : YM P ops w al oi v a :=
  fun G hG => (hy G hG).of_same (execOp_put oi hsi a oj.dst u h).symm (wanted_put oi a oj.dst u h).symm

/-- what a making has come to -/
def MkUpon (P : Program) (w : World) (al : Nat → World → Nat → Prop) (val : Nat → Nat → Nat → Value) (i : Nat) (G : Nat → Option Nat) : Result Next → Prop
  | .ok (.value x) u' => ∃ g e, x = val i g e ∧ ClM w al (upd G i g) u'
  | .ok (.enter f args) u' => Calls P f args u' fun z u'' => ∃ g e, z = .returned (val i g e) ∧ ClM w al (upd G i g) u''
  | _ => False
/-- a making, in state a -/
structure Mk (P : Program) (w : World) (al : Nat → World → Nat → Prop) (val : Nat → Nat → Nat → Value) (i : Nat) (o : Oper) (d : Tmp) (a : Act) : Prop where
  dst : o.dst = some d
  guard : o.guard = none
  runs : ∀ G u, ClM w al G u → MkUpon P w al val i G ((execOp a.eval o).run P u)
theorem Mk.put {i : Nat} {oi oj : Oper} {d : Tmp} {u : Value} {a : Act} (h : Mk P w al val i oi d a) (hsi : ∀ cs b, oi.op ≠ .select cs b) (hd : ∀ x, oj.dst = some x → x ∉ oi.looksAt ops) : Mk P w al val i oi d (a.put oj.dst u) :=
  ⟨h.dst, h.guard, fun G x hx => by rw [execOp_put (ops := ops) oi hsi a oj.dst u hd]; exact h.runs G x hx⟩
theorem Mk.unput {i : Nat} {oi oj : Oper} {d : Tmp} {u : Value} {a : Act} (h : Mk P w al val i oi d (a.put oj.dst u)) (hsi : ∀ cs b, oi.op ≠ .select cs b) (hd : ∀ x, oj.dst = some x → x ∉ oi.looksAt ops) : Mk P w al val i oi d a :=
  ⟨h.dst, h.guard, fun G x hx => by rw [← execOp_put (ops := ops) oi hsi a oj.dst u hd]; exact h.runs G x hx⟩

def FM (P : Program) (md : Region.Mode) (ops : Array Oper) (w : World) (al : Nat → World → Nat → Prop) (val : Nat → Nat → Nat → Value) (qs ms : List Nat) (L : (Nat → Option Nat) → Array Bool → Act → Prop) : Nat → (Nat → Option Nat) → Array Bool → Act → Prop
  | 0, G, got, a => L G got a
  | f + 1, G, got, a => Region.ready md ops got ≠ [] ∧ ∀ i ∈ Region.ready md ops got,
      (i ∈ qs ∧ ∃ o v, ops[i]? = some o ∧ YM P ops w al o v a ∧ FM P md ops w al val qs ms L f G (got.setIfInBounds i true) (a.put o.dst v)) ∨
      (i ∈ ms ∧ ∃ o d, ops[i]? = some o ∧ Mk P w al val i o d a ∧ ∀ g e, FM P md ops w al val qs ms L f (upd G i g) (got.setIfInBounds i true) (a.put (some d) (val i g e)))

theorem FM_any {g : Nat} {L : (Nat → Option Nat) → Array Bool → Act → Prop} {Q : Exit → Act → World → Prop}
    (hL : ∀ G got a u, ClM w al G u → L G got a → wpAny P md ops Q g got a u) :
    ∀ (f : Nat) (G : Nat → Option Nat) (got : Array Bool) (a : Act) (u : World), ClM w al G u → FM P md ops w al val qs ms L f G got a → wpAny P md ops Q (f + g) got a u
  | 0, G, got, a, u, hu, h => by rw [Nat.zero_add]; exact hL _ _ _ _ hu h
  | f + 1, G, got, a, u, hu, h => by
    rw [show f + 1 + g = (f + g) + 1 by omega]
    refine ⟨fun h0 => absurd h0 h.1, fun i hi => ?_⟩
    rcases h.2 i hi with ⟨_, o, v, ho, hy, hf⟩ | ⟨_, o, d, ho, ha, hf⟩
    · refine wpOp_of_qOp (C := ClM w al G) (K := fun a' => a' = a.put o.dst v) hu (fun a' u' hu' e => ?_) ((hy G ⟨u, hu⟩).qOp ho rfl)
      rw [e]
      exact FM_any hL f _ _ _ _ hu' hf
    · unfold wpOp
      simp only [ho]
      have hw : Region.wanted o (yielded ops a.tmps) = true := by unfold Region.wanted; rw [ha.guard]
      rw [if_pos hw]
      left
      have hr := ha.runs G u hu
      unfold Oper.wp
      generalize (execOp a.eval o).run P u = r at hr
      cases r with
      | halt x w' => exact hr.elim
      | ok x w' =>
        cases x with
        | value x =>
          obtain ⟨b, e, hx, hc⟩ := hr
          rw [Oper.upon_value, ha.dst, hx]
          exact FM_any hL f _ _ _ _ hc (hf b e)
        | enter fn args =>
          rw [Oper.upon_enter]
          refine Calls.mono hr fun z u'' ⟨b, e, hz, hc⟩ => ?_
          subst hz
          simp only []
          rw [ha.dst]
          exact FM_any hL f _ _ _ _ hc (hf b e)
        | _ => exact hr.elim

theorem FM_first {i : Nat} {oi : Oper} {v : Value} {L : (Nat → Option Nat) → Array Bool → Act → Prop} (hi : ops[i]? = some oi) (hsel : ∀ (j : Nat) (o : Oper) cs b, ops[j]? = some o → o.op ≠ .select cs b)
    (hs : waitB md ops k ops.size = true) (hc : Region.chainB md ops k = true) (hn : k < ops.size) (hiq : i ∈ qs) (hin : i < k) (hlt : ∀ j, j ∈ qs ∨ j ∈ ms → j < k)
    (hdone : ∀ G got a, L G got a → ∀ j ∈ Region.ready md ops got, k ≤ j) :
    ∀ (f : Nat) (G : Nat → Option Nat) (got : Array Bool) (a : Act), HeadInv md ops k got →
      (∀ j oj, ops[j]? = some oj → j ≠ i → got.getD j true = false → (∀ e ∈ oj.after, Region.binds md e = true → e.on ≠ i) → oi.apart ops oj = true) →
      i ∈ Region.ready md ops got → YM P ops w al oi v a →
      FM P md ops w al val qs ms L f G (got.setIfInBounds i true) (a.put oi.dst v) → FM P md ops w al val qs ms L (f + 1) G got a
  | f, G, got, a, inv, hfree, hr, hy, H => by
    have hun := (mem_ready.1 hr).1
    refine ⟨fun h => (by rw [h] at hr; cases hr), fun j hj => ?_⟩
    have hjn : j < k := by
      refine Nat.lt_of_le_of_ne (ready_le hc inv hj) fun e => ?_
      have := ready_last (i := i) hs inv (by rw [← e]; exact hj) hin hun
      omega
    by_cases hji : j = i
    · subst hji; exact .inl ⟨hiq, oi, v, hi, hy, H⟩
    · have hrj := ready_mono hj hji
      obtain ⟨hjun, oj, hoj, hall⟩ := mem_ready.1 hj
      have hnot : ∀ e ∈ oj.after, Region.binds md e = true → e.on ≠ i := fun e he hb heq => by
        have h1 := hall e he hb
        rw [heq, getD_both hun] at h1
        cases h1
      obtain ⟨p1, p2, p3⟩ := Oper.apart_spec (hfree j oj hoj hji hjun hnot)
      have hfree' : ∀ m ok, ops[m]? = some ok → m ≠ i → (got.setIfInBounds j true).getD m true = false → (∀ e ∈ ok.after, Region.binds md e = true → e.on ≠ i) → oi.apart ops ok = true := fun m ok hk hki hun' hno => by
        refine hfree m ok hk hki ?_ hno
        by_cases hjk : j = m
        · subst hjk; exact hjun
        · rw [getD_set_ne true hjk] at hun'; exact hun'
      match f, H with
      | 0, H => have := hdone _ _ _ H j hrj; omega
      | f + 1, H =>
        rcases H.2 j hrj with ⟨hjq, o, u, ho, hyj, hf⟩ | ⟨hjm, o, d, ho, ha, hf⟩
        · have e : o = oj := Option.some.inj (ho.symm.trans hoj)
          subst e
          refine .inl ⟨hjq, o, u, ho, hyj.unput (fun cs b => hsel j o cs b ho) p1, ?_⟩
          refine FM_first hi hsel hs hc hn hiq hin hlt hdone f G _ _ (inv.set hj hjn) hfree' (ready_mono hr (Ne.symm hji)) (hy.put (fun cs b => hsel i oi cs b hi) p3) ?_
          rw [Array.setIfInBounds_comm _ _ hji, ← Act.put_comm a v u p2]
          exact hf
        · have e : o = oj := Option.some.inj (ho.symm.trans hoj)
          subst e
          refine .inr ⟨hjm, o, d, ho, ha.unput (fun cs b => hsel j o cs b ho) p1, fun g x => ?_⟩
          have hyi : YM P ops w al oi v (a.put o.dst (val j g x)) := hy.put (fun cs b => hsel i oi cs b hi) p3
          have hg := hf g x
          rw [← ha.dst] at hg ⊢
          refine FM_first hi hsel hs hc hn hiq hin hlt hdone f _ _ _ (inv.set hj hjn) hfree' (ready_mono hr (Ne.symm hji)) hyi ?_
          rw [Array.setIfInBounds_comm _ _ hji, ← Act.put_comm a v _ p2]
          exact hg

theorem FM_firstM {i : Nat} {oi : Oper} {di : Tmp} {L : (Nat → Option Nat) → Array Bool → Act → Prop} (hi : ops[i]? = some oi) (hsel : ∀ (j : Nat) (o : Oper) cs b, ops[j]? = some o → o.op ≠ .select cs b)
    (hs : waitB md ops k ops.size = true) (hc : Region.chainB md ops k = true) (hn : k < ops.size) (him : i ∈ ms) (hin : i < k)
    (hdone : ∀ G got a, L G got a → ∀ j ∈ Region.ready md ops got, k ≤ j) :
    ∀ (f : Nat) (G : Nat → Option Nat) (got : Array Bool) (a : Act), HeadInv md ops k got → (∀ j, j ∈ qs → got.getD j true = true) →
      (∀ j oj, ops[j]? = some oj → j ≠ i → got.getD j true = false → (∀ e ∈ oj.after, Region.binds md e = true → e.on ≠ i) → oi.apart ops oj = true) →
      i ∈ Region.ready md ops got → Mk P w al val i oi di a →
      (∀ g e, FM P md ops w al val qs ms L f (upd G i g) (got.setIfInBounds i true) (a.put (some di) (val i g e))) → FM P md ops w al val qs ms L (f + 1) G got a
  | f, G, got, a, inv, hall0, hfree, hr, ha, H => by
    have hun := (mem_ready.1 hr).1
    refine ⟨fun h => (by rw [h] at hr; cases hr), fun j hj => ?_⟩
    have hjn : j < k := by
      refine Nat.lt_of_le_of_ne (ready_le hc inv hj) fun e => ?_
      have := ready_last (i := i) hs inv (by rw [← e]; exact hj) hin hun
      omega
    obtain ⟨hjun, oj, hoj, hall⟩ := mem_ready.1 hj
    by_cases hji : j = i
    · subst hji; exact .inr ⟨him, oi, di, hi, ha, H⟩
    · have hrj := ready_mono hj hji
      match f, H with
      | 0, H => have := hdone _ _ _ (H 0 0) j hrj; omega
      | f + 1, H =>
        have hnot : ∀ e ∈ oj.after, Region.binds md e = true → e.on ≠ i := fun e he hb heq => by
          have h1 := hall e he hb
          rw [heq, getD_both hun] at h1
          cases h1
        obtain ⟨p1, p2, p3⟩ := Oper.apart_spec (hfree j oj hoj hji hjun hnot)
        have hfree' : ∀ m ok, ops[m]? = some ok → m ≠ i → (got.setIfInBounds j true).getD m true = false → (∀ e ∈ ok.after, Region.binds md e = true → e.on ≠ i) → oi.apart ops ok = true := fun m ok hk hki hun' hno => by
          refine hfree m ok hk hki ?_ hno
          by_cases hjk : j = m
          · subst hjk; exact hjun
          · rw [getD_set_ne true hjk] at hun'; exact hun'
        have key : ∀ g e, ∃ d, j ∈ ms ∧ Mk P w al val j oj d (a.put (some di) (val i g e)) ∧ ∀ g' e', FM P md ops w al val qs ms L f (upd (upd G i g) j g') ((got.setIfInBounds i true).setIfInBounds j true) ((a.put (some di) (val i g e)).put (some d) (val j g' e')) := fun g e => by
          rcases (H g e).2 j hrj with ⟨hjq, _⟩ | ⟨h1, o, d, ho, had, hf⟩
          · rw [hall0 j hjq] at hjun; cases hjun
          · have e : o = oj := Option.some.inj (ho.symm.trans hoj)
            subst e
            exact ⟨d, h1, had, hf⟩
        obtain ⟨d, hjm, had, _⟩ := key 0 0
        have had0 : Mk P w al val j oj d a := by
          rw [← ha.dst] at had
          exact had.unput (fun cs b => hsel j oj cs b hoj) p1
        refine .inr ⟨hjm, oj, d, hoj, had0, fun g' e' => ?_⟩
        have ha' : Mk P w al val i oi di (a.put (some d) (val j g' e')) := by
          have := ha.put (u := val j g' e') (fun cs b => hsel i oi cs b hi) p3
          rw [had0.dst] at this
          exact this
        refine FM_firstM hi hsel hs hc hn him hin hdone f _ _ _ (inv.set hj hjn) (fun m hk => by
          have hjk : j ≠ m := fun e => by rw [e, hall0 m hk] at hjun; cases hjun
          rw [getD_set_ne true hjk]; exact hall0 m hk) hfree' (ready_mono hr (Ne.symm hji)) ha' fun g e => ?_
        obtain ⟨d', _, had', hf⟩ := key g e
        have ed : d' = d := Option.some.inj (had'.dst.symm.trans had0.dst)
        subst ed
        rw [Array.setIfInBounds_comm _ _ hji, upd_comm G hji]
        have hp : ∀ x, some di = some x → some d' ≠ some x := fun x hx => by rw [← had0.dst]; exact p2 x (by rw [ha.dst]; exact hx)
        rw [← Act.put_comm a _ _ hp]
        exact hf g' e'

/-- an order of the head: each may come up then, and is apart from what need not wait for it -/
def ordB (md : Region.Mode) (ops : Array Oper) (g k : Nat) : List Nat → Array Bool → Bool
  | [], got => Region.seqB md ops g k got
  | i :: l, got => (Region.ready md ops got).contains i && Region.free md ops got i && ordB md ops g k l (got.setIfInBounds i true)
def ChM (P : Program) (ops : Array Oper) (w : World) (al : Nat → World → Nat → Prop) (A : Act) : List Nat → Act → Prop
  | [], a => a = A
  | i :: l, a => ∃ o v, ops[i]? = some o ∧ YM P ops w al o v a ∧ ChM P ops w al A l (a.put o.dst v)
def AhM (P : Program) (ops : Array Oper) (w : World) (al : Nat → World → Nat → Prop) (val : Nat → Nat → Nat → Value) (Lq : (Nat → Option Nat) → Act → Prop) : List Nat → (Nat → Option Nat) → Act → Prop
  | [], G, a => Lq G a
  | i :: l, G, a => ∃ o d, ops[i]? = some o ∧ Mk P w al val i o d a ∧ ∀ g e, AhM P ops w al val Lq l (upd G i g) (a.put (some d) (val i g e))

theorem set_listed {got : Array Bool} {i j : Nat} (h : got.getD j true = true) : (got.setIfInBounds i true).getD j true = true := by
  by_cases e : i = j
  · subst e
    by_cases hk : i < got.size
    · simp [hk]
    · simp [hk]
  · rw [getD_set_ne true e]; exact h

theorem FM_lexM {g : Nat} {Lq : (Nat → Option Nat) → Act → Prop} (hsel : Region.noSelect ops = true) (hs : waitB md ops k ops.size = true) (hc : Region.chainB md ops k = true) (hn : k < ops.size) (hlt : ∀ j, j ∈ qs ∨ j ∈ ms → j < k) :
    ∀ (l : List Nat) (G : Nat → Option Nat) (got : Array Bool) (a : Act), (∀ i, i ∈ l → i ∈ ms) → HeadInv md ops k got → (∀ j, j ∈ qs → got.getD j true = true) →
    ordB md ops g k l got = true → AhM P ops w al val Lq l G a →
    FM P md ops w al val qs ms (fun G' got' a' => Region.seqB md ops g k got' = true ∧ Lq G' a') l.length G got a
  | [], G, got, a, _, _, _, hB, h => ⟨hB, h⟩
  | i :: l, G, got, a, hl, inv, hall, hB, h => by
    simp only [ordB, Bool.and_eq_true] at hB
    obtain ⟨⟨hr, hf⟩, hB'⟩ := hB
    have him := hl i (List.mem_cons_self ..)
    have hin := hlt i (.inr him)
    have hr' : i ∈ Region.ready md ops got := by simpa using hr
    obtain ⟨o, d, h0, ha, hh⟩ := h
    refine FM_firstM h0 (Region.noSelect_spec hsel) hs hc hn him hin (fun G' got' a' hL => seqB_ready hL.1) l.length G got a inv hall (Region.free_spec h0 hf) hr' ha fun b e => ?_
    exact FM_lexM hsel hs hc hn hlt l _ _ _ (fun j hj => hl j (List.mem_cons_of_mem _ hj)) (inv.set hr' hin) (fun j hj => set_listed (hall j hj)) hB' (hh b e)

theorem FM_lex {g : Nat} {Lq : (Nat → Option Nat) → Act → Prop} {A : Act} (hsel : Region.noSelect ops = true)
    (hs : waitB md ops k ops.size = true) (hc : Region.chainB md ops k = true) (hn : k < ops.size) (hlt : ∀ j, j ∈ qs ∨ j ∈ ms → j < k) :
    ∀ (l : List Nat) (G : Nat → Option Nat) (got : Array Bool) (a : Act), (∀ i, i ∈ l → i ∈ qs) → HeadInv md ops k got → (∀ j, j ∈ qs → j ∈ l ∨ got.getD j true = true) →
    ordB md ops g k (l ++ ms) got = true → ChM P ops w al A l a → AhM P ops w al val Lq ms G A →
    FM P md ops w al val qs ms (fun G' got' a' => Region.seqB md ops g k got' = true ∧ Lq G' a') (l.length + ms.length) G got a
  | [], G, got, a, _, inv, hall, hB, h, hA => by
    simp only [List.length_nil, Nat.zero_add, List.nil_append] at hB ⊢
    rw [show a = A from h]
    exact FM_lexM hsel hs hc hn hlt ms G got A (fun _ h => h) inv (fun j hj => (hall j hj).resolve_left (by simp)) hB hA
  | i :: l, G, got, a, hl, inv, hall, hB, h, hA => by
    rw [show (i :: l).length + ms.length = (l.length + ms.length) + 1 by simp only [List.length_cons]; omega]
    simp only [List.cons_append, ordB, Bool.and_eq_true] at hB
    obtain ⟨⟨hr, hf⟩, hB'⟩ := hB
    have hiq := hl i (List.mem_cons_self ..)
    have hin := hlt i (.inl hiq)
    have hr' : i ∈ Region.ready md ops got := by simpa using hr
    obtain ⟨o, v, h0, hy, hK⟩ := h
    refine FM_first h0 (Region.noSelect_spec hsel) hs hc hn hiq hin hlt (fun G' got' a' hL => seqB_ready hL.1) (l.length + ms.length) G got a inv (Region.free_spec h0 hf) hr' hy ?_
    refine FM_lex hsel hs hc hn hlt l G _ _ (fun j hj => hl j (List.mem_cons_of_mem _ hj)) (inv.set hr' hin) (fun j hj => ?_) hB' hK hA
    rcases hall j hj with h | h
    · rcases List.mem_cons.1 h with h | h
      · subst h
        right
        have hsz : j < got.size := by rw [inv.size]; omega
        simp [hsz]
      · exact .inl h
    · exact .inr (set_listed h)

theorem chain_ofM {A : Act} {N : Nat} (hst : Lasts al) : ∀ (l : List Nat) (lo : List Oper) (a : Act), l.map (fun i => ops[i]?) = lo.map some → a.tmps.size = N → dstB N lo = true → (∀ G, (∃ u, ClM w al G u) → wpQuiet P ops (ClM w al G) (fun a' => a' = A) lo a) → ChM P ops w al A l a
  | [], [], a, _, _, _, h => h (fun _ => none) ⟨w, Made.rfl_ _ _, fun i g e => (by cases e), fun i j g e => (by cases e)⟩
  | [], _ :: _, a, hm, _, _, h => by simp at hm
  | _ :: _, [], a, hm, _, _, h => by simp at hm
  | i :: l, o :: lo, a, hm, hN, hD, h => by
    simp only [List.map_cons, List.cons.injEq] at hm
    have h0 : ∃ u, ClM w al (fun _ => none) u := ⟨w, Made.rfl_ _ _, fun i g e => (by cases e), fun i j g e => (by cases e)⟩
    unfold dstB at hD
    simp only [Bool.and_eq_true] at hD
    obtain ⟨hd, hD'⟩ := hD
    cases ho : o.dst with
    | none => rw [ho] at hd; cases hd
    | some d =>
      rw [ho] at hd
      simp only [Bool.and_eq_true, decide_eq_true_eq, List.all_eq_true, bne_iff_ne] at hd
      obtain ⟨v, _, hv⟩ := quiet_cons (h _ h0)
      have slot : ∀ G, (∃ u, ClM w al G u) → ∀ x, wpQuiet P ops (ClM w al G) (fun a' => a' = A) lo (a.put o.dst x) → A.tmps[d]? = some x := fun G hG x hx => by
        rw [last_slot lo _ hx hd.2, ho]
        exact put_get a d x (by rw [hN]; exact hd.1)
      have all : ∀ G, (∃ u, ClM w al G u) → YieldsIn P ops (ClM w al G) o v a ∧ wpQuiet P ops (ClM w al G) (fun a' => a' = A) lo (a.put o.dst v) := fun G hG => by
        obtain ⟨x, hy, hx⟩ := quiet_cons (h G hG)
        have e : x = v := Option.some.inj ((slot G hG x hx).symm.trans (slot _ h0 v hv))
        rw [e] at hy hx
        exact ⟨hy, hx⟩
      exact ⟨o, v, hm.1, fun G hG => (all G hG).1, chain_ofM hst l lo _ hm.2 ((put_size ..).trans hN) hD' fun G hG => (all G hG).2⟩
end

section
variable {P : Program}
def makesB (md : Region.Mode) (ops : Array Oper) (k : Nat) (qs ms : List Nat) : Bool :=
  Region.noSelect ops && decide (k < ops.size) && waitB md ops k ops.size && Region.chainB md ops k && (qs ++ ms).all (fun i => decide (i < k)) && decide (qs.length + ms.length = k) && ordB md ops (ops.size - k) k (qs ++ ms) (Array.replicate ops.size false)
/-- qs: quiet, ms: they make; all the first k; then the others, in one order alone -/
theorem region_makes {id : Nat} {Q : Exit → Act → World → Prop} {a : Act} {w : World} {l : List Oper} (k N : Nat) (qs ms : List Nat) (al : Nat → World → Nat → Prop) (val : Nat → Nat → Nat → Value) (hm : P.follows .mixedOrders = true) (hst : Lasts al)
    (hB : makesB .any l.toArray k qs ms = true) (hq : qs.map (fun i => l.toArray[i]?) = (qs.filterMap fun i => l[i]?).map some) (hD : dstB N (qs.filterMap fun i => l[i]?) = true) (hN : a.tmps.size = N)
    (h : ∃ A : Act, (∀ (T : Type) (_ : Nonempty T) (f : T → World), Class w f → wpQuiet P l.toArray (fun w' => ∃ x, w' = f x) (fun a' => a' = A) (qs.filterMap fun i => l[i]?) a) ∧
      AhM P l.toArray w al val (fun G a' => ∀ u, ClM w al G u → wpList P l.toArray Q (l.drop k) a' u) ms (fun _ => none) A) : (Code.region id l.toArray true).wp P Q a w := by
  obtain ⟨A, h1, h2⟩ := h
  simp only [makesB, Bool.and_eq_true, decide_eq_true_eq, List.all_eq_true, List.mem_append] at hB
  obtain ⟨⟨⟨⟨⟨⟨hsel, hn⟩, hs⟩, hc⟩, hlt⟩, hlen⟩, hlex⟩ := hB
  have hn' : k < l.length := by simpa using hn
  have hdl : (l.drop k).length = l.toArray.size - k := by simp
  have inv0 : HeadInv .any l.toArray k (Array.replicate l.toArray.size false) :=
    ⟨by simp, fun j oj _ hl => (by rw [getD_replicate_false] at hl; cases hl), fun t _ ht => getD_in (by simpa using ht) (getD_replicate_false _ _)⟩
  have hch : ChM P l.toArray w al A qs a := by
    refine chain_ofM (N := N) hst qs _ a hq hN hD fun G hG => ?_
    obtain ⟨u, hu⟩ := hG
    have := h1 {v // ClM w al G v} ⟨⟨u, hu⟩⟩ Subtype.val ⟨fun x => x.2.1, fun x v hv => ⟨⟨v, x.2.step hst hv⟩, rfl⟩⟩
    have e : (fun w' => ∃ x : {v // ClM w al G v}, w' = x.1) = ClM w al G := by
      funext w'
      exact propext ⟨fun ⟨x, hx⟩ => hx ▸ x.2, fun h => ⟨⟨w', h⟩, rfl⟩⟩
    rw [e] at this
    exact this
  have hL : ∀ G got a' u, ClM w al G u → (Region.seqB .any l.toArray (l.toArray.size - k) k got = true ∧ ∀ u, ClM w al G u → wpList P l.toArray Q (l.drop k) a' u) → wpAny P .any l.toArray Q (l.toArray.size - k) got a' u := fun G got a' u hu hL => by
    have := wpAny_of_seq (md := .any) (Q' := Q) (l.drop k) k got a' u (fun j => by simp [List.getElem?_drop]) (by rw [hdl]; exact hL.1) (hL.2 u hu)
    rwa [hdl] at this
  have H := FM_lex (md := .any) (g := l.toArray.size - k) (P := P) (w := w) (al := al) (val := val) (Lq := fun G a' => ∀ u, ClM w al G u → wpList P l.toArray Q (l.drop k) a' u) (A := A) (qs := qs) (ms := ms)
    hsel hs hc hn hlt qs (fun _ => none) _ a (fun _ h => h) inv0 (fun j hj => .inl hj) hlex hch h2
  refine wp_region_any hm ?_
  have c0 : ClM w al (fun _ => none) { w with drawn := w.drawn + 1 } := ⟨made_draw w, fun i g e => (by cases e), fun i j g e => (by cases e)⟩
  have := FM_any hL _ _ _ _ _ c0 H
  rw [hlen, show k + (l.toArray.size - k) = l.toArray.size by omega] at this
  exact this
end
end Go.Proofs.Ytekcehhoimhjeaa.Fx
