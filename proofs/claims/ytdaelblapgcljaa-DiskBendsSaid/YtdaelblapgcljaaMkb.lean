/- Regions that draw their order: quiet operations and makings in any order that the text gives, later ones on the answers of earlier ones, and pure ones that come up late; then the others, in one order alone. -/
import Derived.Test.YtdaelblapgcljaaFls
namespace Go.Proofs.Ytdaelblapgcljaa.Fx.MB
open Go.ChangeShapes Go.WideShapes Go.ChangeAt Go.RowKit
set_option linter.unusedVariables false

def waitB (md : Region.Mode) (ops : Array Oper) (k : Nat) (ps : List Nat) : Bool := (List.range k).all fun i => ps.contains i || Region.waitsFor md ops k i || ((List.range k).any fun j => Region.waitsFor md ops k j && Region.waitsFor md ops j i) || (down md ops 24 ((List.range k).filter fun j => Region.waitsFor md ops k j)).contains i
section
variable {P : Program} {ops : Array Oper} {md : Region.Mode}
theorem ready_last {k i : Nat} {ps : List Nat} {got : Array Bool} (hw : waitB md ops k ps = true) (inv : HeadInv md ops k got) (hj : k ∈ Region.ready md ops got) (hi : i < k) (hun : got.getD i true = false) : i ∈ ps := by
  have h1 := List.all_eq_true.1 hw i (List.mem_range.2 hi)
  simp only [Bool.or_eq_true, List.contains_iff_mem] at h1
  obtain ⟨_, ot, hot, hall⟩ := mem_ready.1 hj
  have direct : ∀ j, Region.waitsFor md ops k j = true → got.getD j false = true := fun j h => by
    obtain ⟨o', ho', e, he, hb, hon⟩ := Region.waitsFor_spec h
    have e1 : o' = ot := Option.some.inj (ho'.symm.trans hot)
    subst e1
    rw [← hon]
    exact hall e he hb
  have no : got.getD i false = true → False := fun h => by rw [getD_both hun] at h; cases h
  rcases h1 with ((h1 | h1) | h1) | h1
  · exact h1
  · exact (no (direct i h1)).elim
  · obtain ⟨j, _, h2⟩ := List.any_eq_true.1 h1
    simp only [Bool.and_eq_true] at h2
    obtain ⟨o', ho', e, he, hb, hon⟩ := Region.waitsFor_spec h2.2
    refine (no ?_).elim
    rw [← hon]
    exact inv.closed j o' ho' (direct j h2.1) e he hb
  · exact (no (down_got inv 24 _ (fun j hj => direct j (List.mem_filter.1 hj).2) i (h1))).elim
end
/-- what a making comes to: where its stretch ends, its answer, and the bodies in it -/
structure Ex where
  hi : Nat
  v : Value
instance : OfNat Ex 0 := ⟨⟨0, .bool false⟩⟩

def upd (G : Nat → Option (Nat × Ex)) (i : Nat) (t : Nat × Ex) : Nat → Option (Nat × Ex) := fun x => if x = i then some t else G x
theorem upd_comm (G : Nat → Option (Nat × Ex)) {i j : Nat} (h : i ≠ j) (g k : Nat × Ex) : upd (upd G i g) j k = upd (upd G j k) i g := by
  funext x; unfold upd
  by_cases h1 : x = i
  · have h2 : ¬ x = j := fun e => h (h1.symm.trans e)
    simp [h1, h]
  · simp [h1]
/-- from w on memory has only been made, and these stretches are there, each as 'al' says, apart from each other -/
def Cm (w : World) (al : Nat → World → Nat → Ex → Prop) (G : Nat → Option (Nat × Ex)) (v : World) : Prop :=
  Below w.heap.size w v ∧ (∀ i t, G i = some t → w.heap.size ≤ t.1 ∧ t.1 ≤ t.2.hi ∧ t.2.hi ≤ v.heap.size ∧ al i v t.1 t.2) ∧ (∀ i j t u, G i = some t → G j = some u → i ≠ j → t.2.hi ≤ u.1 ∨ u.2.hi ≤ t.1)
def Lasts (al : Nat → World → Nat → Ex → Prop) : Prop := ∀ i u v g e, al i u g e → e.hi ≤ u.heap.size → Below u.heap.size u v → al i v g e
theorem Cm.step {w : World} {al : Nat → World → Nat → Ex → Prop} {G : Nat → Option (Nat × Ex)} (hst : Lasts al) {u v : World} (h : Cm w al G u) (k : Below u.heap.size u v) : Cm w al G v :=
  ⟨h.1.trans (k.mono h.1.size), fun i t e => by
    obtain ⟨h1, h2, h3, h4⟩ := h.2.1 i t e
    exact ⟨h1, h2, Nat.le_trans h3 k.size, hst i u v t.1 t.2 h4 h3 k⟩, h.2.2⟩
/-- one more stretch -/
theorem Cm.next {w : World} {al : Nat → World → Nat → Ex → Prop} {G : Nat → Option (Nat × Ex)} (hst : Lasts al) {u v : World} (h : Cm w al G u) (k : Below u.heap.size u v) {i g : Nat} {e : Ex} (h1 : u.heap.size ≤ g) (h12 : g ≤ e.hi) (h2 : e.hi ≤ v.heap.size) (h3 : al i v g e) : Cm w al (upd G i (g, e)) v := by
  have h' := h.step hst k
  refine ⟨h'.1, fun j t et => ?_, fun j m t x ej em ne => ?_⟩
  · unfold upd at et
    split at et
    · rename_i hj
      subst hj
      cases et
      exact ⟨Nat.le_trans h.1.size h1, h12, h2, h3⟩
    · exact h'.2.1 j t et
  · unfold upd at ej em
    split at ej <;> split at em
    · rename_i a b; exact absurd (a.trans b.symm) ne
    · cases ej
      have := (h.2.1 m _ em).2.2.1
      exact .inr (Nat.le_trans this h1)
    · cases em
      have := (h.2.1 j _ ej).2.2.1
      exact .inl (Nat.le_trans this h1)
    · exact h.2.2 j m t x ej em ne
/-- what a making has come to -/
def MkUpon (P : Program) (w : World) (al : Nat → World → Nat → Ex → Prop) (val : Nat → Nat → Ex → Value) (i : Nat) (G : Nat → Option (Nat × Ex)) : Result Next → Prop
  | .ok (.value x) u' => ∃ g e, x = val i g e ∧ Cm w al (upd G i (g, e)) u'
  | .ok (.enter f args) u' => Calls P f args u' fun z u'' => ∃ g e, z = .returned (val i g e) ∧ Cm w al (upd G i (g, e)) u''
  | _ => False

def agree (ds : List Nat) (G G' : Nat → Option (Nat × Ex)) : Prop := ∀ m, m ∈ ds → G' m = G m
theorem agree.rfl_ (ds : List Nat) (G : Nat → Option (Nat × Ex)) : agree ds G G := fun _ _ => rfl
theorem agree_up {ds : List Nat} {G G' : Nat → Option (Nat × Ex)} {i : Nat} {g : Nat × Ex} (h : agree ds G G') (hi : i ∉ ds) : agree ds (upd G i g) G' := fun m hm => by
  have hne : m ≠ i := fun e => hi (e ▸ hm)
  rw [h m hm]; unfold upd; rw [if_neg hne]
theorem agree_un {ds : List Nat} {G G' : Nat → Option (Nat × Ex)} {i : Nat} {g : Nat × Ex} (h : agree ds (upd G i g) G') (hi : i ∉ ds) : agree ds G G' := fun m hm => by
  have hne : m ≠ i := fun e => hi (e ▸ hm)
  rw [h m hm]; unfold upd; rw [if_neg hne]

section
variable {P : Program} {ops : Array Oper} {md : Region.Mode} {w : World} {al : Nat → World → Nat → Ex → Prop} {val : Nat → Nat → Ex → Value} {k : Nat} {qs ms ps : List Nat} {dp : Nat → List Nat}

def YD (P : Program) (ops : Array Oper) (w : World) (al : Nat → World → Nat → Ex → Prop) (ds : List Nat) (G : Nat → Option (Nat × Ex)) (o : Oper) (v : Value) (a : Act) : Prop :=
  ∀ G', agree ds G G' → (∃ u, Cm w al G' u) → YieldsIn P ops (Cm w al G') o v a
theorem YD.put {ds : List Nat} {G : Nat → Option (Nat × Ex)} {oi oj : Oper} {v u : Value} {a : Act} (hy : YD P ops w al ds G oi v a) (hsi : ∀ cs b, oi.op ≠ .select cs b) (h : ∀ d, oj.dst = some d → d ∉ oi.looksAt ops) : YD P ops w al ds G oi v (a.put oj.dst u) :=
  fun G' ha hG => (hy G' ha hG).of_same (execOp_put oi hsi a oj.dst u h) (wanted_put oi a oj.dst u h)
theorem YD.unput {ds : List Nat} {G : Nat → Option (Nat × Ex)} {oi oj : Oper} {v u : Value} {a : Act} (hy : YD P ops w al ds G oi v (a.put oj.dst u)) (hsi : ∀ cs b, oi.op ≠ .select cs b) (h : ∀ d, oj.dst = some d → d ∉ oi.looksAt ops) : YD P ops w al ds G oi v a :=
  fun G' ha hG => (hy G' ha hG).of_same (execOp_put oi hsi a oj.dst u h).symm (wanted_put oi a oj.dst u h).symm
theorem YD.more {ds : List Nat} {G : Nat → Option (Nat × Ex)} {i : Nat} {g : Nat × Ex} {o : Oper} {v : Value} {a : Act} (hy : YD P ops w al ds G o v a) (hi : i ∉ ds) : YD P ops w al ds (upd G i g) o v a := fun G' ha hG => hy G' (agree_un ha hi) hG
theorem YD.less {ds : List Nat} {G : Nat → Option (Nat × Ex)} {i : Nat} {g : Nat × Ex} {o : Oper} {v : Value} {a : Act} (hy : YD P ops w al ds (upd G i g) o v a) (hi : i ∉ ds) : YD P ops w al ds G o v a := fun G' ha hG => hy G' (agree_up ha hi) hG

structure MkD (P : Program) (ops : Array Oper) (w : World) (al : Nat → World → Nat → Ex → Prop) (val : Nat → Nat → Ex → Value) (ds : List Nat) (G : Nat → Option (Nat × Ex)) (i : Nat) (o : Oper) (d : Tmp) (a : Act) : Prop where
  dst : o.dst = some d
  guard : Region.wanted o (yielded ops a.tmps) = true
  runs : ∀ G' u, agree ds G G' → Cm w al G' u → MkUpon P w al val i G' ((execOp a.eval o).run P u)
theorem MkD.put {ds : List Nat} {G : Nat → Option (Nat × Ex)} {i : Nat} {oi oj : Oper} {d : Tmp} {u : Value} {a : Act} (h : MkD P ops w al val ds G i oi d a) (hsi : ∀ cs b, oi.op ≠ .select cs b) (hd : ∀ x, oj.dst = some x → x ∉ oi.looksAt ops) : MkD P ops w al val ds G i oi d (a.put oj.dst u) :=
  ⟨h.dst, (wanted_put oi a oj.dst u hd).trans h.guard, fun G' x ha hx => by rw [execOp_put (ops := ops) oi hsi a oj.dst u hd]; exact h.runs G' x ha hx⟩
theorem MkD.unput {ds : List Nat} {G : Nat → Option (Nat × Ex)} {i : Nat} {oi oj : Oper} {d : Tmp} {u : Value} {a : Act} (h : MkD P ops w al val ds G i oi d (a.put oj.dst u)) (hsi : ∀ cs b, oi.op ≠ .select cs b) (hd : ∀ x, oj.dst = some x → x ∉ oi.looksAt ops) : MkD P ops w al val ds G i oi d a :=
  ⟨h.dst, (wanted_put oi a oj.dst u hd).symm.trans h.guard, fun G' x ha hx => by rw [← execOp_put (ops := ops) oi hsi a oj.dst u hd]; exact h.runs G' x ha hx⟩
theorem MkD.more {ds : List Nat} {G : Nat → Option (Nat × Ex)} {i j : Nat} {g : Nat × Ex} {o : Oper} {d : Tmp} {a : Act} (h : MkD P ops w al val ds G j o d a) (hi : i ∉ ds) : MkD P ops w al val ds (upd G i g) j o d a := ⟨h.dst, h.guard, fun G' x ha hx => h.runs G' x (agree_un ha hi) hx⟩
theorem MkD.less {ds : List Nat} {G : Nat → Option (Nat × Ex)} {i j : Nat} {g : Nat × Ex} {o : Oper} {d : Tmp} {a : Act} (h : MkD P ops w al val ds (upd G i g) j o d a) (hi : i ∉ ds) : MkD P ops w al val ds G j o d a := ⟨h.dst, h.guard, fun G' x ha hx => h.runs G' x (agree_up ha hi) hx⟩

def depB (md : Region.Mode) (ops : Array Oper) (j i : Nat) : Bool := Region.waitsFor md ops j i || (down md ops 24 ((List.range ops.size).filter fun x => Region.waitsFor md ops j x)).contains i
theorem dep_done {i j : Nat} {got : Array Bool} (inv : HeadInv md ops k got) (hj : j ∈ Region.ready md ops got) (hd : depB md ops j i = true) : got.getD i false = true := by
  obtain ⟨_, ot, hot, hall⟩ := mem_ready.1 hj
  have direct : ∀ x, Region.waitsFor md ops j x = true → got.getD x false = true := fun x h => by
    obtain ⟨o', ho', e, he, hb, hon⟩ := Region.waitsFor_spec h
    have e1 : o' = ot := Option.some.inj (ho'.symm.trans hot)
    subst e1
    rw [← hon]
    exact hall e he hb
  unfold depB at hd
  simp only [Bool.or_eq_true, List.contains_iff_mem] at hd
  rcases hd with h | h
  · exact direct i h
  · exact down_got inv 24 _ (fun x hx => direct x (List.mem_filter.1 hx).2) i h

def GM (P : Program) (md : Region.Mode) (ops : Array Oper) (w : World) (al : Nat → World → Nat → Ex → Prop) (val : Nat → Nat → Ex → Value) (k : Nat) (qs ms : List Nat) (dp : Nat → List Nat) (g : Nat) (Q : Exit → Act → World → Prop) (L : (Nat → Option (Nat × Ex)) → Array Bool → Act → Prop) : Nat → (Nat → Option (Nat × Ex)) → Array Bool → Act → Prop
  | 0, G, got, a => L G got a
  | f + 1, G, got, a => Region.ready md ops got ≠ [] ∧ ∀ i ∈ Region.ready md ops got,
      (i ∈ qs ∧ i < k ∧ ∃ o v, ops[i]? = some o ∧ YD P ops w al (dp i) G o v a ∧ GM P md ops w al val k qs ms dp g Q L f G (got.setIfInBounds i true) (a.put o.dst v)) ∨
      (i ∈ ms ∧ i < k ∧ ∃ o d, ops[i]? = some o ∧ MkD P ops w al val (dp i) G i o d a ∧ ∀ b e, GM P md ops w al val k qs ms dp g Q L f (upd G i (b, e)) (got.setIfInBounds i true) (a.put (some d) (val i b e))) ∨
      (i = k ∧ ∀ u, Cm w al G u → wpOp P ops Q i (wpAny P md ops Q (f + g) (got.setIfInBounds i true)) a u)

theorem GM_any {g : Nat} {L : (Nat → Option (Nat × Ex)) → Array Bool → Act → Prop} {Q : Exit → Act → World → Prop}
    (hL : ∀ G got a u, Cm w al G u → L G got a → wpAny P md ops Q g got a u) :
    ∀ (f : Nat) (G : Nat → Option (Nat × Ex)) (got : Array Bool) (a : Act) (u : World), Cm w al G u → GM P md ops w al val k qs ms dp g Q L f G got a → wpAny P md ops Q (f + g) got a u
  | 0, G, got, a, u, hu, h => by rw [Nat.zero_add]; exact hL _ _ _ _ hu h
  | f + 1, G, got, a, u, hu, h => by
    rw [show f + 1 + g = (f + g) + 1 by omega]
    refine ⟨fun h0 => absurd h0 h.1, fun i hi => ?_⟩
    rcases h.2 i hi with ⟨_, _, o, v, ho, hy, hf⟩ | ⟨_, _, o, d, ho, ha, hf⟩ | ⟨_, hf⟩
    · refine wpOp_of_qOp (C := Cm w al G) (K := fun a' => a' = a.put o.dst v) hu (fun a' u' hu' e => ?_) ((hy G (agree.rfl_ _ _) ⟨u, hu⟩).qOp ho rfl)
      rw [e]
      exact GM_any hL f _ _ _ _ hu' hf
    · unfold wpOp
      simp only [ho]
      rw [if_pos ha.guard]
      left
      have hr := ha.runs G u (agree.rfl_ _ _) hu
      unfold Oper.wp
      generalize (execOp a.eval o).run P u = r at hr
      cases r with
      | halt x w' => exact hr.elim
      | ok x w' =>
        cases x with
        | value x =>
          obtain ⟨b, e, hx, hc⟩ := hr
          rw [Oper.upon_value, ha.dst, hx]
          exact GM_any hL f _ _ _ _ hc (hf b e)
        | enter fn args =>
          rw [Oper.upon_enter]
          refine Calls.mono hr fun z u'' ⟨b, e, hz, hc⟩ => ?_
          subst hz
          simp only []
          rw [ha.dst]
          exact GM_any hL f _ _ _ _ hc (hf b e)
        | _ => exact hr.elim
    · exact hf u hu

theorem GM_first {i g : Nat} {Q : Exit → Act → World → Prop} {oi : Oper} {v : Value} {L : (Nat → Option (Nat × Ex)) → Array Bool → Act → Prop} (hL : ∀ G got a u, Cm w al G u → L G got a → wpAny P md ops Q g got a u) (hQ : NoFrame Q) (hpu : ∀ p ∈ ps, ∀ o, ops[p]? = some o → Pure P o) (hi : ops[i]? = some oi)
    (hsel : ∀ (j : Nat) (o : Oper) cs b, ops[j]? = some o → o.op ≠ .select cs b) (hs : waitB md ops k ps = true) (hc : Region.chainB md ops k = true) (hn : k < ops.size) (hiq : i ∈ qs) (hin : i < k) (hdp : ∀ j m, j < k → m ∈ dp j → depB md ops j m = true)
    (hdone : ∀ G got a, L G got a → ∀ j ∈ Region.ready md ops got, k ≤ j) :
    ∀ (f : Nat) (G : Nat → Option (Nat × Ex)) (got : Array Bool) (a : Act), HeadInv md ops k got →
      (∀ j oj, ops[j]? = some oj → j ≠ i → got.getD j true = false → (∀ e ∈ oj.after, Region.binds md e = true → e.on ≠ i) → oi.apart ops oj = true) →
      i ∈ Region.ready md ops got → YD P ops w al (dp i) G oi v a →
      GM P md ops w al val k qs ms dp g Q L f G (got.setIfInBounds i true) (a.put oi.dst v) → GM P md ops w al val k qs ms dp g Q L (f + 1) G got a
  | f, G, got, a, inv, hfree, hr, hy, H => by
    have hun := (mem_ready.1 hr).1
    refine ⟨fun h => (by rw [h] at hr; cases hr), fun j hj => ?_⟩
    have hle := ready_le hc inv hj
    by_cases hji : j = i
    · subst hji; exact .inl ⟨hiq, hin, oi, v, hi, hy, H⟩
    · have hrj := ready_mono hj hji
      obtain ⟨hjun, oj, hoj, hall⟩ := mem_ready.1 hj
      have hnot : ∀ e ∈ oj.after, Region.binds md e = true → e.on ≠ i := fun e he hb heq => by
        have h1 := hall e he hb
        rw [heq, getD_both hun] at h1
        cases h1
      have hap := hfree j oj hoj hji hjun hnot
      obtain ⟨p1, p2, p3⟩ := Oper.apart_spec hap
      have hfree' : ∀ m ok, ops[m]? = some ok → m ≠ i → (got.setIfInBounds j true).getD m true = false → (∀ e ∈ ok.after, Region.binds md e = true → e.on ≠ i) → oi.apart ops ok = true := fun m ok hk hki hun' hno => by
        refine hfree m ok hk hki ?_ hno
        by_cases hjk : j = m
        · subst hjk; exact hjun
        · rw [getD_set_ne true hjk] at hun'; exact hun'
      by_cases hjl : j = k
      · have hip : i ∈ ps := ready_last hs inv (by rw [← hjl]; exact hj) hin hun
        refine .inr (.inr ⟨hjl, fun u hu => ?_⟩)
        have hy' : Yields P ops oi v a := by
          rcases hy G (agree.rfl_ _ _) ⟨u, hu⟩ with ⟨hw, hv⟩ | hw
          · exact .inl ⟨hw, hpu i hip oi hi a _ u v (hv u hu)⟩
          · exact .inr hw
        have hQ' := hQ
        have fin : ∀ N, wpOp P ops Q j (wpAny P md ops Q N ((got.setIfInBounds i true).setIfInBounds j true)) (a.put oi.dst v) u → wpOp P ops Q j (wpAny P md ops Q (N + 1) (got.setIfInBounds j true)) a u := fun N h => by
          refine wpOp_mono (fun a' w' h3 => wpAny_first hi hsel (fun c a w h => hQ' c _ _ w h) N (got.setIfInBounds j true) a' w' hfree' (ready_mono hr (Ne.symm hji)) h3.1 ?_) (wpOp_put hoj hap (fun cs b => hsel i oi cs b hi) (fun cs b => hsel j oj cs b hoj) (fun c a w h => hQ' c _ _ w h) hy' h)
          rw [Array.setIfInBounds_comm _ _ hji]
          exact h3.2
        match f, H with
        | 0, H =>
          have X := hL _ _ _ u hu H
          match g, X with
          | 0, X => rw [X.1] at hrj; cases hrj
          | g + 1, X => rw [Nat.zero_add]; exact fin g (X.2 j hrj)
        | f + 1, H =>
          rcases H.2 j hrj with ⟨_, h, _⟩ | ⟨_, h, _⟩ | ⟨_, h⟩
          · omega
          · omega
          · rw [show f + 1 + g = f + g + 1 by omega]; exact fin _ (h u hu)
      have hjn : j < k := by omega
      have hji' : j ∉ dp i := fun hm => by
        have := dep_done inv hr (hdp i j hin hm)
        rw [getD_both hjun] at this; cases this
      match f, H with
      | 0, H => have := hdone _ _ _ H j hrj; omega
      | f + 1, H =>
        rcases H.2 j hrj with ⟨hjq, hjn', o, u, ho, hyj, hf⟩ | ⟨hjm, hjn', o, d, ho, ha, hf⟩ | ⟨h1, _⟩
        · have e : o = oj := Option.some.inj (ho.symm.trans hoj)
          subst e
          refine .inl ⟨hjq, hjn', o, u, ho, hyj.unput (fun cs b => hsel j o cs b ho) p1, ?_⟩
          refine GM_first hL hQ hpu hi hsel hs hc hn hiq hin hdp hdone f G _ _ (inv.set hj hjn) hfree' (ready_mono hr (Ne.symm hji)) (hy.put (fun cs b => hsel i oi cs b hi) p3) ?_
          rw [Array.setIfInBounds_comm _ _ hji, ← Act.put_comm a v u p2]
          exact hf
        · have e : o = oj := Option.some.inj (ho.symm.trans hoj)
          subst e
          refine .inr (.inl ⟨hjm, hjn', o, d, ho, ha.unput (fun cs b => hsel j o cs b ho) p1, fun b x => ?_⟩)
          have hyi : YD P ops w al (dp i) (upd G j (b, x)) oi v (a.put o.dst (val j b x)) := (hy.put (fun cs b => hsel i oi cs b hi) p3).more hji'
          have hg := hf b x
          rw [← ha.dst] at hg ⊢
          refine GM_first hL hQ hpu hi hsel hs hc hn hiq hin hdp hdone f _ _ _ (inv.set hj hjn) hfree' (ready_mono hr (Ne.symm hji)) hyi ?_
          rw [Array.setIfInBounds_comm _ _ hji, ← Act.put_comm a v _ p2]
          exact hg
        · omega

theorem GM_firstM {i g : Nat} {Q : Exit → Act → World → Prop} {oi : Oper} {di : Tmp} {L : (Nat → Option (Nat × Ex)) → Array Bool → Act → Prop} (hi : ops[i]? = some oi) (hsel : ∀ (j : Nat) (o : Oper) cs b, ops[j]? = some o → o.op ≠ .select cs b)
    (hs : waitB md ops k ps = true) (hc : Region.chainB md ops k = true) (hn : k < ops.size) (him : i ∈ ms) (hin : i < k) (hips : i ∉ ps) (hdp : ∀ j m, j < k → m ∈ dp j → depB md ops j m = true)
    (hdone : ∀ G got a, L G got a → ∀ j ∈ Region.ready md ops got, k ≤ j) :
    ∀ (f : Nat) (G : Nat → Option (Nat × Ex)) (got : Array Bool) (a : Act), HeadInv md ops k got → (∀ j, j ∈ qs → got.getD j true = true ∨ depB md ops j i = true) →
      (∀ j oj, ops[j]? = some oj → j ≠ i → got.getD j true = false → (∀ e ∈ oj.after, Region.binds md e = true → e.on ≠ i) → oi.apart ops oj = true) →
      i ∈ Region.ready md ops got → MkD P ops w al val (dp i) G i oi di a →
      (∀ b e, GM P md ops w al val k qs ms dp g Q L f (upd G i (b, e)) (got.setIfInBounds i true) (a.put (some di) (val i b e))) → GM P md ops w al val k qs ms dp g Q L (f + 1) G got a
  | f, G, got, a, inv, hall0, hfree, hr, ha, H => by
    have hun := (mem_ready.1 hr).1
    refine ⟨fun h => (by rw [h] at hr; cases hr), fun j hj => ?_⟩
    have hjn : j < k := by
      refine Nat.lt_of_le_of_ne (ready_le hc inv hj) fun e => ?_
      exact hips (ready_last (i := i) hs inv (by rw [← e]; exact hj) hin hun)
    obtain ⟨hjun, oj, hoj, hall⟩ := mem_ready.1 hj
    have noq : j ∉ qs := fun hq => by
      rcases hall0 j hq with h | h
      · rw [h] at hjun; cases hjun
      · have := dep_done inv hj h
        rw [getD_both hun] at this; cases this
    by_cases hji : j = i
    · subst hji; exact .inr (.inl ⟨him, hin, oi, di, hi, ha, H⟩)
    · have hrj := ready_mono hj hji
      have hij' : i ∉ dp j := fun hm => by
        have := dep_done inv hj (hdp j i hjn hm)
        rw [getD_both hun] at this; cases this
      have hji' : j ∉ dp i := fun hm => by
        have := dep_done inv hr (hdp i j hin hm)
        rw [getD_both hjun] at this; cases this
      match f, H with
      | 0, H => have := hdone _ _ _ (H 0 0) j hrj; omega
      | f + 1, H =>
        have hnot : ∀ e ∈ oj.after, Region.binds md e = true → e.on ≠ i := fun e he hb heq => by
          have h1 := hall e he hb
          rw [heq, getD_both hun] at h1
          cases h1
        obtain ⟨p1, p2, p3⟩ := Oper.apart_spec (hfree j oj hoj hji hjun hnot)
        have hfree' : ∀ m ok, ops[m]? = some ok → m ≠ i → (got.setIfInBounds j true).getD m true = false → (∀ e ∈ ok.after, Region.binds md e = true → e.on ≠ i) → oi.apart ops ok = true := fun m ok hk hki hun' hno => by
          refine hfree m ok hk hki ?_ hno
          by_cases hjk : j = m
          · subst hjk; exact hjun
          · rw [getD_set_ne true hjk] at hun'; exact hun'
        have key : ∀ b e, ∃ d, j ∈ ms ∧ MkD P ops w al val (dp j) (upd G i (b, e)) j oj d (a.put (some di) (val i b e)) ∧ ∀ b' e', GM P md ops w al val k qs ms dp g Q L f (upd (upd G i (b, e)) j (b', e')) ((got.setIfInBounds i true).setIfInBounds j true) ((a.put (some di) (val i b e)).put (some d) (val j b' e')) := fun b e => by
          rcases (H b e).2 j hrj with ⟨hjq, _⟩ | ⟨h1, _, o, d, ho, had, hf⟩ | ⟨h1, _⟩
          · exact absurd hjq noq
          · have e : o = oj := Option.some.inj (ho.symm.trans hoj)
            subst e
            exact ⟨d, h1, had, hf⟩
          · omega
        obtain ⟨d, hjm, had, _⟩ := key 0 0
        have had0 : MkD P ops w al val (dp j) G j oj d a := by
          have := had.less hij'
          rw [← ha.dst] at this
          exact this.unput (fun cs b => hsel j oj cs b hoj) p1
        refine .inr (.inl ⟨hjm, hjn, oj, d, hoj, had0, fun b' e' => ?_⟩)
        have ha' : MkD P ops w al val (dp i) (upd G j (b', e')) i oi di (a.put (some d) (val j b' e')) := by
          have := (ha.put (u := val j b' e') (fun cs b => hsel i oi cs b hi) p3).more (g := (b', e')) hji'
          rw [had0.dst] at this
          exact this
        refine GM_firstM hi hsel hs hc hn him hin hips hdp hdone f _ _ _ (inv.set hj hjn) (fun m hm => by
          rcases hall0 m hm with h | h
          · exact .inl (set_listed h)
          · exact .inr h) hfree' (ready_mono hr (Ne.symm hji)) ha' fun b e => ?_
        obtain ⟨d', _, had', hf⟩ := key b e
        have ed : d' = d := Option.some.inj (had'.dst.symm.trans had0.dst)
        subst ed
        rw [Array.setIfInBounds_comm _ _ hji, upd_comm G hji]
        have hp : ∀ x, some di = some x → some d' ≠ some x := fun x hx => by rw [← had0.dst]; exact p2 x (by rw [ha.dst]; exact hx)
        rw [← Act.put_comm a _ _ hp]
        exact hf b' e'

/-- the order told: each may come up then, and is apart from what need not wait for it; when one makes, what is quiet is done, or waits for it -/
def ordB (md : Region.Mode) (ops : Array Oper) (g k : Nat) (qs ms : List Nat) : List Nat → Array Bool → Bool
  | [], got => Region.seqB md ops g k got
  | i :: l, got => (Region.ready md ops got).contains i && Region.free md ops got i && (qs.contains i || (ms.contains i && qs.all fun j => got.getD j true || depB md ops j i)) && ordB md ops g k qs ms l (got.setIfInBounds i true)
def Can (P : Program) (ops : Array Oper) (w : World) (al : Nat → World → Nat → Ex → Prop) (val : Nat → Nat → Ex → Value) (qs ms : List Nat) (dp : Nat → List Nat) (Lq : (Nat → Option (Nat × Ex)) → Act → Prop) : List Nat → (Nat → Option (Nat × Ex)) → Act → Prop
  | [], G, a => Lq G a
  | i :: l, G, a => (qs.contains i = true ∧ ∃ o v, ops[i]? = some o ∧ YD P ops w al (dp i) G o v a ∧ Can P ops w al val qs ms dp Lq l G (a.put o.dst v)) ∨
      (qs.contains i = false ∧ ∃ o d, ops[i]? = some o ∧ MkD P ops w al val (dp i) G i o d a ∧ ∀ b e, Can P ops w al val qs ms dp Lq l (upd G i (b, e)) (a.put (some d) (val i b e)))

theorem GM_lex {g : Nat} {Q : Exit → Act → World → Prop} {Lq : (Nat → Option (Nat × Ex)) → Act → Prop} (hL : ∀ G got a u, Cm w al G u → (Region.seqB md ops g k got = true ∧ Lq G a) → wpAny P md ops Q g got a u) (hQ : NoFrame Q) (hpu : ∀ p ∈ ps, ∀ o, ops[p]? = some o → Pure P o)
    (hsel : Region.noSelect ops = true) (hs : waitB md ops k ps = true) (hc : Region.chainB md ops k = true) (hn : k < ops.size) (hdp : ∀ j m, j < k → m ∈ dp j → depB md ops j m = true) (hmp : ∀ i, i ∈ ms → i ∉ ps) :
    ∀ (l : List Nat) (G : Nat → Option (Nat × Ex)) (got : Array Bool) (a : Act), (∀ i, i ∈ l → i < k) → HeadInv md ops k got → ordB md ops g k qs ms l got = true → Can P ops w al val qs ms dp Lq l G a →
    GM P md ops w al val k qs ms dp g Q (fun G' got' a' => Region.seqB md ops g k got' = true ∧ Lq G' a') l.length G got a
  | [], G, got, a, _, _, hB, h => ⟨hB, h⟩
  | i :: l, G, got, a, hl, inv, hB, h => by
    simp only [ordB, Bool.and_eq_true] at hB
    obtain ⟨⟨⟨hr, hf⟩, hq⟩, hB'⟩ := hB
    have hin := hl i (List.mem_cons_self ..)
    have hr' : i ∈ Region.ready md ops got := by simpa using hr
    rcases h with ⟨hiq, o, v, h0, hy, hK⟩ | ⟨hiq, o, d, h0, ha, hK⟩
    · refine GM_first hL hQ hpu h0 (Region.noSelect_spec hsel) hs hc hn (by simpa using hiq) hin hdp (fun G' got' a' hL => seqB_ready hL.1) l.length G got a inv (Region.free_spec h0 hf) hr' hy ?_
      exact GM_lex hL hQ hpu hsel hs hc hn hdp hmp l G _ _ (fun j hj => hl j (List.mem_cons_of_mem _ hj)) (inv.set hr' hin) hB' hK
    · rw [hiq] at hq
      simp only [Bool.false_or, Bool.and_eq_true, List.all_eq_true, Bool.or_eq_true] at hq
      have him : i ∈ ms := by simpa using hq.1
      refine GM_firstM h0 (Region.noSelect_spec hsel) hs hc hn him hin (hmp i him) hdp (fun G' got' a' hL => seqB_ready hL.1) l.length G got a inv hq.2 (Region.free_spec h0 hf) hr' ha fun b e => ?_
      exact GM_lex hL hQ hpu hsel hs hc hn hdp hmp l _ _ _ (fun j hj => hl j (List.mem_cons_of_mem _ hj)) (inv.set hr' hin) hB' (hK b e)

/-- quiet ones, walked in a class of worlds -/
theorem can_quiet {A : Act} {N : Nat} {ds : List Nat} {Lq : (Nat → Option (Nat × Ex)) → Act → Prop} {rest : List Nat} {G : Nat → Option (Nat × Ex)} (hst : Lasts al) (hG0 : ∃ G', agree ds G G' ∧ ∃ u, Cm w al G' u) : ∀ (l : List Nat) (lo : List Oper) (a : Act), l.map (fun i => ops[i]?) = lo.map some → a.tmps.size = N → dstB N lo = true → (∀ i, i ∈ l → qs.contains i = true) → (∀ i, i ∈ l → ∀ m, m ∈ ds → m ∈ dp i) →
    (∀ G', agree ds G G' → (∃ u, Cm w al G' u) → wpQuiet P ops (Cm w al G') (fun a' => a' = A) lo a) → Can P ops w al val qs ms dp Lq rest G A → Can P ops w al val qs ms dp Lq (l ++ rest) G a
  | [], [], a, _, _, _, _, _, h, hA => by
    obtain ⟨G0, hag, hne⟩ := hG0
    have e : a = A := h G0 hag hne
    rw [e]; exact hA
  | [], _ :: _, a, hm, _, _, _, _, h, _ => by simp at hm
  | _ :: _, [], a, hm, _, _, _, _, h, _ => by simp at hm
  | i :: l, o :: lo, a, hm, hN, hD, hq, hds, h, hA => by
    simp only [List.map_cons, List.cons.injEq] at hm
    unfold dstB at hD
    simp only [Bool.and_eq_true] at hD
    obtain ⟨hd, hD'⟩ := hD
    cases ho : o.dst with
    | none => rw [ho] at hd; cases hd
    | some d =>
      rw [ho] at hd
      simp only [Bool.and_eq_true, decide_eq_true_eq, List.all_eq_true, bne_iff_ne] at hd
      obtain ⟨G0, hag, hne⟩ := id hG0
      obtain ⟨v, _, hv⟩ := quiet_cons (h _ hag hne)
      have slot : ∀ G', (∃ u, Cm w al G' u) → ∀ x, wpQuiet P ops (Cm w al G') (fun a' => a' = A) lo (a.put o.dst x) → A.tmps[d]? = some x := fun G' hG x hx => by
        rw [last_slot lo _ hx hd.2, ho]
        exact put_get a d x (by rw [hN]; exact hd.1)
      have all : ∀ G', agree ds G G' → (∃ u, Cm w al G' u) → YieldsIn P ops (Cm w al G') o v a ∧ wpQuiet P ops (Cm w al G') (fun a' => a' = A) lo (a.put o.dst v) := fun G' ha hG => by
        obtain ⟨x, hy, hx⟩ := quiet_cons (h G' ha hG)
        have e : x = v := Option.some.inj ((slot G' hG x hx).symm.trans (slot _ hne v hv))
        rw [e] at hy hx
        exact ⟨hy, hx⟩
      exact .inl ⟨hq i (List.mem_cons_self ..), o, v, hm.1, fun G' ha hG => (all G' (fun m hm' => ha m (hds i (List.mem_cons_self ..) m hm')) hG).1,
        can_quiet hst hG0 l lo _ hm.2 ((put_size ..).trans hN) hD' (fun j hj => hq j (List.mem_cons_of_mem _ hj)) (fun j hj => hds j (List.mem_cons_of_mem _ hj)) (fun G' ha hG => (all G' ha hG).2) hA⟩

def mkB (md : Region.Mode) (ops : Array Oper) (k : Nat) (cs qs ms ps : List Nat) (dp : Nat → List Nat) : Bool :=
  Region.noSelect ops && decide (k < ops.size) && waitB md ops k ps && Region.chainB md ops k && cs.all (fun i => decide (i < k)) && decide (cs.length = k) && (List.range k).all (fun j => (dp j).all fun m => depB md ops j m) && ms.all (fun i => !(ps.contains i)) && ordB md ops (ops.size - k) k qs ms cs (Array.replicate ops.size false)
end
section
variable {P : Program}
/-- the first k operations, told in the order cs: quiet ones (qs) and makings (ms); ps: pure ones that may come up late; dp: the makings on whose blocks one leans -/
theorem reg_mk {id : Nat} {Q : Exit → Act → World → Prop} {a : Act} {w : World} {l : List Oper} {val : Nat → Nat → Ex → Value} (al : Nat → World → Nat → Ex → Prop) (k : Nat) (cs qs ms ps : List Nat) (dp : Nat → List Nat) (hm : P.follows .mixedOrders = true)
    (hB : mkB .any l.toArray k cs qs ms ps dp = true) (hpu : ∀ p ∈ ps, ∀ o, l.toArray[p]? = some o → Pure P o)
    (h : Can P l.toArray w al val qs ms dp (fun G a' => ∀ u, Cm w al G u → wpList P l.toArray (NoPanic Q) (l.drop k) a' u) cs (fun _ => none) a) : (Code.region id l.toArray true).wp P Q a w := by
  refine wp_region_noPanic ?_
  simp only [mkB, Bool.and_eq_true, decide_eq_true_eq, List.all_eq_true, Bool.not_eq_true'] at hB
  obtain ⟨⟨⟨⟨⟨⟨⟨⟨hsel, hn⟩, hs⟩, hc⟩, hlt⟩, hlen⟩, hdp⟩, hmp⟩, hlex⟩ := hB
  have hn' : k < l.length := by simpa using hn
  have hdl : (l.drop k).length = l.toArray.size - k := by simp
  have inv0 : HeadInv .any l.toArray k (Array.replicate l.toArray.size false) :=
    ⟨by simp, fun j oj _ hl => (by rw [getD_replicate_false] at hl; cases hl), fun t _ ht => getD_in (by simpa using ht) (getD_replicate_false _ _)⟩
  have hL : ∀ G got a' u, Cm w al G u → (Region.seqB .any l.toArray (l.toArray.size - k) k got = true ∧ ∀ u, Cm w al G u → wpList P l.toArray (NoPanic Q) (l.drop k) a' u) → wpAny P .any l.toArray (NoPanic Q) (l.toArray.size - k) got a' u := fun G got a' u hu hL => by
    have := wpAny_of_seq (md := .any) (Q' := NoPanic Q) (l.drop k) k got a' u (fun j => by simp [List.getElem?_drop]) (by rw [hdl]; exact hL.1) (hL.2 u hu)
    rwa [hdl] at this
  have H := GM_lex (md := .any) (g := l.toArray.size - k) (P := P) (w := w) (al := al) (val := val) (ps := ps) (Lq := fun G a' => ∀ u, Cm w al G u → wpList P l.toArray (NoPanic Q) (l.drop k) a' u) (qs := qs) (ms := ms) (dp := dp) (Q := NoPanic Q)
    hL (fun _ _ _ _ h => h) hpu hsel hs hc hn (fun j m hj hm => hdp j (List.mem_range.2 hj) m hm) (fun i hi hp => by have := hmp i hi; simp at this; exact this hp) cs (fun _ => none) _ a (fun i hi => hlt i hi) inv0 hlex h
  refine wp_region_any hm ?_
  have c0 : Cm w al (fun _ => none) { w with drawn := w.drawn + 1 } := ⟨below_draw w, fun i g e => (by cases e), fun i j t u e => (by cases e)⟩
  have := GM_any hL _ _ _ _ _ c0 H
  rw [hlen, show k + (l.toArray.size - k) = l.toArray.size by omega] at this
  exact this

/-- quiet ones, by a class of worlds: what the makings on whose blocks they lean have left is there -/
theorem can_class {lo : List Oper} {w : World} {al : Nat → World → Nat → Ex → Prop} {val : Nat → Nat → Ex → Value} {qs ms : List Nat} {dp : Nat → List Nat} {Lq : (Nat → Option (Nat × Ex)) → Act → Prop} {rest : List Nat} {G : Nat → Option (Nat × Ex)} {a : Act} (l ds : List Nat) (N : Nat) (hst : Lasts al) (hG0 : ∃ G', agree ds G G' ∧ ∃ u, Cm w al G' u)
    (hq : l.map (fun i => lo.toArray[i]?) = (l.filterMap fun i => lo[i]?).map some) (hN : a.tmps.size = N) (hD : dstB N (l.filterMap fun i => lo[i]?) = true) (hqs : (l.all fun i => qs.contains i && ds.all fun m => (dp i).contains m) = true)
    (h : ∃ A : Act, (∀ (T : Type) (_ : Nonempty T) (f : T → World), ClassB w f → (∀ m, m ∈ ds → ∀ t, G m = some t → ∀ x, w.heap.size ≤ t.1 ∧ t.1 ≤ t.2.hi ∧ t.2.hi ≤ (f x).heap.size ∧ al m (f x) t.1 t.2) → wpQuiet P lo.toArray (fun w' => ∃ x, w' = f x) (fun a' => a' = A) (l.filterMap fun i => lo[i]?) a) ∧
      Can P lo.toArray w al val qs ms dp Lq rest G A) : Can P lo.toArray w al val qs ms dp Lq (l ++ rest) G a := by
  obtain ⟨A, h1, h2⟩ := h
  simp only [List.all_eq_true, Bool.and_eq_true] at hqs
  refine can_quiet (N := N) (ds := ds) hst hG0 l _ a hq hN hD (fun i hi => (hqs i hi).1) (fun i hi m hm => by have := (hqs i hi).2 m hm; simpa using this) (fun G' ha hG => ?_) h2
  obtain ⟨u, hu⟩ := hG
  have := h1 {v // Cm w al G' v} ⟨⟨u, hu⟩⟩ Subtype.val ⟨fun x => x.2.1, fun x v hv => ⟨⟨v, x.2.step hst hv⟩, rfl⟩⟩ (fun m hm g e x => x.2.2.1 m g (by rw [ha m hm]; exact e))
  have e : (fun w' => ∃ x : {v // Cm w al G' v}, w' = x.1) = Cm w al G' := by
    funext w'
    exact propext ⟨fun ⟨x, hx⟩ => hx ▸ x.2, fun h => ⟨⟨w', h⟩, rfl⟩⟩
  rw [e] at this
  exact this
theorem any_class {w : World} {al : Nat → World → Nat → Ex → Prop} (G : Nat → Option (Nat × Ex)) : ∃ G', agree [] G G' ∧ ∃ u, Cm w al G' u :=
  ⟨fun _ => none, fun m hm => (by cases hm), w, Below.refl _ _, fun i g e => (by cases e), fun i j t u e => (by cases e)⟩
/-- one that makes -/
theorem can_mk {ops : Array Oper} {w : World} {al : Nat → World → Nat → Ex → Prop} {val : Nat → Nat → Ex → Value} {qs ms : List Nat} {dp : Nat → List Nat} {Lq : (Nat → Option (Nat × Ex)) → Act → Prop} {rest : List Nat} {G : Nat → Option (Nat × Ex)} {a : Act} (i : Nat) (d : Tmp) (o : Oper) (hq : qs.contains i = false) (ho : ops[i]? = some o) (hd : o.dst = some d) (hg : Region.wanted o (yielded ops a.tmps) = true)
    (h1 : ∀ G' u, agree (dp i) G G' → Cm w al G' u → MkUpon P w al val i G' ((execOp a.eval o).run P u))
    (h2 : ∀ b e, Can P ops w al val qs ms dp Lq rest (upd G i (b, e)) (a.put (some d) (val i b e))) : Can P ops w al val qs ms dp Lq (i :: rest) G a :=
  .inr ⟨hq, o, d, ho, ⟨hd, hg, h1⟩, h2⟩
end
theorem can_one {P : Program} {lo : List Oper} {w : World} {al : Nat → World → Nat → Ex → Prop} {val : Nat → Nat → Ex → Value} {qs ms : List Nat} {dp : Nat → List Nat} {Lq : (Nat → Option (Nat × Ex)) → Act → Prop} {rest : List Nat} {G : Nat → Option (Nat × Ex)} {a : Act} (i : Nat) (d : Tmp) (o : Oper) (v : Value) (ds : List Nat) (hst : Lasts al)
    (hq : qs.contains i = true) (ho : lo.toArray[i]? = some o) (hd : o.dst = some d) (hN : d < a.tmps.size) (hds : (ds.all fun m => (dp i).contains m) = true)
    (h : ∀ (T : Type) (_ : Nonempty T) (f : T → World), ClassB w f → (∀ m, m ∈ ds → ∀ t, G m = some t → ∀ x, w.heap.size ≤ t.1 ∧ t.1 ≤ t.2.hi ∧ t.2.hi ≤ (f x).heap.size ∧ al m (f x) t.1 t.2) → wpQuiet P lo.toArray (fun w' => ∃ x, w' = f x) (fun a' => a' = a.put (some d) v) [o] a)
    (h2 : Can P lo.toArray w al val qs ms dp Lq rest G (a.put (some d) v)) : Can P lo.toArray w al val qs ms dp Lq (i :: rest) G a := by
  refine .inl ⟨hq, o, v, ho, fun G' ha hG => ?_, by rw [hd]; exact h2⟩
  obtain ⟨u, hu⟩ := hG
  have h1 := h {v // Cm w al G' v} ⟨⟨u, hu⟩⟩ Subtype.val ⟨fun x => x.2.1, fun x v hv => ⟨⟨v, x.2.step hst hv⟩, rfl⟩⟩ (fun m hm g e x => x.2.2.1 m g (by rw [ha m (by have := List.all_eq_true.1 hds m hm; simpa using this)]; exact e))
  have e : (fun w' => ∃ x : {v // Cm w al G' v}, w' = x.1) = Cm w al G' := by
    funext w'
    exact propext ⟨fun ⟨x, hx⟩ => hx ▸ x.2, fun h => ⟨⟨w', h⟩, rfl⟩⟩
  rw [e] at h1
  obtain ⟨x, hy, hx⟩ := quiet_cons h1
  have hx : a.put o.dst x = a.put (some d) v := hx
  rw [hd] at hx
  have hv : x = v := by
    have h3 := put_get a d x hN
    rw [hx, put_get a d v hN] at h3
    exact (Option.some.inj h3).symm
  rw [hv] at hy
  exact hy
end Go.Proofs.Ytdaelblapgcljaa.Fx.MB
