/- Mkj Rsc -/
import Derived.Test.YtgdcphmmehedoaaGreatCc5
set_option maxRecDepth 100000
set_option maxHeartbeats 64000000
/- Regions that draw their order, the head of which is no first stretch of the text: as Mak, with a set of operations in the place of 'the first k'. -/
namespace Go.Proofs.YtgdcphmmehedoaaGreat.Fx.MJ
open Go.ChangeShapes Go.WideShapes Go.ChangeAt Go.RowKit MI
set_option linter.unusedVariables false
structure HI (md : Region.Mode) (ops : Array Oper) (hd : Nat → Bool) (listed : Array Bool) : Prop where
 size : listed.size = ops.size
 closed : ∀ j oj, ops[j]? = some oj → listed.getD j false = true → ∀ e ∈ oj.after, Region.binds md e = true → listed.getD e.on false = true
 tail : ∀ t, t < ops.size → hd t = false → listed.getD t true = false
section
variable {ops : Array Oper} {md : Region.Mode} {hd : Nat → Bool}
theorem HI.set {i : Nat} {listed : Array Bool} (inv : HI md ops hd listed) (hi : i ∈ Region.ready md ops listed) (hin : hd i = true) : HI md ops hd (listed.setIfInBounds i true) := by
 obtain ⟨_, oi, hoi, hall⟩ := mem_ready.1 hi
 refine ⟨by simp [inv.size], fun j oj hj hl e he hb => ?_, fun t ht ht' => by rw [getD_set_ne true (fun e => by rw [e, ht'] at hin; cases hin)]; exact inv.tail t ht ht'⟩
 by_cases hij : i = j
 ·subst hij
  have : oj = oi := Option.some.inj (hj.symm.trans hoi)
  subst this
  exact getD_set_true (hall e he hb)
 ·rw [getD_set_ne false hij] at hl
  exact getD_set_true (inv.closed j oj hj hl e he hb)
theorem down_gotS {got : Array Bool} (inv : HI md ops hd got) : ∀ (f : Nat) (S : List Nat), (∀ j, j ∈ S → got.getD j false = true) → ∀ i, i ∈ down md ops f S → got.getD i false = true
 | 0, S, h, i, hi => h i hi
 | f + 1, S, h, i, hi => by
  refine down_gotS inv f _ (fun j hj => ?_) i hi
  have h1 := (List.mem_filter.1 hj).2
  simp only [Bool.or_eq_true, List.contains_iff_mem, List.any_eq_true] at h1
  rcases h1 with h1 | ⟨m, hm, h2⟩
  ·exact h j h1
  ·obtain ⟨o', ho', e, he, hb, hon⟩ := Region.waitsFor_spec h2
   rw [← hon]
   exact inv.closed m o' ho' (h m hm) e he hb
def chainS (md : Region.Mode) (ops : Array Oper) (hd : Nat → Bool) (k : Nat) : Bool :=
 (List.range ops.size).all fun t => hd t || t == k || (List.range ops.size).any fun u => !hd u && Region.waitsFor md ops t u
theorem ready_leS {k j : Nat} {got : Array Bool} (hc : chainS md ops hd k = true) (inv : HI md ops hd got) (hj : j ∈ Region.ready md ops got) : hd j = true ∨ j = k := by
 obtain ⟨_, ot, hot, hall⟩ := mem_ready.1 hj
 have htlt : j < ops.size := (Array.getElem?_eq_some_iff.1 hot).1
 have h1 := List.all_eq_true.1 hc j (List.mem_range.2 htlt)
 simp only [Bool.or_eq_true, beq_iff_eq] at h1
 rcases h1 with (h1 | h1) | h1
 ·exact .inl h1
 ·exact .inr h1
 ·obtain ⟨u, hu, h2⟩ := List.any_eq_true.1 h1
  simp only [Bool.and_eq_true, Bool.not_eq_true'] at h2
  obtain ⟨o', ho', e, he, hb, hon⟩ := Region.waitsFor_spec h2.2
  have e1 : o' = ot := Option.some.inj (ho'.symm.trans hot)
  subst e1
  have h3 := hall e he hb
  rw [hon, getD_both (inv.tail u (List.mem_range.1 hu) h2.1)] at h3
  cases h3
def waitS (md : Region.Mode) (ops : Array Oper) (hd : Nat → Bool) (k : Nat) (ps : List Nat) : Bool := (List.range ops.size).all fun i => !hd i || ps.contains i || Region.waitsFor md ops k i || (down md ops 6 ((List.range ops.size).filter fun j => Region.waitsFor md ops k j)).contains i
theorem ready_lastS {k i : Nat} {ps : List Nat} {got : Array Bool} (hw : waitS md ops hd k ps = true) (inv : HI md ops hd got) (hj : k ∈ Region.ready md ops got) (hi : hd i = true) (his : i < ops.size) (hun : got.getD i true = false) : i ∈ ps := by
 have h1 := List.all_eq_true.1 hw i (List.mem_range.2 his)
 simp only [Bool.or_eq_true, Bool.not_eq_true', List.contains_iff_mem] at h1
 obtain ⟨_, ot, hot, hall⟩ := mem_ready.1 hj
 have direct : ∀ j, Region.waitsFor md ops k j = true → got.getD j false = true := fun j h => by
  obtain ⟨o', ho', e, he, hb, hon⟩ := Region.waitsFor_spec h
  have e1 : o' = ot := Option.some.inj (ho'.symm.trans hot)
  subst e1
  rw [← hon]
  exact hall e he hb
 have no : got.getD i false = true → False := fun h => by rw [getD_both hun] at h; cases h
 rcases h1 with ((h1 | h1) | h1) | h1
 ·rw [hi] at h1; cases h1
 ·exact h1
 ·exact (no (direct i h1)).elim
 ·exact (no (down_gotS inv 6 _ (fun j hj => direct j (List.mem_filter.1 hj).2) i h1)).elim
def seqS (md : Region.Mode) (ops : Array Oper) : List Nat → Array Bool → Bool
 | [], listed => (Region.ready md ops listed).isEmpty
 | k :: ts, listed => decide (Region.ready md ops listed = [k]) && seqS md ops ts (listed.setIfInBounds k true)
theorem seqS_ready {ts : List Nat} {listed : Array Bool} (hts : ∀ t, t ∈ ts → hd t = false) (h : seqS md ops ts listed = true) : ∀ j ∈ Region.ready md ops listed, hd j = false := by
 cases ts with
 | nil => intro j hj; simp only [seqS, List.isEmpty_iff] at h; rw [h] at hj; cases hj
 | cons k ts =>
  intro j hj
  simp only [seqS, Bool.and_eq_true, decide_eq_true_eq] at h
  rw [h.1] at hj
  have : j = k := by simpa using hj
  rw [this]
  exact hts k (List.mem_cons_self ..)
end
section
variable {P : Program} {ops : Array Oper} {md : Region.Mode} {w : World} {al : Nat → World → Nat → Ex → Prop} {val : Nat → Nat → Ex → Value} {hd : Nat → Bool} {k : Nat} {ts qs ms ps : List Nat} {dp : Nat → List Nat}
theorem dep_done {i j : Nat} {got : Array Bool} (inv : HI md ops hd got) (hj : j ∈ Region.ready md ops got) (hd : depB md ops j i = true) : got.getD i false = true := by
 obtain ⟨_, ot, hot, hall⟩ := mem_ready.1 hj
 have direct : ∀ x, Region.waitsFor md ops j x = true → got.getD x false = true := fun x h => by
  obtain ⟨o', ho', e, he, hb, hon⟩ := Region.waitsFor_spec h
  have e1 : o' = ot := Option.some.inj (ho'.symm.trans hot)
  subst e1
  rw [← hon]
  exact hall e he hb
 unfold depB at hd
 simp only [Bool.or_eq_true, List.contains_iff_mem] at hd
 rcases hd with h | h
 ·exact direct i h
 ·exact down_gotS inv 6 _ (fun x hx => direct x (List.mem_filter.1 hx).2) i h
def GM (P : Program) (md : Region.Mode) (ops : Array Oper) (hd : Nat → Bool) (w : World) (al : Nat → World → Nat → Ex → Prop) (val : Nat → Nat → Ex → Value) (k : Nat) (qs ms : List Nat) (dp : Nat → List Nat) (g : Nat) (Q : Exit → Act → World → Prop) (L : (Nat → Option (Nat × Ex)) → Array Bool → Act → Prop) : Nat → (Nat → Option (Nat × Ex)) → Array Bool → Act → Prop
 | 0, G, got, a => L G got a
 | f + 1, G, got, a => Region.ready md ops got ≠ [] ∧ ∀ i ∈ Region.ready md ops got,
   (i ∈ qs ∧ hd i = true ∧ ∃ o v, ops[i]? = some o ∧ YD P ops w al (dp i) G o v a ∧ GM P md ops hd w al val k qs ms dp g Q L f G (got.setIfInBounds i true) (a.put o.dst v)) ∨
   (i ∈ ms ∧ hd i = true ∧ ∃ o d, ops[i]? = some o ∧ MkD P w al val (dp i) G i o d a ∧ ∀ b e, GM P md ops hd w al val k qs ms dp g Q L f (MI.upd G i (b, e)) (got.setIfInBounds i true) (a.put (some d) (val i b e))) ∨
   (i = k ∧ ∀ u, Cm w al G u → wpOp P ops Q i (wpAny P md ops Q (f + g) (got.setIfInBounds i true)) a u)
theorem GM_any {g : Nat} {L : (Nat → Option (Nat × Ex)) → Array Bool → Act → Prop} {Q : Exit → Act → World → Prop}
  (hL : ∀ G got a u, Cm w al G u → L G got a → wpAny P md ops Q g got a u) :
  ∀ (f : Nat) (G : Nat → Option (Nat × Ex)) (got : Array Bool) (a : Act) (u : World), Cm w al G u → GM P md ops hd w al val k qs ms dp g Q L f G got a → wpAny P md ops Q (f + g) got a u
 | 0, G, got, a, u, hu, h => by rw [Nat.zero_add]; exact hL _ _ _ _ hu h
 | f + 1, G, got, a, u, hu, h => by
  rw [show f + 1 + g = (f + g) + 1 by omega]
  refine ⟨fun h0 => absurd h0 h.1, fun i hi => ?_⟩
  rcases h.2 i hi with ⟨_, _, o, v, ho, hy, hf⟩ | ⟨_, _, o, d, ho, ha, hf⟩ | ⟨_, hf⟩
  ·refine wpOp_of_qOp (C := Cm w al G) (K := fun a' => a' = a.put o.dst v) hu (fun a' u' hu' e => ?_) ((hy G (agree.rfl_ _ _) ⟨u, hu⟩).qOp ho rfl)
   rw [e]
   exact GM_any hL f _ _ _ _ hu' hf
  ·unfold wpOp
   simp only [ho]
   have hw : Region.wanted o (yielded ops a.tmps) = true := by unfold Region.wanted; rw [ha.guard]
   rw [if_pos hw]
   left
   have hr := ha.runs G u (agree.rfl_ _ _) hu
   unfold Oper.wp
   generalize (execOp a.eval o).run P u = r at hr
   cases r with
   | halt x w' => exact hr.elim
   | ok x w' =>
    cases x with
    | value x =>
     obtain ⟨b, e, hx, hc⟩ := hr
     rw [Oper.upon_value, ha.dst, hx]
     exact GM_any hL f _ _ _ _ hc (hf b e)
    | enter fn args =>
     rw [Oper.upon_enter]
     refine Calls.mono hr fun z u'' ⟨b, e, hz, hc⟩ => ?_
     subst hz
     simp only []
     rw [ha.dst]
     exact GM_any hL f _ _ _ _ hc (hf b e)
    | _ => exact hr.elim
  ·exact hf u hu
theorem GM_first {i g : Nat} {Q : Exit → Act → World → Prop} {oi : Oper} {v : Value} {L : (Nat → Option (Nat × Ex)) → Array Bool → Act → Prop} (hL : ∀ G got a u, Cm w al G u → L G got a → wpAny P md ops Q g got a u) (hQ : NoFrame Q) (hpu : ∀ p ∈ ps, ∀ o, ops[p]? = some o → Pure P o) (hi : ops[i]? = some oi)
  (hsel : ∀ (j : Nat) (o : Oper) cs b, ops[j]? = some o → o.op ≠ .select cs b) (hs : waitS md ops hd k ps = true) (hc : chainS md ops hd k = true) (hn : hd k = false) (hiq : i ∈ qs) (hin : hd i = true) (hdp : ∀ j m, hd j = true → m ∈ dp j → depB md ops j m = true)
  (hdone : ∀ G got a, L G got a → ∀ j ∈ Region.ready md ops got, hd j = false) :
  ∀ (f : Nat) (G : Nat → Option (Nat × Ex)) (got : Array Bool) (a : Act), HI md ops hd got →
   (∀ j oj, ops[j]? = some oj → j ≠ i → got.getD j true = false → (∀ e ∈ oj.after, Region.binds md e = true → e.on ≠ i) → oi.apart ops oj = true) →
   i ∈ Region.ready md ops got → YD P ops w al (dp i) G oi v a →
   GM P md ops hd w al val k qs ms dp g Q L f G (got.setIfInBounds i true) (a.put oi.dst v) → GM P md ops hd w al val k qs ms dp g Q L (f + 1) G got a
 | f, G, got, a, inv, hfree, hr, hy, H => by
  have hun := (mem_ready.1 hr).1
  refine ⟨fun h => (by rw [h] at hr; cases hr), fun j hj => ?_⟩
  have hle := ready_leS hc inv hj
  by_cases hji : j = i
  ·subst hji; exact .inl ⟨hiq, hin, oi, v, hi, hy, H⟩
  ·have hrj := ready_mono hj hji
   obtain ⟨hjun, oj, hoj, hall⟩ := mem_ready.1 hj
   have hnot : ∀ e ∈ oj.after, Region.binds md e = true → e.on ≠ i := fun e he hb heq => by
    have h1 := hall e he hb
    rw [heq, getD_both hun] at h1
    cases h1
   have hap := hfree j oj hoj hji hjun hnot
   obtain ⟨p1, p2, p3⟩ := Oper.apart_spec hap
   have hfree' : ∀ m ok, ops[m]? = some ok → m ≠ i → (got.setIfInBounds j true).getD m true = false → (∀ e ∈ ok.after, Region.binds md e = true → e.on ≠ i) → oi.apart ops ok = true := fun m ok hk hki hun' hno => by
    refine hfree m ok hk hki ?_ hno
    by_cases hjk : j = m
    ·subst hjk; exact hjun
    ·rw [getD_set_ne true hjk] at hun'; exact hun'
   by_cases hjl : j = k
   ·have hip : i ∈ ps := ready_lastS hs inv (by rw [← hjl]; exact hj) hin (Array.getElem?_eq_some_iff.1 hi).1 hun
    refine .inr (.inr ⟨hjl, fun u hu => ?_⟩)
    have hy' : Yields P ops oi v a := by
     rcases hy G (agree.rfl_ _ _) ⟨u, hu⟩ with ⟨hw, hv⟩ | hw
     ·exact .inl ⟨hw, hpu i hip oi hi a _ u v (hv u hu)⟩
     ·exact .inr hw
    have hQ' := hQ
    have fin : ∀ N, wpOp P ops Q j (wpAny P md ops Q N ((got.setIfInBounds i true).setIfInBounds j true)) (a.put oi.dst v) u → wpOp P ops Q j (wpAny P md ops Q (N + 1) (got.setIfInBounds j true)) a u := fun N h => by
     refine wpOp_mono (fun a' w' h3 => wpAny_first hi hsel (fun c a w h => hQ' c _ _ w h) N (got.setIfInBounds j true) a' w' hfree' (ready_mono hr (Ne.symm hji)) h3.1 ?_) (wpOp_put hoj hap (fun cs b => hsel i oi cs b hi) (fun cs b => hsel j oj cs b hoj) (fun c a w h => hQ' c _ _ w h) hy' h)
     rw [Array.setIfInBounds_comm _ _ hji]
     exact h3.2
    match f, H with
    | 0, H =>
     have X := hL _ _ _ u hu H
     match g, X with
     | 0, X => rw [X.1] at hrj; cases hrj
     | g + 1, X => rw [Nat.zero_add]; exact fin g (X.2 j hrj)
    | f + 1, H =>
     rcases H.2 j hrj with ⟨_, h, _⟩ | ⟨_, h, _⟩ | ⟨_, h⟩
     ·rw [hjl, hn] at h; cases h
     ·rw [hjl, hn] at h; cases h
     ·rw [show f + 1 + g = f + g + 1 by omega]; exact fin _ (h u hu)
   have hjn : hd j = true := hle.resolve_right hjl
   have hji' : j ∉ dp i := fun hm => by
    have := dep_done inv hr (hdp i j hin hm)
    rw [getD_both hjun] at this; cases this
   match f, H with
   | 0, H => have := hdone _ _ _ H j hrj; rw [hjn] at this; cases this
   | f + 1, H =>
    rcases H.2 j hrj with ⟨hjq, hjn', o, u, ho, hyj, hf⟩ | ⟨hjm, hjn', o, d, ho, ha, hf⟩ | ⟨h1, _⟩
    ·have e : o = oj := Option.some.inj (ho.symm.trans hoj)
     subst e
     refine .inl ⟨hjq, hjn', o, u, ho, hyj.unput (fun cs b => hsel j o cs b ho) p1, ?_⟩
     refine GM_first hL hQ hpu hi hsel hs hc hn hiq hin hdp hdone f G _ _ (inv.set hj hjn) hfree' (ready_mono hr (Ne.symm hji)) (hy.put (fun cs b => hsel i oi cs b hi) p3) ?_
     rw [Array.setIfInBounds_comm _ _ hji, ← Act.put_comm a v u p2]
     exact hf
    ·have e : o = oj := Option.some.inj (ho.symm.trans hoj)
     subst e
     refine .inr (.inl ⟨hjm, hjn', o, d, ho, ha.unput (fun cs b => hsel j o cs b ho) p1, fun b x => ?_⟩)
     have hyi : YD P ops w al (dp i) (MI.upd G j (b, x)) oi v (a.put o.dst (val j b x)) := (hy.put (fun cs b => hsel i oi cs b hi) p3).more hji'
     have hg := hf b x
     rw [← ha.dst] at hg ⊢
     refine GM_first hL hQ hpu hi hsel hs hc hn hiq hin hdp hdone f _ _ _ (inv.set hj hjn) hfree' (ready_mono hr (Ne.symm hji)) hyi ?_
     rw [Array.setIfInBounds_comm _ _ hji, ← Act.put_comm a v _ p2]
     exact hg
    ·exact absurd h1 hjl
theorem GM_firstM {i g : Nat} {Q : Exit → Act → World → Prop} {oi : Oper} {di : Tmp} {L : (Nat → Option (Nat × Ex)) → Array Bool → Act → Prop} (hi : ops[i]? = some oi) (hsel : ∀ (j : Nat) (o : Oper) cs b, ops[j]? = some o → o.op ≠ .select cs b)
  (hs : waitS md ops hd k ps = true) (hc : chainS md ops hd k = true) (hn : hd k = false) (him : i ∈ ms) (hin : hd i = true) (hips : i ∉ ps) (hdp : ∀ j m, hd j = true → m ∈ dp j → depB md ops j m = true)
  (hdone : ∀ G got a, L G got a → ∀ j ∈ Region.ready md ops got, hd j = false) :
  ∀ (f : Nat) (G : Nat → Option (Nat × Ex)) (got : Array Bool) (a : Act), HI md ops hd got → (∀ j, j ∈ qs → got.getD j true = true ∨ depB md ops j i = true) →
   (∀ j oj, ops[j]? = some oj → j ≠ i → got.getD j true = false → (∀ e ∈ oj.after, Region.binds md e = true → e.on ≠ i) → oi.apart ops oj = true) →
   i ∈ Region.ready md ops got → MkD P w al val (dp i) G i oi di a →
   (∀ b e, GM P md ops hd w al val k qs ms dp g Q L f (MI.upd G i (b, e)) (got.setIfInBounds i true) (a.put (some di) (val i b e))) → GM P md ops hd w al val k qs ms dp g Q L (f + 1) G got a
 | f, G, got, a, inv, hall0, hfree, hr, ha, H => by
  have hun := (mem_ready.1 hr).1
  refine ⟨fun h => (by rw [h] at hr; cases hr), fun j hj => ?_⟩
  have hjn : hd j = true := (ready_leS hc inv hj).resolve_right fun e => hips (ready_lastS (i := i) hs inv (by rw [← e]; exact hj) hin (Array.getElem?_eq_some_iff.1 hi).1 hun)
  obtain ⟨hjun, oj, hoj, hall⟩ := mem_ready.1 hj
  have noq : j ∉ qs := fun hq => by
   rcases hall0 j hq with h | h
   ·rw [h] at hjun; cases hjun
   ·have := dep_done inv hj h
    rw [getD_both hun] at this; cases this
  by_cases hji : j = i
  ·subst hji; exact .inr (.inl ⟨him, hin, oi, di, hi, ha, H⟩)
  ·have hrj := ready_mono hj hji
   have hij' : i ∉ dp j := fun hm => by
    have := dep_done inv hj (hdp j i hjn hm)
    rw [getD_both hun] at this; cases this
   have hji' : j ∉ dp i := fun hm => by
    have := dep_done inv hr (hdp i j hin hm)
    rw [getD_both hjun] at this; cases this
   match f, H with
   | 0, H => have := hdone _ _ _ (H 0 0) j hrj; rw [hjn] at this; cases this
   | f + 1, H =>
    have hnot : ∀ e ∈ oj.after, Region.binds md e = true → e.on ≠ i := fun e he hb heq => by
     have h1 := hall e he hb
     rw [heq, getD_both hun] at h1
     cases h1
    obtain ⟨p1, p2, p3⟩ := Oper.apart_spec (hfree j oj hoj hji hjun hnot)
    have hfree' : ∀ m ok, ops[m]? = some ok → m ≠ i → (got.setIfInBounds j true).getD m true = false → (∀ e ∈ ok.after, Region.binds md e = true → e.on ≠ i) → oi.apart ops ok = true := fun m ok hk hki hun' hno => by
     refine hfree m ok hk hki ?_ hno
     by_cases hjk : j = m
     ·subst hjk; exact hjun
     ·rw [getD_set_ne true hjk] at hun'; exact hun'
    have key : ∀ b e, ∃ d, j ∈ ms ∧ MkD P w al val (dp j) (MI.upd G i (b, e)) j oj d (a.put (some di) (val i b e)) ∧ ∀ b' e', GM P md ops hd w al val k qs ms dp g Q L f (MI.upd (MI.upd G i (b, e)) j (b', e')) ((got.setIfInBounds i true).setIfInBounds j true) ((a.put (some di) (val i b e)).put (some d) (val j b' e')) := fun b e => by
     rcases (H b e).2 j hrj with ⟨hjq, _⟩ | ⟨h1, _, o, d, ho, had, hf⟩ | ⟨h1, _⟩
     ·exact absurd hjq noq
     ·have e : o = oj := Option.some.inj (ho.symm.trans hoj)
      subst e
      exact ⟨d, h1, had, hf⟩
     ·rw [h1, hn] at hjn; cases hjn
    obtain ⟨d, hjm, had, _⟩ := key 0 0
    have had0 : MkD P w al val (dp j) G j oj d a := by
     have := had.less hij'
     rw [← ha.dst] at this
     exact this.unput (fun cs b => hsel j oj cs b hoj) p1
    refine .inr (.inl ⟨hjm, hjn, oj, d, hoj, had0, fun b' e' => ?_⟩)
    have ha' : MkD P w al val (dp i) (MI.upd G j (b', e')) i oi di (a.put (some d) (val j b' e')) := by
     have := (ha.put (u := val j b' e') (fun cs b => hsel i oi cs b hi) p3).more (g := (b', e')) hji'
     rw [had0.dst] at this
     exact this
    refine GM_firstM hi hsel hs hc hn him hin hips hdp hdone f _ _ _ (inv.set hj hjn) (fun m hm => by
     rcases hall0 m hm with h | h
     ·exact .inl (set_listed h)
     ·exact .inr h) hfree' (ready_mono hr (Ne.symm hji)) ha' fun b e => ?_
    obtain ⟨d', _, had', hf⟩ := key b e
    have ed : d' = d := Option.some.inj (had'.dst.symm.trans had0.dst)
    subst ed
    rw [Array.setIfInBounds_comm _ _ hji, MI.upd_comm G hji]
    have hp : ∀ x, some di = some x → some d' ≠ some x := fun x hx => by rw [← had0.dst]; exact p2 x (by rw [ha.dst]; exact hx)
    rw [← Act.put_comm a _ _ hp]
    exact hf b' e'
def ordS (md : Region.Mode) (ops : Array Oper) (ts qs ms : List Nat) : List Nat → Array Bool → Bool
 | [], got => seqS md ops ts got
 | i :: l, got => (Region.ready md ops got).contains i && Region.free md ops got i && (qs.contains i || (ms.contains i && qs.all fun j => got.getD j true || depB md ops j i)) && ordS md ops ts qs ms l (got.setIfInBounds i true)
theorem GM_lex {g : Nat} {Q : Exit → Act → World → Prop} {Lq : (Nat → Option (Nat × Ex)) → Act → Prop} (hL : ∀ G got a u, Cm w al G u → (seqS md ops ts got = true ∧ Lq G a) → wpAny P md ops Q g got a u) (hQ : NoFrame Q) (hpu : ∀ p ∈ ps, ∀ o, ops[p]? = some o → Pure P o)
  (hsel : Region.noSelect ops = true) (hs : waitS md ops hd k ps = true) (hc : chainS md ops hd k = true) (hn : hd k = false) (hts : ∀ t, t ∈ ts → hd t = false) (hdp : ∀ j m, hd j = true → m ∈ dp j → depB md ops j m = true) (hmp : ∀ i, i ∈ ms → i ∉ ps) :
  ∀ (l : List Nat) (G : Nat → Option (Nat × Ex)) (got : Array Bool) (a : Act), (∀ i, i ∈ l → hd i = true) → HI md ops hd got → ordS md ops ts qs ms l got = true → MI.Can P ops w al val qs ms dp Lq l G a →
  GM P md ops hd w al val k qs ms dp g Q (fun G' got' a' => seqS md ops ts got' = true ∧ Lq G' a') l.length G got a
 | [], G, got, a, _, _, hB, h => ⟨hB, h⟩
 | i :: l, G, got, a, hl, inv, hB, h => by
  simp only [ordS, Bool.and_eq_true] at hB
  obtain ⟨⟨⟨hr, hf⟩, hq⟩, hB'⟩ := hB
  have hin := hl i (List.mem_cons_self ..)
  have hr' : i ∈ Region.ready md ops got := by simpa using hr
  rcases h with ⟨hiq, o, v, h0, hy, hK⟩ | ⟨hiq, o, d, h0, ha, hK⟩
  ·refine GM_first hL hQ hpu h0 (Region.noSelect_spec hsel) hs hc hn (by simpa using hiq) hin hdp (fun G' got' a' hL => seqS_ready hts hL.1) l.length G got a inv (Region.free_spec h0 hf) hr' hy ?_
   exact GM_lex hL hQ hpu hsel hs hc hn hts hdp hmp l G _ _ (fun j hj => hl j (List.mem_cons_of_mem _ hj)) (inv.set hr' hin) hB' hK
  ·rw [hiq] at hq
   simp only [Bool.false_or, Bool.and_eq_true, List.all_eq_true, Bool.or_eq_true] at hq
   have him : i ∈ ms := by simpa using hq.1
   refine GM_firstM h0 (Region.noSelect_spec hsel) hs hc hn him hin (hmp i him) hdp (fun G' got' a' hL => seqS_ready hts hL.1) l.length G got a inv hq.2 (Region.free_spec h0 hf) hr' ha fun b e => ?_
   exact GM_lex hL hQ hpu hsel hs hc hn hts hdp hmp l _ _ _ (fun j hj => hl j (List.mem_cons_of_mem _ hj)) (inv.set hr' hin) hB' (hK b e)
def mkS (md : Region.Mode) (ops : Array Oper) (k : Nat) (ts cs qs ms ps : List Nat) (dp : Nat → List Nat) : Bool :=
 Region.noSelect ops && !(cs.contains k) && waitS md ops (fun i => cs.contains i) k ps && chainS md ops (fun i => cs.contains i) k && ts.all (fun t => !(cs.contains t)) && decide (cs.length + ts.length = ops.size) && cs.all (fun j => (dp j).all fun m => depB md ops j m) && ms.all (fun i => !(ps.contains i)) && ordS md ops ts qs ms cs (Array.replicate ops.size false)
end
section
variable {P : Program}
end
end Go.Proofs.YtgdcphmmehedoaaGreat.Fx.MJ
/- Regions that draw their order and hold a chain of stores: quiet operations and stores in whatever order the edges allow, as long as no store turns what a quiet one looks at. -/
namespace Go.Proofs.YtgdcphmmehedoaaGreat.Fx.RC
open Go.ChangeShapes Go.WideShapes Go.ChangeAt Go.RowKit
set_option linter.unusedVariables false
theorem eval_slot {a b : Act} {x : Operand} (h : ∀ t, x = .tmp t → a.tmps[t]? = b.tmps[t]?) : a.eval x = b.eval x := by
 cases x with
 | tmp t => simp [Act.eval, h t rfl]
 | _ => rfl
theorem exec_slot {ops : Array Oper} {a b : Act} {o : Oper} (hs : ∀ cs c, o.op ≠ .select cs c) (h : ∀ t, t ∈ o.looksAt ops → a.tmps[t]? = b.tmps[t]?) : execOp a.eval o = execOp b.eval o :=
 execOp_congr o hs fun x hx => eval_slot fun t e => h t (by
  subst e
  exact List.mem_append_left _ (List.mem_filterMap.2 ⟨.tmp t, by simpa using hx, rfl⟩))
theorem wanted_free {ops : Array Oper} {o : Oper} (a : Act) (h : o.guard = none) : Region.wanted o (yielded ops a.tmps) = true := by unfold Region.wanted; rw [h]
def laterB (ops : Array Oper) : List Oper → Bool
 | [] => true
 | o :: l => (o :: l).all (fun o' => match o'.dst with | some d => !(o.looksAt ops).contains d | none => true) && laterB ops l
section
variable {P : Program} {ops : Array Oper} {md : Region.Mode} {Q : Exit → Act → World → Prop} {A : Act} {C : Nat → World → Prop}
theorem defers_put (a : Act) (d : Option Tmp) (v : Value) : (a.put d v).defers = a.defers := by cases d <;> rfl
theorem quiet_defers {C : World → Prop} : ∀ (l : List Oper) (a : Act), wpQuiet P ops C (fun a' => a' = A) l a → A.defers = a.defers ∧ A.tmps.size = a.tmps.size
 | [], a, h => by rw [show a = A from h]; exact ⟨rfl, rfl⟩
 | o :: l, a, h => by
  obtain ⟨v, _, h'⟩ := quiet_cons h
  obtain ⟨h1, h2⟩ := quiet_defers l _ h'
  exact ⟨h1.trans (defers_put a o.dst v), h2.trans (put_size a o.dst v)⟩
theorem quiet_at {C : World → Prop} (hsel : ∀ (j : Nat) (o : Oper) cs b, ops[j]? = some o → o.op ≠ .select cs b) {N : Nat} : ∀ (l : List Oper) (a : Act), wpQuiet P ops C (fun a' => a' = A) l a → a.tmps.size = N → dstB N l = true → laterB ops l = true → (∀ o ∈ l, o.guard = none ∧ ∃ j : Nat, ops[j]? = some o) →
  ∀ o ∈ l, ∃ v d, o.dst = some d ∧ A.tmps[d]? = some v ∧ ∀ u, C u → o.quietAt P A C u v
 | [], a, _, _, _, _, _, o, ho => by cases ho
 | o :: l, a, h, hN, hD, hL, hG, x, hx => by
  obtain ⟨v, hy, h'⟩ := quiet_cons h
  have hD0 := hD
  unfold dstB at hD
  unfold laterB at hL
  simp only [Bool.and_eq_true, List.all_eq_true] at hD hL
  rcases List.mem_cons.1 hx with rfl | hx
  ·cases hd : x.dst with
   | none => rw [hd] at hD; cases hD.1
   | some d =>
    rw [hd] at hD
    simp only [Bool.and_eq_true, decide_eq_true_eq, List.all_eq_true, bne_iff_ne] at hD
    obtain ⟨hg, j, hj⟩ := hG x (List.mem_cons_self ..)
    refine ⟨v, d, rfl, ?_, fun u hu => ?_⟩
    ·rw [last_slot l _ h' hD.1.2, hd]
     exact put_get a d v (by rw [hN]; exact hD.1.1)
    ·rcases hy with ⟨_, hv⟩ | ⟨hw, _⟩
     ·have e : execOp A.eval x = execOp a.eval x := exec_slot (ops := ops) (hsel j x · · hj) fun t ht => last_slot (x :: l) a h fun o' ho' e => by
       have := hL.1 o' ho'
       rw [e] at this
       simp only [Bool.not_eq_true'] at this
       have h2 : (x.looksAt ops).contains t = true := by simpa using ht
       rw [h2] at this
       cases this
      have := hv u hu
      unfold Oper.quietAt at this ⊢
      rw [e]
      exact this
     ·rw [wanted_free a hg] at hw; cases hw
  ·exact quiet_at hsel l _ h' ((put_size ..).trans hN) hD.2 hL.2 (fun o' ho' => hG o' (List.mem_cons_of_mem _ ho')) x hx
def Ag (ops : Array Oper) (A : Act) (got : Array Bool) (a : Act) : Prop :=
 a.tmps.size = A.tmps.size ∧ a.defers = A.defers ∧ ∀ t, (∀ (j : Nat) o, ops[j]? = some o → o.dst = some t → got.getD j true = true) → a.tmps[t]? = A.tmps[t]?
def pend (ops : Array Oper) (got : Array Bool) : Nat := ((List.range ops.size).filter fun j => !got.getD j true).length
theorem pend_set {got : Array Bool} {i : Nat} (hi : i < ops.size) (hs : got.size = ops.size) (hg : got.getD i true = false) : pend ops (got.setIfInBounds i true) + 1 = pend ops got := by
 unfold pend
 have key : ∀ l : List Nat, l.Nodup → i ∈ l → (l.filter fun j => !(got.setIfInBounds i true).getD j true).length + 1 = (l.filter fun j => !got.getD j true).length := by
  intro l
  induction l with
  | nil => intro _ h; cases h
  | cons x l ih =>
   intro hn hm
   rw [List.nodup_cons] at hn
   by_cases e : x = i
   ·subst e
    have h1 : (got.setIfInBounds x true).getD x true = true := by simp [hs, hi]
    have h2 : (l.filter fun j => !(got.setIfInBounds x true).getD j true) = l.filter fun j => !got.getD j true := List.filter_congr fun j hj => by
     have hne : x ≠ j := fun e => hn.1 (by rw [e]; exact hj)
     rw [getD_set_ne true hne]
    simp only [List.filter_cons, h1, hg, Bool.not_true, Bool.not_false, if_true, Bool.false_eq_true, if_false, List.length_cons, h2]
   ·have hm' : i ∈ l := (List.mem_cons.1 hm).resolve_left (fun h => e h.symm)
    have h1 : (got.setIfInBounds i true).getD x true = got.getD x true := getD_set_ne true (fun h => e h.symm)
    simp only [List.filter_cons, h1]
    split
    ·simp only [List.length_cons]; rw [← ih hn.2 hm']
    ·exact ih hn.2 hm'
 exact key _ List.nodup_range (List.mem_range.2 hi)
theorem pend_zero {got : Array Bool} (h : pend ops got = 0) {j : Nat} (hj : j < ops.size) : got.getD j true = true := by
 unfold pend at h
 have := List.length_eq_zero_iff.1 h
 rw [List.filter_eq_nil_iff] at this
 have := this j (List.mem_range.2 hj)
 simpa using this
def storesB (md : Region.Mode) (ops : Array Oper) (ts : List Nat) : Bool :=
 Region.noSelect ops && ops.all (fun o => o.guard.isNone) &&
 (List.range ops.size).all (fun j => match ops[j]? with | some o => o.after.all fun e => !Region.binds md e || decide (e.on < j) | none => true) &&
 (List.range ops.size).all (fun j => (List.range ops.size).all fun m => match ops[j]?, ops[m]? with
  | some o, some o' => (match o'.dst with | some t => !(o.looksAt ops).contains t || o.after.any (fun e => Region.binds md e && e.on == m) | none => true) && (match o.dst with | some t => o'.dst != some t || j == m | none => true)
  | _, _ => true) &&
 ts.all (fun j => match ops[j]? with | some o => o.dst.isNone | none => false) &&
 (List.range ops.size).all (fun j => match ops[j]? with | some o => o.dst.isSome || ts.contains j | none => true) &&
 (List.range ts.length).all (fun k => match ts[k + 1]?, ts[k]? with | some j, some i => (match ops[j]? with | some o => o.after.any (fun e => Region.binds md e && e.on == i) | none => true) | _, _ => true)
def StAt (P : Program) (A : Act) (C : Nat → World → Prop) (k : Nat) : Option Oper → Prop
 | some o => ∀ u, C k u → ∃ u', C (k + 1) u' ∧ ((∃ x, (execOp A.eval o).run P u = .ok (.value x) u') ∨ (execOp A.eval o).run P u = .ok .skip u')
 | none => False
def Sts (P : Program) (A : Act) (C : Nat → World → Prop) (ops : Array Oper) : Nat → List Nat → Prop
 | _, [] => True
 | k, j :: ts => StAt P A C k ops[j]? ∧ Sts P A C ops (k + 1) ts
theorem Sts.at_ : ∀ (ts : List Nat) (k : Nat), Sts P A C ops k ts → ∀ (m : Nat) j, ts[m]? = some j → StAt P A C (k + m) ops[j]?
 | [], k, h, m, j, hm => by simp at hm
 | x :: ts, k, h, 0, j, hm => by
  simp at hm
  subst hm
  exact h.1
 | x :: ts, k, h, m + 1, j, hm => by
  have := Sts.at_ ts (k + 1) h.2 m j (by simpa using hm)
  rwa [show k + (m + 1) = k + 1 + m by omega]
end
end Go.Proofs.YtgdcphmmehedoaaGreat.Fx.RC