/- Rsc Rfl -/
import Derived.Test.YtgdcphmmehedoaaGreatCa5
set_option maxRecDepth 100000
set_option maxHeartbeats 64000000
/- Regions that draw their order and hold a chain of stores: quiet operations and stores in whatever order the edges allow, as long as no store turns what a quiet one looks at. -/
namespace Go.Proofs.YtgdcphmmehedoaaGreat.Fx.RC
open Go.ChangeShapes Go.WideShapes Go.ChangeAt Go.RowKit
set_option linter.unusedVariables false
theorem eval_slot {a b : Act} {x : Operand} (h : ∀ t, x = .tmp t → a.tmps[t]? = b.tmps[t]?) : a.eval x = b.eval x := by
 cases x with
 | tmp t => simp [Act.eval, h t rfl]
 | _ => rfl
theorem exec_slot {ops : Array Oper} {a b : Act} {o : Oper} (hs : ∀ cs c, o.op ≠ .select cs c) (h : ∀ t, t ∈ o.looksAt ops → a.tmps[t]? = b.tmps[t]?) : execOp a.eval o = execOp b.eval o :=
 execOp_congr o hs fun x hx => eval_slot fun t e => h t (by
  subst e
  exact List.mem_append_left _ (List.mem_filterMap.2 ⟨.tmp t, by simpa using hx, rfl⟩))
theorem wanted_free {ops : Array Oper} {o : Oper} (a : Act) (h : o.guard = none) : Region.wanted o (yielded ops a.tmps) = true := by unfold Region.wanted; rw [h]
def laterB (ops : Array Oper) : List Oper → Bool
 | [] => true
 | o :: l => (o :: l).all (fun o' => match o'.dst with | some d => !(o.looksAt ops).contains d | none => true) && laterB ops l
section
variable {P : Program} {ops : Array Oper} {md : Region.Mode} {Q : Exit → Act → World → Prop} {A : Act} {C : Nat → World → Prop}
theorem defers_put (a : Act) (d : Option Tmp) (v : Value) : (a.put d v).defers = a.defers := by cases d <;> rfl
theorem quiet_defers {C : World → Prop} : ∀ (l : List Oper) (a : Act), wpQuiet P ops C (fun a' => a' = A) l a → A.defers = a.defers ∧ A.tmps.size = a.tmps.size
 | [], a, h => by rw [show a = A from h]; exact ⟨rfl, rfl⟩
 | o :: l, a, h => by
  obtain ⟨v, _, h'⟩ := quiet_cons h
  obtain ⟨h1, h2⟩ := quiet_defers l _ h'
  exact ⟨h1.trans (defers_put a o.dst v), h2.trans (put_size a o.dst v)⟩
theorem quiet_at {C : World → Prop} (hsel : ∀ (j : Nat) (o : Oper) cs b, ops[j]? = some o → o.op ≠ .select cs b) {N : Nat} : ∀ (l : List Oper) (a : Act), wpQuiet P ops C (fun a' => a' = A) l a → a.tmps.size = N → dstB N l = true → laterB ops l = true → (∀ o ∈ l, o.guard = none ∧ ∃ j : Nat, ops[j]? = some o) →
  ∀ o ∈ l, ∃ v d, o.dst = some d ∧ A.tmps[d]? = some v ∧ ∀ u, C u → o.quietAt P A C u v
 | [], a, _, _, _, _, _, o, ho => by cases ho
 | o :: l, a, h, hN, hD, hL, hG, x, hx => by
  obtain ⟨v, hy, h'⟩ := quiet_cons h
  have hD0 := hD
  unfold dstB at hD
  unfold laterB at hL
  simp only [Bool.and_eq_true, List.all_eq_true] at hD hL
  rcases List.mem_cons.1 hx with rfl | hx
  ·cases hd : x.dst with
   | none => rw [hd] at hD; cases hD.1
   | some d =>
    rw [hd] at hD
    simp only [Bool.and_eq_true, decide_eq_true_eq, List.all_eq_true, bne_iff_ne] at hD
    obtain ⟨hg, j, hj⟩ := hG x (List.mem_cons_self ..)
    refine ⟨v, d, rfl, ?_, fun u hu => ?_⟩
    ·rw [last_slot l _ h' hD.1.2, hd]
     exact put_get a d v (by rw [hN]; exact hD.1.1)
    ·rcases hy with ⟨_, hv⟩ | ⟨hw, _⟩
     ·have e : execOp A.eval x = execOp a.eval x := exec_slot (ops := ops) (hsel j x · · hj) fun t ht => last_slot (x :: l) a h fun o' ho' e => by
       have := hL.1 o' ho'
       rw [e] at this
       simp only [Bool.not_eq_true'] at this
       have h2 : (x.looksAt ops).contains t = true := by simpa using ht
       rw [h2] at this
       cases this
      have := hv u hu
      unfold Oper.quietAt at this ⊢
      rw [e]
      exact this
     ·rw [wanted_free a hg] at hw; cases hw
  ·exact quiet_at hsel l _ h' ((put_size ..).trans hN) hD.2 hL.2 (fun o' ho' => hG o' (List.mem_cons_of_mem _ ho')) x hx
def Ag (ops : Array Oper) (A : Act) (got : Array Bool) (a : Act) : Prop :=
 a.tmps.size = A.tmps.size ∧ a.defers = A.defers ∧ ∀ t, (∀ (j : Nat) o, ops[j]? = some o → o.dst = some t → got.getD j true = true) → a.tmps[t]? = A.tmps[t]?
def pend (ops : Array Oper) (got : Array Bool) : Nat := ((List.range ops.size).filter fun j => !got.getD j true).length
theorem pend_set {got : Array Bool} {i : Nat} (hi : i < ops.size) (hs : got.size = ops.size) (hg : got.getD i true = false) : pend ops (got.setIfInBounds i true) + 1 = pend ops got := by
 unfold pend
 have key : ∀ l : List Nat, l.Nodup → i ∈ l → (l.filter fun j => !(got.setIfInBounds i true).getD j true).length + 1 = (l.filter fun j => !got.getD j true).length := by
  intro l
  induction l with
  | nil => intro _ h; cases h
  | cons x l ih =>
   intro hn hm
   rw [List.nodup_cons] at hn
   by_cases e : x = i
   ·subst e
    have h1 : (got.setIfInBounds x true).getD x true = true := by simp [hs, hi]
    have h2 : (l.filter fun j => !(got.setIfInBounds x true).getD j true) = l.filter fun j => !got.getD j true := List.filter_congr fun j hj => by
     have hne : x ≠ j := fun e => hn.1 (by rw [e]; exact hj)
     rw [getD_set_ne true hne]
    simp only [List.filter_cons, h1, hg, Bool.not_true, Bool.not_false, if_true, Bool.false_eq_true, if_false, List.length_cons, h2]
   ·have hm' : i ∈ l := (List.mem_cons.1 hm).resolve_left (fun h => e h.symm)
    have h1 : (got.setIfInBounds i true).getD x true = got.getD x true := getD_set_ne true (fun h => e h.symm)
    simp only [List.filter_cons, h1]
    split
    ·simp only [List.length_cons]; rw [← ih hn.2 hm']
    ·exact ih hn.2 hm'
 exact key _ List.nodup_range (List.mem_range.2 hi)
theorem pend_zero {got : Array Bool} (h : pend ops got = 0) {j : Nat} (hj : j < ops.size) : got.getD j true = true := by
 unfold pend at h
 have := List.length_eq_zero_iff.1 h
 rw [List.filter_eq_nil_iff] at this
 have := this j (List.mem_range.2 hj)
 simpa using this
theorem any_stores (ts : List Nat) (hsel : ∀ (j : Nat) (o : Oper) cs b, ops[j]? = some o → o.op ≠ .select cs b) (hgd : ∀ (j : Nat) o, ops[j]? = some o → o.guard = none)
  (hlow : ∀ (j : Nat) o, ops[j]? = some o → ∀ e ∈ o.after, Region.binds md e = true → e.on < j)
  (hwr : ∀ (j m : Nat) o o' t, ops[j]? = some o → ops[m]? = some o' → t ∈ o.looksAt ops → o'.dst = some t → ∃ e ∈ o.after, Region.binds md e = true ∧ e.on = m)
  (hone : ∀ (j m : Nat) o o' t, ops[j]? = some o → ops[m]? = some o' → o.dst = some t → o'.dst = some t → j = m)
  (htd : ∀ (k : Nat) j, ts[k]? = some j → ∃ o, ops[j]? = some o ∧ o.dst = none) (hti : ∀ (j : Nat) o, ops[j]? = some o → o.dst = none → ∃ k : Nat, ts[k]? = some j)
  (htw : ∀ (k : Nat) j i o, ts[k + 1]? = some j → ts[k]? = some i → ops[j]? = some o → ∃ e ∈ o.after, Region.binds md e = true ∧ e.on = i)
  (hq : ∀ (j : Nat) o d s, ops[j]? = some o → o.dst = some d → ∃ v, A.tmps[d]? = some v ∧ ∀ u, C s u → o.quietAt P A (C s) u v)
  (hst : ∀ (k : Nat) j o, ts[k]? = some j → ops[j]? = some o → ∀ u, C k u → ∃ u', C (k + 1) u' ∧ ((∃ x, (execOp A.eval o).run P u = .ok (.value x) u') ∨ (execOp A.eval o).run P u = .ok .skip u'))
  (hQ : ∀ u, C ts.length u → Q .normal A u) :
  ∀ (f : Nat) (got : Array Bool) (a : Act) (s : Nat) (u : World), C s u → got.size = ops.size → pend ops got = f → (∀ (k : Nat) j, ts[k]? = some j → (got.getD j true = true ↔ k < s)) → s ≤ ts.length → Ag ops A got a → wpAny P md ops Q f got a u
 | 0, got, a, s, u, hu, hz, hp, hts, hsl, hag => by
  have all : ∀ j, j < ops.size → got.getD j true = true := fun j hj => pend_zero hp hj
  have hs : s = ts.length := by
   rcases Nat.lt_or_ge s ts.length with h | h
   ·have hk : ts[s]? = some ts[s] := List.getElem?_eq_getElem h
    obtain ⟨o, ho, _⟩ := htd s _ hk
    have := (hts s _ hk).1 (all _ (Array.getElem?_eq_some_iff.1 ho).1)
    omega
   ·omega
  have ea : a = A := by
   obtain ⟨h1, h2, h3⟩ := hag
   cases a; cases A
   simp only [] at h1 h2 h3
   subst h2
   congr 1
   refine Array.ext_getElem? fun t => h3 t fun j o ho _ => all j (Array.getElem?_eq_some_iff.1 ho).1
  refine ⟨?_, by rw [ea]; exact hQ _ (hs ▸ hu)⟩
  refine List.eq_nil_iff_forall_not_mem.2 fun j hj => ?_
  obtain ⟨h1, o, ho, _⟩ := mem_ready.1 hj
  rw [all j (Array.getElem?_eq_some_iff.1 ho).1] at h1
  cases h1
 | f + 1, got, a, s, u, hu, hz, hp, hts, hsl, hag => by
  refine ⟨fun hr => ?_, fun i hi => ?_⟩
  ·exfalso
   -- the least that is not done is ready
   have hne : ∃ j, j < ops.size ∧ got.getD j true = false := by
    refine Classical.byContradiction fun hn => ?_
    have : pend ops got = 0 := by
     unfold pend
     rw [List.length_eq_zero_iff, List.filter_eq_nil_iff]
     intro j hj
     cases hg : got.getD j true with
     | true => simp
     | false => exact absurd ⟨j, List.mem_range.1 hj, hg⟩ hn
    omega
   have least : ∀ n j, j < n → j < ops.size → got.getD j true = false → ∃ m, m < ops.size ∧ got.getD m true = false ∧ ∀ x, x < m → got.getD x true = true := by
    intro n
    induction n with
    | zero => intro j h; omega
    | succ n ih =>
     intro j hj hjs hg
     by_cases h : ∃ x, x < j ∧ got.getD x true = false
     ·obtain ⟨x, hx, hgx⟩ := h
      exact ih x (by omega) (by omega) hgx
     ·refine ⟨j, hjs, hg, fun x hx => ?_⟩
      cases hgx : got.getD x true with
      | true => rfl
      | false => exact absurd ⟨x, hx, hgx⟩ h
   obtain ⟨j, hj, hg⟩ := hne
   obtain ⟨m, hm, hgm, hbelow⟩ := least (j + 1) j (by omega) hj hg
   have hom : ops[m]? = some ops[m] := Array.getElem?_eq_getElem hm
   have : m ∈ Region.ready md ops got := mem_ready.2 ⟨hgm, _, hom, fun e he hb => by
    have h1 := hlow m _ hom e he hb
    have h2 := hbelow _ h1
    have h3 : e.on < got.size := by rw [hz]; omega
    simpa [h3] using h2⟩
   rw [hr] at this
   cases this
  ·obtain ⟨hun, o, ho, hall⟩ := mem_ready.1 hi
   have his : i < ops.size := (Array.getElem?_eq_some_iff.1 ho).1
   have done : ∀ m, got.getD m false = true → got.getD m true = true := fun m h => by
    cases h2 : got.getD m true with
    | true => rfl
    | false => rw [getD_both h2] at h; cases h
   have he : execOp a.eval o = execOp A.eval o := exec_slot (ops := ops) (hsel i o · · ho) fun t ht => hag.2.2 t fun m o' ho' hd => by
    obtain ⟨e, he, hb, hon⟩ := hwr i m o o' t ho ho' ht hd
    exact done m (hon ▸ hall e he hb)
   have hp' : pend ops (got.setIfInBounds i true) = f := by have := pend_set (ops := ops) his hz hun; omega
   have hz' : (got.setIfInBounds i true).size = ops.size := by simp [hz]
   cases hd : o.dst with
   | some d =>
    obtain ⟨v, hv, hqa⟩ := hq i o d s ho hd
    have hy : YieldsIn P ops (C s) o v a := .inl ⟨wanted_free a (hgd i o ho), fun u hu => by
     have := hqa u hu
     unfold Oper.quietAt at this ⊢
     rw [he]
     exact this⟩
    refine wpOp_of_qOp (C := C s) (K := fun a' => a' = a.put o.dst v) hu (fun a' w' hw' e => ?_) (YieldsIn.qOp ho hy rfl)
    subst e
    refine any_stores ts hsel hgd hlow hwr hone htd hti htw hq hst hQ f _ _ s _ hw' hz' hp' (fun k j hk => ?_) hsl ⟨(put_size ..).trans hag.1, (defers_put ..).trans hag.2.1, fun t ht => ?_⟩
    ·have hji : i ≠ j := fun e => by
      obtain ⟨o2, ho2, hd2⟩ := htd k j hk
      rw [← e, ho] at ho2
      cases ho2
      rw [hd] at hd2
      cases hd2
     rw [getD_set_ne true hji]
     exact hts k j hk
    ·rw [hd]
     by_cases e : d = t
     ·subst e
      have hlt : d < a.tmps.size := by
       rw [hag.1]
       exact (Array.getElem?_eq_some_iff.1 hv).1
      rw [put_get a d v hlt, hv]
     ·rw [put_other a d t v e]
      refine hag.2.2 t fun m o' ho' hd' => ?_
      have hmi : i ≠ m := fun h => by
       rw [← h, ho] at ho'
       cases ho'
       rw [hd] at hd'
       exact e (Option.some.inj hd')
      have := ht m o' ho' hd'
      rwa [getD_set_ne true hmi] at this
   | none =>
    obtain ⟨k, hk⟩ := hti i o ho hd
    have hks : k = s := by
     have h1 : ¬ k < s := fun h => by
      have := (hts k i hk).2 h
      rw [hun] at this
      cases this
     rcases Nat.eq_zero_or_pos k with h0 | h0
     ·omega
     ·obtain ⟨k', rfl⟩ : ∃ k', k = k' + 1 := ⟨k - 1, by omega⟩
      have hk' : ∃ m, ts[k']? = some m := by
       have hlt : k' + 1 < ts.length := (List.getElem?_eq_some_iff.1 hk).1
       exact ⟨_, List.getElem?_eq_getElem (by omega)⟩
      obtain ⟨m, hm⟩ := hk'
      obtain ⟨e, he', hb, hon⟩ := htw k' i m o hk hm ho
      have := (hts k' m hm).1 (done m (hon ▸ hall e he' hb))
      omega
    subst hks
    have hlt : k < ts.length := (List.getElem?_eq_some_iff.1 hk).1
    have IH : ∀ u', C (k + 1) u' → wpAny P md ops Q f (got.setIfInBounds i true) a u' := fun u' hu' => by
     refine any_stores ts hsel hgd hlow hwr hone htd hti htw hq hst hQ f _ _ (k + 1) u' hu' hz' hp' (fun k2 j hk2 => ?_) hlt ⟨hag.1, hag.2.1, fun t ht => hag.2.2 t fun m o' ho' hd' => ?_⟩
     ·by_cases e : i = j
      ·subst e
       have h1 : (got.setIfInBounds i true).getD i true = true := by simp [hz, his]
       have h2 : ¬ k2 < k := fun h => by
        have := (hts k2 i hk2).2 h
        rw [hun] at this
        cases this
       refine ⟨fun _ => ?_, fun _ => h1⟩
       rcases Nat.lt_or_ge k k2 with h3 | h3
       ·obtain ⟨k3, rfl⟩ : ∃ k3, k2 = k3 + 1 := ⟨k2 - 1, by omega⟩
        obtain ⟨m, hm⟩ : ∃ m, ts[k3]? = some m := by
         have hlt2 : k3 + 1 < ts.length := (List.getElem?_eq_some_iff.1 hk2).1
         exact ⟨_, List.getElem?_eq_getElem (by omega)⟩
        obtain ⟨e, he', hb, hon⟩ := htw k3 i m o hk2 hm ho
        have := (hts k3 m hm).1 (done m (hon ▸ hall e he' hb))
        omega
       ·omega
      ·rw [getD_set_ne true e, hts k2 j hk2]
       refine ⟨fun h => by omega, fun h => ?_⟩
       rcases Nat.lt_or_ge k2 k with h2 | h2
       ·exact h2
       ·have : k2 = k := by omega
        subst this
        rw [hk] at hk2
        exact absurd (Option.some.inj hk2) e
     ·have hmi : i ≠ m := fun h => by
       rw [← h, ho] at ho'
       cases ho'
       rw [hd] at hd'
       cases hd'
      have := ht m o' ho' hd'
      rwa [getD_set_ne true hmi] at this
    unfold wpOp
    simp only [ho]
    rw [if_pos (wanted_free a (hgd i o ho))]
    left
    unfold Oper.wp
    rw [he]
    obtain ⟨u', hC', hx⟩ := hst k i o hk ho u hu
    rcases hx with ⟨x, hx⟩ | hx
    ·rw [hx, Oper.upon_value, hd]
     exact IH u' hC'
    ·rw [hx]
     show wpAny P md ops Q f _ (a.put o.dst undef) _
     rw [hd]
     exact IH u' hC'
def storesB (md : Region.Mode) (ops : Array Oper) (ts : List Nat) : Bool :=
 Region.noSelect ops && ops.all (fun o => o.guard.isNone) &&
 (List.range ops.size).all (fun j => match ops[j]? with | some o => o.after.all fun e => !Region.binds md e || decide (e.on < j) | none => true) &&
 (List.range ops.size).all (fun j => (List.range ops.size).all fun m => match ops[j]?, ops[m]? with
  | some o, some o' => (match o'.dst with | some t => !(o.looksAt ops).contains t || o.after.any (fun e => Region.binds md e && e.on == m) | none => true) && (match o.dst with | some t => o'.dst != some t || j == m | none => true)
  | _, _ => true) &&
 ts.all (fun j => match ops[j]? with | some o => o.dst.isNone | none => false) &&
 (List.range ops.size).all (fun j => match ops[j]? with | some o => o.dst.isSome || ts.contains j | none => true) &&
 (List.range ts.length).all (fun k => match ts[k + 1]?, ts[k]? with | some j, some i => (match ops[j]? with | some o => o.after.any (fun e => Region.binds md e && e.on == i) | none => true) | _, _ => true)
def StAt (P : Program) (A : Act) (C : Nat → World → Prop) (k : Nat) : Option Oper → Prop
 | some o => ∀ u, C k u → ∃ u', C (k + 1) u' ∧ ((∃ x, (execOp A.eval o).run P u = .ok (.value x) u') ∨ (execOp A.eval o).run P u = .ok .skip u')
 | none => False
def Sts (P : Program) (A : Act) (C : Nat → World → Prop) (ops : Array Oper) : Nat → List Nat → Prop
 | _, [] => True
 | k, j :: ts => StAt P A C k ops[j]? ∧ Sts P A C ops (k + 1) ts
theorem Sts.at_ : ∀ (ts : List Nat) (k : Nat), Sts P A C ops k ts → ∀ (m : Nat) j, ts[m]? = some j → StAt P A C (k + m) ops[j]?
 | [], k, h, m, j, hm => by simp at hm
 | x :: ts, k, h, 0, j, hm => by
  simp at hm
  subst hm
  exact h.1
 | x :: ts, k, h, m + 1, j, hm => by
  have := Sts.at_ ts (k + 1) h.2 m j (by simpa using hm)
  rwa [show k + (m + 1) = k + 1 + m by omega]
theorem reg_stores {id : Nat} {a : Act} {w : World} {l : List Oper} (C : Nat → World → Prop) (ts : List Nat) (N : Nat) (hm : P.follows .mixedOrders = true) (hU0 : C 0 { w with drawn := w.drawn + 1 })
  (hB : storesB .any l.toArray ts = true) (hN : a.tmps.size = N) (hD : dstB N (l.filter fun o => o.dst.isSome) = true) (hL : laterB l.toArray (l.filter fun o => o.dst.isSome) = true)
  (h : ∃ A : Act, (∀ s (T : Type) (_ : Nonempty T) (f : T → World), (∀ u, C s u ↔ ∃ x, u = f x) → wpQuiet P l.toArray (fun w' => ∃ x, w' = f x) (fun a' => a' = A) (l.filter fun o => o.dst.isSome) a) ∧ Sts P A C l.toArray 0 ts ∧ ∀ u, C ts.length u → Q .normal A u) : (Code.region id l.toArray true).wp P Q a w := by
 obtain ⟨A, h1, h2, h3⟩ := h
 refine wp_region_any hm ?_
 simp only [storesB, Bool.and_eq_true, Array.all_eq_true_iff_forall_mem, List.all_eq_true] at hB
 obtain ⟨⟨⟨⟨⟨⟨b1, b2⟩, b3⟩, b4⟩, b5⟩, b6⟩, b7⟩ := hB
 have rng : ∀ (j : Nat) o, l.toArray[j]? = some o → j ∈ List.range l.toArray.size := fun j o ho => List.mem_range.2 (Array.getElem?_eq_some_iff.1 ho).1
 have hsel := Region.noSelect_spec b1
 have hgd : ∀ (j : Nat) o, l.toArray[j]? = some o → o.guard = none := fun j o ho => by
  have := b2 o (Array.mem_of_getElem? ho)
  simpa using this
 have hlow : ∀ (j : Nat) o, l.toArray[j]? = some o → ∀ e ∈ o.after, Region.binds .any e = true → e.on < j := fun j o ho e he hb => by
  have := b3 j (rng j o ho)
  rw [ho] at this
  simp only [Array.all_eq_true_iff_forall_mem] at this
  have := this e he
  rw [hb] at this
  simpa using this
 have anyE : ∀ (o : Oper) (m : Nat), o.after.any (fun e => Region.binds .any e && e.on == m) = true → ∃ e ∈ o.after, Region.binds .any e = true ∧ e.on = m := fun o m h => by
  rw [Array.any_eq_true] at h
  obtain ⟨i, hi, hh⟩ := h
  simp only [Bool.and_eq_true, beq_iff_eq] at hh
  exact ⟨o.after[i], Array.getElem_mem hi, hh⟩
 have hwr : ∀ (j m : Nat) o o' t, l.toArray[j]? = some o → l.toArray[m]? = some o' → t ∈ o.looksAt l.toArray → o'.dst = some t → ∃ e ∈ o.after, Region.binds .any e = true ∧ e.on = m := fun j m o o' t ho ho' ht hd => by
  have := b4 j (rng j o ho) m (rng m o' ho')
  rw [ho, ho'] at this
  simp only [Bool.and_eq_true] at this
  have := this.1
  rw [hd] at this
  simp only [Bool.or_eq_true, Bool.not_eq_true'] at this
  rcases this with h | h
  ·have h2 : (o.looksAt l.toArray).contains t = true := by simpa using ht
   rw [h2] at h; cases h
  ·exact anyE o m h
 have hone : ∀ (j m : Nat) o o' t, l.toArray[j]? = some o → l.toArray[m]? = some o' → o.dst = some t → o'.dst = some t → j = m := fun j m o o' t ho ho' hd hd' => by
  have := b4 j (rng j o ho) m (rng m o' ho')
  rw [ho, ho'] at this
  simp only [Bool.and_eq_true] at this
  have := this.2
  rw [hd, hd'] at this
  simpa using this
 have htd : ∀ (k : Nat) j, ts[k]? = some j → ∃ o, l.toArray[j]? = some o ∧ o.dst = none := fun k j hk => by
  have := b5 j (List.mem_of_getElem? hk)
  cases ho : l.toArray[j]? with
  | none => rw [ho] at this; cases this
  | some o => rw [ho] at this; exact ⟨o, rfl, by simpa using this⟩
 have hti : ∀ (j : Nat) o, l.toArray[j]? = some o → o.dst = none → ∃ k : Nat, ts[k]? = some j := fun j o ho hd => by
  have := b6 j (rng j o ho)
  rw [ho] at this
  simp only [hd, Option.isSome_none, Bool.false_or] at this
  exact List.mem_iff_getElem?.1 (by simpa using this)
 have htw : ∀ (k : Nat) j i o, ts[k + 1]? = some j → ts[k]? = some i → l.toArray[j]? = some o → ∃ e ∈ o.after, Region.binds .any e = true ∧ e.on = i := fun k j i o hk hk' ho => by
  have := b7 k (List.mem_range.2 (List.getElem?_eq_some_iff.1 hk').1)
  rw [hk, hk'] at this
  simp only [ho] at this
  exact anyE o i this
 have hsz : A.defers = a.defers ∧ A.tmps.size = a.tmps.size := quiet_defers _ _ (h1 0 {u // C 0 u} ⟨⟨_, hU0⟩⟩ Subtype.val (fun u => ⟨fun h => ⟨⟨u, h⟩, rfl⟩, fun ⟨x, e⟩ => e ▸ x.2⟩))
 have hq : ∀ (j : Nat) o d s, l.toArray[j]? = some o → o.dst = some d → ∃ v, A.tmps[d]? = some v ∧ ∀ u, C s u → o.quietAt P A (C s) u v := fun j o d s ho hd => by
  have hm' : o ∈ l.filter fun o => o.dst.isSome := List.mem_filter.2 ⟨by have := Array.mem_of_getElem? ho; simpa using this, by simp [hd]⟩
  by_cases hne : Nonempty {u // C s u}
  case neg =>
   have h := h1 0 {u // C 0 u} ⟨⟨_, hU0⟩⟩ Subtype.val (fun u => ⟨fun h => ⟨⟨u, h⟩, rfl⟩, fun ⟨x, e⟩ => e ▸ x.2⟩)
   obtain ⟨v, d', hd', hv, _⟩ := quiet_at hsel _ a h hN hD hL (fun o' ho' => by
    obtain ⟨i, hi⟩ := List.mem_iff_getElem?.1 (List.mem_filter.1 ho').1
    have hi' : l.toArray[i]? = some o' := by simpa using hi
    exact ⟨hgd i o' hi', i, hi'⟩) o hm'
   rw [hd] at hd'
   cases hd'
   exact ⟨v, hv, fun u hu => absurd ⟨⟨u, hu⟩⟩ hne⟩
  have hC : (fun w' => ∃ x : {u // C s u}, w' = x.1) = C s := by
   funext u
   exact propext ⟨fun ⟨x, e⟩ => e ▸ x.2, fun h => ⟨⟨u, h⟩, rfl⟩⟩
  have h := h1 s {u // C s u} hne Subtype.val (fun u => ⟨fun h => ⟨⟨u, h⟩, rfl⟩, fun ⟨x, e⟩ => e ▸ x.2⟩)
  rw [hC] at h
  obtain ⟨v, d', hd', hv, hqa⟩ := quiet_at hsel _ a h hN hD hL (fun o' ho' => by
   obtain ⟨i, hi⟩ := List.mem_iff_getElem?.1 (List.mem_filter.1 ho').1
   have hi' : l.toArray[i]? = some o' := by simpa using hi
   exact ⟨hgd i o' hi', i, hi'⟩) o hm'
  rw [hd] at hd'
  cases hd'
  exact ⟨v, hv, hqa⟩
 have hst : ∀ (k : Nat) j o, ts[k]? = some j → l.toArray[j]? = some o → ∀ u, C k u → ∃ u', C (k + 1) u' ∧ ((∃ x, (execOp A.eval o).run P u = .ok (.value x) u') ∨ (execOp A.eval o).run P u = .ok .skip u') := fun k j o hk ho => by
  have := Sts.at_ ts 0 h2 k j hk
  rw [ho, Nat.zero_add] at this
  exact this
 have hp0 : pend l.toArray (Array.replicate l.toArray.size false) = l.toArray.size := by
  unfold pend
  rw [List.filter_eq_self.2 fun j hj => ?_, List.length_range]
  have hj' := List.mem_range.1 hj
  have : (Array.replicate l.toArray.size false).getD j true = false := getD_in (by simpa using hj') (getD_replicate_false _ _)
  rw [this]; rfl
 refine any_stores ts hsel hgd hlow hwr hone htd hti htw hq hst h3 l.toArray.size (Array.replicate l.toArray.size false) a 0 _ hU0 (by simp) hp0 (fun k j hk => ⟨fun hg => ?_, fun h => by omega⟩) (Nat.zero_le _) ⟨hsz.2.symm, hsz.1.symm, fun t ht => ?_⟩
 ·obtain ⟨o, ho, _⟩ := htd k j hk
  have hj' := (Array.getElem?_eq_some_iff.1 ho).1
  have : (Array.replicate l.toArray.size false).getD j true = false := getD_in (by simpa using hj') (getD_replicate_false _ _)
  rw [this] at hg
  cases hg
 ·refine (last_slot _ a (h1 0 {u // C 0 u} ⟨⟨_, hU0⟩⟩ Subtype.val (fun u => ⟨fun h => ⟨⟨u, h⟩, rfl⟩, fun ⟨x, e⟩ => e ▸ x.2⟩)) fun o ho hd => ?_).symm
  obtain ⟨i, hi⟩ := List.mem_iff_getElem?.1 (List.mem_filter.1 ho).1
  have hi' : l.toArray[i]? = some o := by simpa using hi
  have hj' := (Array.getElem?_eq_some_iff.1 hi').1
  have h5 := ht i o hi' hd
  have : (Array.replicate l.toArray.size false).getD i true = false := getD_in (by simpa using hj') (getD_replicate_false _ _)
  rw [this] at h5
  cases h5
end
end Go.Proofs.YtgdcphmmehedoaaGreat.Fx.RC
/- Regions that draw their order and hold several chains of steps: quiet operations, and steps (calls, makings, stores) that go on along their chains in whatever order the edges allow. -/
namespace Go.Proofs.YtgdcphmmehedoaaGreat.Fx.RF
open Go.ChangeShapes Go.WideShapes Go.ChangeAt Go.RowKit RC
set_option linter.unusedVariables false
abbrev Cnt := Nat → Nat
abbrev Lts := Nat → Value
def upd {α : Type} (G : Nat → α) (i : Nat) (x : α) : Nat → α := fun j => if j = i then x else G j
theorem upd_same {α : Type} (G : Nat → α) (i : Nat) (x : α) : upd G i x i = x := by unfold upd; rw [if_pos rfl]
theorem upd_else {α : Type} (G : Nat → α) {i j : Nat} (x : α) (h : j ≠ i) : upd G i x j = G j := by unfold upd; rw [if_neg h]
def AG (A : Act) : List (Nat × Tmp) → Lts → Act
 | [], _ => A
 | p :: l, G => AG (A.put (some p.2) (G p.1)) l G
theorem AG_size (G : Lts) : ∀ (ls : List (Nat × Tmp)) (A : Act), (AG A ls G).tmps.size = A.tmps.size
 | [], _ => rfl
 | p :: l, A => (AG_size G l _).trans (put_size A (some p.2) _)
theorem AG_defers (G : Lts) : ∀ (ls : List (Nat × Tmp)) (A : Act), (AG A ls G).defers = A.defers
 | [], _ => rfl
 | p :: l, A => (AG_defers G l _).trans (defers_put A (some p.2) _)
theorem AG_else (G : Lts) : ∀ (ls : List (Nat × Tmp)) (A : Act) (t : Tmp), (∀ p ∈ ls, p.2 ≠ t) → (AG A ls G).tmps[t]? = A.tmps[t]?
 | [], _, _, _ => rfl
 | p :: l, A, t, h => by
  show (AG (A.put (some p.2) (G p.1)) l G).tmps[t]? = _
  rw [AG_else G l _ t (fun q hq => h q (List.mem_cons_of_mem _ hq)), put_other A p.2 t _ (h p (List.mem_cons_self ..))]
theorem AG_at (G : Lts) : ∀ (ls : List (Nat × Tmp)) (A : Act) (j : Nat) (t : Tmp), (j, t) ∈ ls → t < A.tmps.size → (∀ p ∈ ls, ∀ q ∈ ls, p.2 = q.2 → p.1 = q.1) → (AG A ls G).tmps[t]? = some (G j)
 | [], _, _, _, h, _, _ => by cases h
 | p :: l, A, j, t, h, ht, hu => by
  show (AG (A.put (some p.2) (G p.1)) l G).tmps[t]? = _
  by_cases h2 : ∃ q ∈ l, q.2 = t
  ·obtain ⟨q, hq, e⟩ := h2
   have e1 : q.1 = j := hu q (List.mem_cons_of_mem _ hq) (j, t) h e
   have hq' : (j, t) ∈ l := by rw [← e1, ← e]; exact hq
   exact AG_at G l _ j t hq' (by rw [put_size]; exact ht) fun a ha b hb => hu a (List.mem_cons_of_mem _ ha) b (List.mem_cons_of_mem _ hb)
  ·rw [AG_else G l _ t fun q hq e => h2 ⟨q, hq, e⟩]
   rcases List.mem_cons.1 h with e | h
   ·rw [← e]; exact put_get A t _ ht
   ·exact absurd ⟨(j, t), h, rfl⟩ h2
def lettered (ls : List (Nat × Tmp)) (j : Nat) : Bool := ls.any fun p => p.1 == j
def updI (b : Bool) (G : Lts) (j : Nat) (x : Value) : Lts := if b then upd G j x else G
def opAt (chs : List (List Nat)) (c k : Nat) : Option Nat := (chs.getD c [])[k]?
def full (chs : List (List Nat)) : Cnt := fun c => (chs.getD c []).length
def waits (md : Region.Mode) (o : Oper) (m : Nat) : Bool := o.after.any fun e => Region.binds md e && e.on == m
theorem waits_spec {md : Region.Mode} {o : Oper} {m : Nat} (h : waits md o m = true) : ∃ e ∈ o.after, Region.binds md e = true ∧ e.on = m := by
 unfold waits at h
 rw [Array.any_eq_true] at h
 obtain ⟨i, hi, hh⟩ := h
 simp only [Bool.and_eq_true, beq_iff_eq] at hh
 exact ⟨o.after[i], Array.getElem_mem hi, hh⟩
section
variable {P : Program} {ops : Array Oper} {md : Region.Mode} {Q : Exit → Act → World → Prop} {A : Act} {C : Cnt → Lts → World → Prop} {chs : List (List Nat)} {ls : List (Nat × Tmp)}
def Ag (ops : Array Oper) (A : Act) (ls : List (Nat × Tmp)) (G : Lts) (got : Array Bool) (a : Act) : Prop :=
 a.tmps.size = A.tmps.size ∧ a.defers = A.defers ∧ ∀ t, (∀ (j : Nat) o, ops[j]? = some o → o.dst = some t → got.getD j true = true) → a.tmps[t]? = (AG A ls G).tmps[t]?
def Done (A : Act) (C : Cnt → Lts → World → Prop) (ls : List (Nat × Tmp)) (s : Cnt) (G : Lts) (c k j : Nat) (o : Oper) (x : Value) (u : World) : Prop :=
 C (upd s c (k + 1)) (updI (lettered ls j) G j x) u ∧ (lettered ls j = true ∨ ∀ d, o.dst = some d → A.tmps[d]? = some x)
def StepTo (P : Program) (A : Act) (C : Cnt → Lts → World → Prop) (ls : List (Nat × Tmp)) (s : Cnt) (G : Lts) (c k j : Nat) (o : Oper) : Result Next → Prop
 | .ok (.value x) u => Done A C ls s G c k j o x u
 | .ok .skip u => o.dst = none ∧ C (upd s c (k + 1)) (updI (lettered ls j) G j undef) u
 | .ok (.enter f args) u => Calls P f args u fun z u' => ∃ x, z = .returned x ∧ Done A C ls s G c k j o x u'
 | _ => False
def StepAt (P : Program) (md : Region.Mode) (A : Act) (C : Cnt → Lts → World → Prop) (chs : List (List Nat)) (ls : List (Nat × Tmp)) (c k j : Nat) (o : Oper) : Prop :=
 ∀ s G u, C s G u → s c = k → (∀ c' k' m, opAt chs c' k' = some m → waits md o m = true → k' < s c') → StepTo P A C ls s G c k j o ((execOp (AG A ls G).eval o).run P u)
theorem any_flow (hsel : ∀ (j : Nat) (o : Oper) cs b, ops[j]? = some o → o.op ≠ .select cs b) (hgd : ∀ (j : Nat) o, ops[j]? = some o → o.guard = none)
  (hlow : ∀ (j : Nat) o, ops[j]? = some o → ∀ e ∈ o.after, Region.binds md e = true → e.on < j)
  (hwr : ∀ (j m : Nat) o o' t, ops[j]? = some o → ops[m]? = some o' → t ∈ o.looksAt ops → o'.dst = some t → ∃ e ∈ o.after, Region.binds md e = true ∧ e.on = m)
  (hone : ∀ (j m : Nat) o o' t, ops[j]? = some o → ops[m]? = some o' → o.dst = some t → o'.dst = some t → j = m)
  (hls : ∀ p ∈ ls, ∃ o, ops[p.1]? = some o ∧ o.dst = some p.2 ∧ p.2 < A.tmps.size ∧ ∃ c k, opAt chs c k = some p.1)
  (hql : ∀ (j : Nat) o t, ops[j]? = some o → (∀ c k, opAt chs c k ≠ some j) → t ∈ o.looksAt ops → ∀ p ∈ ls, p.2 ≠ t)
  (hqd : ∀ (j : Nat) o, ops[j]? = some o → (∀ c k, opAt chs c k ≠ some j) → o.dst ≠ none)
  (huq : ∀ c k c' k' j, opAt chs c k = some j → opAt chs c' k' = some j → c = c' ∧ k = k')
  (htd : ∀ c k j, opAt chs c k = some j → ∃ o, ops[j]? = some o)
  (htw : ∀ c k j i o, opAt chs c (k + 1) = some j → opAt chs c k = some i → ops[j]? = some o → ∃ e ∈ o.after, Region.binds md e = true ∧ e.on = i)
  (hq : ∀ (j : Nat) o d s G, ops[j]? = some o → (∀ c k, opAt chs c k ≠ some j) → o.dst = some d → ∃ v, A.tmps[d]? = some v ∧ ∀ u, C s G u → o.quietAt P A (C s G) u v)
  (hst : ∀ c k j o, opAt chs c k = some j → ops[j]? = some o → StepAt P md A C chs ls c k j o)
  (hQ : ∀ G u, C (full chs) G u → Q .normal (AG A ls G) u) :
  ∀ (f : Nat) (got : Array Bool) (a : Act) (s : Cnt) (G : Lts) (u : World), C s G u → got.size = ops.size → pend ops got = f → (∀ c k j, opAt chs c k = some j → (got.getD j true = true ↔ k < s c)) → (∀ c, s c ≤ full chs c) → Ag ops A ls G got a → wpAny P md ops Q f got a u
 | 0, got, a, s, G, u, hu, hz, hp, hts, hsl, hag => by
  have all : ∀ j, j < ops.size → got.getD j true = true := fun j hj => pend_zero hp hj
  have hs : s = full chs := by
   funext c
   rcases Nat.lt_or_ge (s c) (full chs c) with h | h
   ·have hk : opAt chs c (s c) = some (chs.getD c [])[s c] := List.getElem?_eq_getElem h
    obtain ⟨o, ho⟩ := htd c _ _ hk
    have := (hts c _ _ hk).1 (all _ (Array.getElem?_eq_some_iff.1 ho).1)
    omega
   ·have := hsl c; omega
  have ea : a = AG A ls G := by
   obtain ⟨h1, h2, h3⟩ := hag
   have h4 := AG_size G ls A
   have h5 := AG_defers G ls A
   generalize AG A ls G = B at *
   cases a; cases B
   simp only [] at h1 h2 h3 h4 h5
   subst h2
   subst h5
   congr 1
   refine Array.ext_getElem? fun t => h3 t fun j o ho _ => all j (Array.getElem?_eq_some_iff.1 ho).1
  refine ⟨?_, by rw [ea]; exact hQ G _ (hs ▸ hu)⟩
  refine List.eq_nil_iff_forall_not_mem.2 fun j hj => ?_
  obtain ⟨h1, o, ho, _⟩ := mem_ready.1 hj
  rw [all j (Array.getElem?_eq_some_iff.1 ho).1] at h1
  cases h1
 | f + 1, got, a, s, G, u, hu, hz, hp, hts, hsl, hag => by
  refine ⟨fun hr => ?_, fun i hi => ?_⟩
  ·exfalso
   have hne : ∃ j, j < ops.size ∧ got.getD j true = false := by
    refine Classical.byContradiction fun hn => ?_
    have : pend ops got = 0 := by
     unfold pend
     rw [List.length_eq_zero_iff, List.filter_eq_nil_iff]
     intro j hj
     cases hg : got.getD j true with
     | true => simp
     | false => exact absurd ⟨j, List.mem_range.1 hj, hg⟩ hn
    omega
   have least : ∀ n j, j < n → j < ops.size → got.getD j true = false → ∃ m, m < ops.size ∧ got.getD m true = false ∧ ∀ x, x < m → got.getD x true = true := by
    intro n
    induction n with
    | zero => intro j h; omega
    | succ n ih =>
     intro j hj hjs hg
     by_cases h : ∃ x, x < j ∧ got.getD x true = false
     ·obtain ⟨x, hx, hgx⟩ := h
      exact ih x (by omega) (by omega) hgx
     ·refine ⟨j, hjs, hg, fun x hx => ?_⟩
      cases hgx : got.getD x true with
      | true => rfl
      | false => exact absurd ⟨x, hx, hgx⟩ h
   obtain ⟨j, hj, hg⟩ := hne
   obtain ⟨m, hm, hgm, hbelow⟩ := least (j + 1) j (by omega) hj hg
   have hom : ops[m]? = some ops[m] := Array.getElem?_eq_getElem hm
   have : m ∈ Region.ready md ops got := mem_ready.2 ⟨hgm, _, hom, fun e he hb => by
    have h1 := hlow m _ hom e he hb
    have h2 := hbelow _ h1
    have h3 : e.on < got.size := by rw [hz]; omega
    simpa [h3] using h2⟩
   rw [hr] at this
   cases this
  ·obtain ⟨hun, o, ho, hall⟩ := mem_ready.1 hi
   have his : i < ops.size := (Array.getElem?_eq_some_iff.1 ho).1
   have done : ∀ m, got.getD m false = true → got.getD m true = true := fun m h => by
    cases h2 : got.getD m true with
    | true => rfl
    | false => rw [getD_both h2] at h; cases h
   have he : execOp a.eval o = execOp (AG A ls G).eval o := exec_slot (ops := ops) (hsel i o · · ho) fun t ht => hag.2.2 t fun m o' ho' hd => by
    obtain ⟨e, he, hb, hon⟩ := hwr i m o o' t ho ho' ht hd
    exact done m (hon ▸ hall e he hb)
   have hp' : pend ops (got.setIfInBounds i true) = f := by have := pend_set (ops := ops) his hz hun; omega
   have hz' : (got.setIfInBounds i true).size = ops.size := by simp [hz]
   have hwt : ∀ m, waits md o m = true → got.getD m true = true := fun m h => by
    obtain ⟨e, he', hb, hon⟩ := waits_spec h
    exact done m (hon ▸ hall e he' hb)
   by_cases hch : ∃ c k, opAt chs c k = some i
   ·obtain ⟨c, k, hk⟩ := hch
    have hks : s c = k := by
     have h1 : ¬ k < s c := fun h => by
      have := (hts c k i hk).2 h
      rw [hun] at this
      cases this
     rcases Nat.eq_zero_or_pos k with h0 | h0
     ·omega
     ·obtain ⟨k', rfl⟩ : ∃ k', k = k' + 1 := ⟨k - 1, by omega⟩
      have hk' : ∃ m, opAt chs c k' = some m := by
       have hlt : k' + 1 < (chs.getD c []).length := (List.getElem?_eq_some_iff.1 hk).1
       exact ⟨_, List.getElem?_eq_getElem (by omega)⟩
      obtain ⟨m, hm⟩ := hk'
      obtain ⟨e, he', hb, hon⟩ := htw c k' i m o hk hm ho
      have := (hts c k' m hm).1 (done m (hon ▸ hall e he' hb))
      omega
    have hlt : k < full chs c := (List.getElem?_eq_some_iff.1 hk).1
    -- what comes behind the step
    have IH : ∀ x u', C (upd s c (k + 1)) (updI (lettered ls i) G i x) u' → (lettered ls i = true ∨ ∀ d, o.dst = some d → A.tmps[d]? = some x) → wpAny P md ops Q f (got.setIfInBounds i true) (a.put o.dst x) u' := fun x u' hu' hx => by
     refine any_flow hsel hgd hlow hwr hone hls hql hqd huq htd htw hq hst hQ f _ _ (upd s c (k + 1)) (updI (lettered ls i) G i x) u' hu' hz' hp' (fun c2 k2 j hk2 => ?_) (fun c2 => ?_) ⟨(put_size ..).trans hag.1, (defers_put ..).trans hag.2.1, fun t ht => ?_⟩
     ·by_cases e : i = j
      ·subst e
       obtain ⟨rfl, rfl⟩ := huq c k c2 k2 i hk hk2
       have h1 : (got.setIfInBounds i true).getD i true = true := by simp [hz, his]
       rw [upd_same]
       exact ⟨fun _ => by omega, fun _ => h1⟩
      ·rw [getD_set_ne true e, hts c2 k2 j hk2]
       by_cases ec : c2 = c
       ·subst ec
        rw [upd_same]
        refine ⟨fun h => by omega, fun h => ?_⟩
        rcases Nat.lt_or_ge k2 k with h2 | h2
        ·omega
        ·have : k2 = k := by omega
         subst this
         rw [hk] at hk2
         exact absurd (Option.some.inj hk2) e
       ·rw [upd_else _ _ ec]
     ·by_cases ec : c2 = c
      ·subst ec; rw [upd_same]; omega
      ·rw [upd_else _ _ ec]; exact hsl c2
     ·by_cases hd : o.dst = some t
      ·rw [hd]
       rcases hx with hx | hx
       ·-- its letter
        unfold lettered at hx
        rw [List.any_eq_true] at hx
        obtain ⟨p, hp, he2⟩ := hx
        have he2 : p.1 = i := by simpa using he2
        obtain ⟨o2, ho2, hd2, hs2, _⟩ := hls p hp
        rw [he2, ho] at ho2
        cases ho2
        rw [hd] at hd2
        have e3 : p = (i, t) := Prod.ext he2 (Option.some.inj hd2).symm
        have hl : lettered ls i = true := List.any_eq_true.2 ⟨p, hp, by simpa using he2⟩
        rw [put_get a t x (by rw [hag.1, Option.some.inj hd2]; exact hs2), AG_at _ ls A i t (e3 ▸ hp) (by rw [Option.some.inj hd2]; exact hs2) (fun p' hp' q' hq' e => by
         obtain ⟨o3, ho3, hd3, _⟩ := hls p' hp'
         obtain ⟨o4, ho4, hd4, _⟩ := hls q' hq'
         exact hone p'.1 q'.1 o3 o4 p'.2 ho3 ho4 hd3 (by rw [e]; exact hd4))]
        unfold updI
        rw [hl, if_pos rfl, upd_same]
       ·by_cases hl : lettered ls i = true
        ·unfold lettered at hl
         rw [List.any_eq_true] at hl
         obtain ⟨p, hp, he2⟩ := hl
         have he2 : p.1 = i := by simpa using he2
         obtain ⟨o2, ho2, hd2, hs2, _⟩ := hls p hp
         rw [he2, ho] at ho2
         cases ho2
         rw [hd] at hd2
         have e3 : p = (i, t) := Prod.ext he2 (Option.some.inj hd2).symm
         have hl : lettered ls i = true := List.any_eq_true.2 ⟨p, hp, by simpa using he2⟩
         rw [put_get a t x (by rw [hag.1, Option.some.inj hd2]; exact hs2), AG_at _ ls A i t (e3 ▸ hp) (by rw [Option.some.inj hd2]; exact hs2) (fun p' hp' q' hq' e => by
          obtain ⟨o3, ho3, hd3, _⟩ := hls p' hp'
          obtain ⟨o4, ho4, hd4, _⟩ := hls q' hq'
          exact hone p'.1 q'.1 o3 o4 p'.2 ho3 ho4 hd3 (by rw [e]; exact hd4))]
         unfold updI
         rw [hl, if_pos rfl, upd_same]
        ·have hAt := hx t hd
         rw [put_get a t x (by rw [hag.1]; exact (Array.getElem?_eq_some_iff.1 hAt).1), AG_else _ ls A t fun p hp e => ?_, hAt]
         obtain ⟨o2, ho2, hd2, _⟩ := hls p hp
         rw [e] at hd2
         exact hl (List.any_eq_true.2 ⟨p, hp, by simpa using hone p.1 i o2 o t ho2 ho hd2 hd⟩)
      ·have h1 : (a.put o.dst x).tmps[t]? = a.tmps[t]? := by
        cases hd' : o.dst with
        | none => rfl
        | some d => exact put_other a d t x (fun e => hd (by rw [hd', e]))
       have h2 : a.tmps[t]? = (AG A ls G).tmps[t]? := hag.2.2 t fun m o' ho' hd' => by
        have hmi : i ≠ m := fun h => by
         rw [← h, ho] at ho'
         cases ho'
         exact hd hd'
        have := ht m o' ho' hd'
        rwa [getD_set_ne true hmi] at this
       rw [h1, h2]
       -- another letter does not matter
       by_cases hp : ∃ p ∈ ls, p.2 = t
       ·obtain ⟨p, hp, ep⟩ := hp
        obtain ⟨o2, ho2, hd2, hs2, _⟩ := hls p hp
        have uq : ∀ p' ∈ ls, ∀ q' ∈ ls, p'.2 = q'.2 → p'.1 = q'.1 := fun p' hp' q' hq' e => by
         obtain ⟨o3, ho3, hd3, _⟩ := hls p' hp'
         obtain ⟨o4, ho4, hd4, _⟩ := hls q' hq'
         exact hone p'.1 q'.1 o3 o4 p'.2 ho3 ho4 hd3 (by rw [e]; exact hd4)
        have hp2 : (p.1, t) ∈ ls := by rw [← ep]; exact hp
        rw [AG_at G ls A p.1 t hp2 (by rw [← ep]; exact hs2) uq, AG_at _ ls A p.1 t hp2 (by rw [← ep]; exact hs2) uq]
        have hne : p.1 ≠ i := fun e => by
         rw [e, ho] at ho2
         cases ho2
         rw [ep] at hd2
         exact hd hd2
        unfold updI
        split
        ·rw [upd_else _ _ hne]
        ·rfl
       ·rw [AG_else _ ls A t (fun p hp' e => hp ⟨p, hp', e⟩), AG_else _ ls A t (fun p hp' e => hp ⟨p, hp', e⟩)]
    unfold wpOp
    simp only [ho]
    rw [if_pos (wanted_free a (hgd i o ho))]
    left
    unfold Oper.wp
    rw [he]
    have hr := hst c k i o hk ho s G u hu hks fun c' k' m hm hw => (hts c' k' m hm).1 (hwt m hw)
    generalize (execOp (AG A ls G).eval o).run P u = r at hr
    cases r with
    | halt x w' => exact hr.elim
    | ok x w' =>
     cases x with
     | value x =>
      rw [Oper.upon_value]
      exact IH x w' hr.1 hr.2
     | skip =>
      show wpAny P md ops Q f _ (a.put o.dst undef) _
      exact IH undef w' hr.2 (.inr fun d e => by rw [hr.1] at e; cases e)
     | enter fn args =>
      rw [Oper.upon_enter]
      refine Calls.mono hr fun z u'' ⟨x, hz3, hc⟩ => ?_
      subst hz3
      simp only []
      exact IH x u'' hc.1 hc.2
     | _ => exact hr.elim
   ·have hqi : ∀ c k, opAt chs c k ≠ some i := fun c k e => hch ⟨c, k, e⟩
    cases hd : o.dst with
    | none => exact absurd hd (hqd i o ho hqi)
    | some d =>
     obtain ⟨v, hv, hqa⟩ := hq i o d s G ho hqi hd
     have he0 : execOp a.eval o = execOp A.eval o := he.trans (exec_slot (ops := ops) (hsel i o · · ho) fun t ht => AG_else G ls A t (hql i o t ho hqi ht))
     have hy : YieldsIn P ops (C s G) o v a := .inl ⟨wanted_free a (hgd i o ho), fun u hu => by
      have := hqa u hu
      unfold Oper.quietAt at this ⊢
      rw [he0]
      exact this⟩
     refine wpOp_of_qOp (C := C s G) (K := fun a' => a' = a.put o.dst v) hu (fun a' w' hw' e => ?_) (YieldsIn.qOp ho hy rfl)
     subst e
     refine any_flow hsel hgd hlow hwr hone hls hql hqd huq htd htw hq hst hQ f _ _ s G _ hw' hz' hp' (fun c k j hk => ?_) hsl ⟨(put_size ..).trans hag.1, (defers_put ..).trans hag.2.1, fun t ht => ?_⟩
     ·have hji : i ≠ j := fun e => hqi c k (e ▸ hk)
      rw [getD_set_ne true hji]
      exact hts c k j hk
     ·rw [hd]
      by_cases e : d = t
      ·subst e
       have hlt : d < a.tmps.size := by
        rw [hag.1]
        exact (Array.getElem?_eq_some_iff.1 hv).1
       rw [put_get a d v hlt, AG_else G ls A d fun p hp e => ?_, hv]
       obtain ⟨o2, ho2, hd2, _, c, k, hk⟩ := hls p hp
       have : p.1 = i := hone p.1 i o2 o d ho2 ho (e ▸ hd2) hd
       exact hqi c k (this ▸ hk)
      ·rw [put_other a d t v e]
       refine hag.2.2 t fun m o' ho' hd' => ?_
       have hmi : i ≠ m := fun h => by
        rw [← h, ho] at ho'
        cases ho'
        rw [hd] at hd'
        exact e (Option.some.inj hd')
       have := ht m o' ho' hd'
       rwa [getD_set_ne true hmi] at this
def inCh (chs : List (List Nat)) (j : Nat) : Bool := chs.any fun l => l.contains j
theorem inCh_iff (j : Nat) : inCh chs j = true ↔ ∃ c k, opAt chs c k = some j := by
 unfold inCh
 rw [List.any_eq_true]
 constructor
 ·rintro ⟨l, hl, hj⟩
  obtain ⟨c, hc⟩ := List.mem_iff_getElem?.1 hl
  obtain ⟨k, hk⟩ := List.mem_iff_getElem?.1 (show j ∈ l by simpa using hj)
  refine ⟨c, k, ?_⟩
  unfold opAt
  rw [List.getD_eq_getElem?_getD, hc]
  exact hk
 ·rintro ⟨c, k, h⟩
  unfold opAt at h
  rw [List.getD_eq_getElem?_getD] at h
  cases e : chs[c]? with
  | none => rw [e] at h; simp at h
  | some l =>
   rw [e] at h
   exact ⟨l, List.mem_of_getElem? e, by simpa using List.mem_of_getElem? h⟩
theorem opAt_lt {c k j : Nat} (h : opAt chs c k = some j) : c < chs.length ∧ k < (chs.getD c []).length := by
 unfold opAt at h
 refine ⟨?_, (List.getElem?_eq_some_iff.1 h).1⟩
 rcases Nat.lt_or_ge c chs.length with h1 | h1
 ·exact h1
 ·rw [List.getD_eq_getElem?_getD, List.getElem?_eq_none h1] at h
  simp at h
def flowB (md : Region.Mode) (ops : Array Oper) (chs : List (List Nat)) (ls : List (Nat × Tmp)) (qs : List Nat) (fs : List Tmp) (N : Nat) : Bool :=
 Region.noSelect ops && ops.all (fun o => o.guard.isNone) &&
 (List.range ops.size).all (fun j => match ops[j]? with | some o => o.after.all fun e => !Region.binds md e || decide (e.on < j) | none => true) &&
 (List.range ops.size).all (fun j => (List.range ops.size).all fun m => match ops[j]?, ops[m]? with
  | some o, some o' => (match o'.dst with | some t => !(o.looksAt ops).contains t || waits md o m | none => true) && (match o.dst with | some t => o'.dst != some t || j == m | none => true)
  | _, _ => true) &&
 ls.all (fun p => decide (p.2 < N) && inCh chs p.1 && (match ops[p.1]? with | some o => o.dst == some p.2 | none => false)) &&
 (List.range ops.size).all (fun j => inCh chs j || (qs.contains j && (match ops[j]? with | some o => o.dst.isSome && ls.all (fun p => !(o.looksAt ops).contains p.2) | none => true))) &&
 qs.all (fun j => !inCh chs j) &&
 (List.range chs.length).all (fun c => (List.range (chs.getD c []).length).all fun k => (List.range chs.length).all fun c' => (List.range (chs.getD c' []).length).all fun k' => opAt chs c k != opAt chs c' k' || (c == c' && k == k')) &&
 (List.range chs.length).all (fun c => (List.range (chs.getD c []).length).all fun k => match opAt chs c k with | some j => decide (j < ops.size) | none => true) &&
 (List.range chs.length).all (fun c => (List.range (chs.getD c []).length).all fun k => match opAt chs c (k + 1), opAt chs c k with | some j, some i => (match ops[j]? with | some o => waits md o i | none => true) | _, _ => true) &&
 fs.all (fun t => ops.any fun o => o.dst == some t)
def putF (a : Act) : List (Tmp × Value) → Act
 | [] => a
 | p :: l => putF (a.put (some p.1) p.2) l
theorem putF_size : ∀ (l : List (Tmp × Value)) (a : Act), (putF a l).tmps.size = a.tmps.size
 | [], _ => rfl
 | p :: l, a => (putF_size l _).trans (put_size a (some p.1) _)
theorem putF_defers : ∀ (l : List (Tmp × Value)) (a : Act), (putF a l).defers = a.defers
 | [], _ => rfl
 | p :: l, a => (putF_defers l _).trans (defers_put a (some p.1) _)
theorem putF_else : ∀ (l : List (Tmp × Value)) (a : Act) (t : Tmp), (∀ p ∈ l, p.1 ≠ t) → (putF a l).tmps[t]? = a.tmps[t]?
 | [], _, _, _ => rfl
 | p :: l, a, t, h => by
  show (putF (a.put (some p.1) p.2) l).tmps[t]? = _
  rw [putF_else l _ t (fun q hq => h q (List.mem_cons_of_mem _ hq)), put_other a p.1 t _ (h p (List.mem_cons_self ..))]
def StepsC (P : Program) (md : Region.Mode) (A : Act) (C : Cnt → Lts → World → Prop) (ops : Array Oper) (chs : List (List Nat)) (ls : List (Nat × Tmp)) (c : Nat) : Nat → List Nat → Prop
 | _, [] => True
 | k, j :: l => (match ops[j]? with | some o => StepAt P md A C chs ls c k j o | none => False) ∧ StepsC P md A C ops chs ls c (k + 1) l
def StepsA (P : Program) (md : Region.Mode) (A : Act) (C : Cnt → Lts → World → Prop) (ops : Array Oper) (chs : List (List Nat)) (ls : List (Nat × Tmp)) : Nat → List (List Nat) → Prop
 | _, [] => True
 | c, l :: r => StepsC P md A C ops chs ls c 0 l ∧ StepsA P md A C ops chs ls (c + 1) r
theorem StepsC.at_ {c : Nat} : ∀ (l : List Nat) (k : Nat), StepsC P md A C ops chs ls c k l → ∀ (m : Nat) j o, l[m]? = some j → ops[j]? = some o → StepAt P md A C chs ls c (k + m) j o
 | [], k, _, m, j, o, hm, _ => by simp at hm
 | x :: l, k, h, 0, j, o, hm, ho => by
  simp at hm
  subst hm
  have := h.1
  rw [ho] at this
  exact this
 | x :: l, k, h, m + 1, j, o, hm, ho => by
  have := StepsC.at_ l (k + 1) h.2 m j o (by simpa using hm) ho
  rwa [show k + (m + 1) = k + 1 + m by omega]
theorem StepsA.at_ : ∀ (r : List (List Nat)) (c : Nat), StepsA P md A C ops chs ls c r → ∀ (n : Nat) l, r[n]? = some l → StepsC P md A C ops chs ls (c + n) 0 l
 | [], c, _, n, l, hn => by simp at hn
 | x :: r, c, h, 0, l, hn => by
  simp at hn
  subst hn
  exact h.1
 | x :: r, c, h, n + 1, l, hn => by
  have := StepsA.at_ r (c + 1) h.2 n l (by simpa using hn)
  rwa [show c + (n + 1) = c + 1 + n by omega]
theorem reg_flow {id : Nat} {a : Act} {w : World} {l : List Oper} (C : Cnt → Lts → World → Prop) (chs : List (List Nat)) (ls : List (Nat × Tmp)) (qs : List Nat) (fx : List (Tmp × Value)) (N : Nat) (hm : P.follows .mixedOrders = true) (hC0 : C (fun _ => 0) (fun _ => undef) { w with drawn := w.drawn + 1 })
  (hB : flowB .any l.toArray chs ls qs (fx.map Prod.fst) N = true) (hN : a.tmps.size = N) (hD : dstB N (qs.filterMap fun i => l[i]?) = true) (hL : laterB l.toArray (qs.filterMap fun i => l[i]?) = true)
  (h : ∃ A : Act, (∀ s G (T : Type) (_ : Nonempty T) (f : T → World), (∀ u, C s G u ↔ ∃ x, u = f x) → wpQuiet P l.toArray (fun w' => ∃ x, w' = f x) (fun a' => a' = A) (qs.filterMap fun i => l[i]?) (putF a fx)) ∧ StepsA P .any A C l.toArray chs ls 0 chs ∧ ∀ G u, C (full chs) G u → Q .normal (AG A ls G) u) : (Code.region id l.toArray true).wp P Q a w := by
 obtain ⟨A, h1, h2, h3⟩ := h
 refine wp_region_any hm ?_
 simp only [flowB, Bool.and_eq_true, Array.all_eq_true_iff_forall_mem, List.all_eq_true] at hB
 obtain ⟨⟨⟨⟨⟨⟨⟨⟨⟨⟨b1, b2⟩, b3⟩, b4⟩, b5⟩, b6⟩, b7⟩, b8⟩, b9⟩, b10⟩, b11⟩ := hB
 have rng : ∀ (j : Nat) o, l.toArray[j]? = some o → j ∈ List.range l.toArray.size := fun j o ho => List.mem_range.2 (Array.getElem?_eq_some_iff.1 ho).1
 have hsel := Region.noSelect_spec b1
 have hgd : ∀ (j : Nat) o, l.toArray[j]? = some o → o.guard = none := fun j o ho => by
  have := b2 o (Array.mem_of_getElem? ho)
  simpa using this
 have hlow : ∀ (j : Nat) o, l.toArray[j]? = some o → ∀ e ∈ o.after, Region.binds .any e = true → e.on < j := fun j o ho e he hb => by
  have := b3 j (rng j o ho)
  rw [ho] at this
  simp only [Array.all_eq_true_iff_forall_mem] at this
  have := this e he
  rw [hb] at this
  simpa using this
 have hwr : ∀ (j m : Nat) o o' t, l.toArray[j]? = some o → l.toArray[m]? = some o' → t ∈ o.looksAt l.toArray → o'.dst = some t → ∃ e ∈ o.after, Region.binds .any e = true ∧ e.on = m := fun j m o o' t ho ho' ht hd => by
  have := b4 j (rng j o ho) m (rng m o' ho')
  rw [ho, ho'] at this
  simp only [Bool.and_eq_true] at this
  have := this.1
  rw [hd] at this
  simp only [Bool.or_eq_true, Bool.not_eq_true'] at this
  rcases this with h | h
  ·have h2 : (o.looksAt l.toArray).contains t = true := by simpa using ht
   rw [h2] at h; cases h
  ·exact waits_spec h
 have hone : ∀ (j m : Nat) o o' t, l.toArray[j]? = some o → l.toArray[m]? = some o' → o.dst = some t → o'.dst = some t → j = m := fun j m o o' t ho ho' hd hd' => by
  have := b4 j (rng j o ho) m (rng m o' ho')
  rw [ho, ho'] at this
  simp only [Bool.and_eq_true] at this
  have := this.2
  rw [hd, hd'] at this
  simpa using this
 have hA0 := h1 (fun _ => 0) (fun _ => undef) {u // C (fun _ => 0) (fun _ => undef) u} ⟨⟨_, hC0⟩⟩ Subtype.val (fun u => ⟨fun h => ⟨⟨u, h⟩, rfl⟩, fun ⟨x, e⟩ => e ▸ x.2⟩)
 have hsz := quiet_defers _ _ hA0
 rw [putF_size, putF_defers] at hsz
 have hls : ∀ p ∈ ls, ∃ o, l.toArray[p.1]? = some o ∧ o.dst = some p.2 ∧ p.2 < A.tmps.size ∧ ∃ c k, opAt chs c k = some p.1 := fun p hp => by
  have := b5 p hp
  cases ho : l.toArray[p.1]? with
  | none => rw [ho] at this; simp at this
  | some o =>
   rw [ho] at this
   simp only [decide_eq_true_eq, beq_iff_eq] at this
   exact ⟨o, rfl, this.2, by rw [hsz.2, hN]; exact this.1.1, (inCh_iff _).1 this.1.2⟩
 have notCh : ∀ j, (∀ c k, opAt chs c k ≠ some j) → inCh chs j = false := fun j h => by
  cases e : inCh chs j with
  | false => rfl
  | true => obtain ⟨c, k, hk⟩ := (inCh_iff j).1 e; exact absurd hk (h c k)
 have hb6 : ∀ (j : Nat) o, l.toArray[j]? = some o → (∀ c k, opAt chs c k ≠ some j) → j ∈ qs ∧ o.dst.isSome = true ∧ ∀ p ∈ ls, (o.looksAt l.toArray).contains p.2 = false := fun j o ho hc => by
  have := b6 j (rng j o ho)
  rw [notCh j hc, ho] at this
  simp only [Bool.false_or, Bool.and_eq_true, List.all_eq_true, Bool.not_eq_true'] at this
  exact ⟨by simpa using this.1, this.2.1, this.2.2⟩
 have hql : ∀ (j : Nat) o t, l.toArray[j]? = some o → (∀ c k, opAt chs c k ≠ some j) → t ∈ o.looksAt l.toArray → ∀ p ∈ ls, p.2 ≠ t := fun j o t ho hc ht p hp e => by
  have := (hb6 j o ho hc).2.2 p hp
  rw [e] at this
  have h2 : (o.looksAt l.toArray).contains t = true := by simpa using ht
  rw [h2] at this
  cases this
 have hqd : ∀ (j : Nat) o, l.toArray[j]? = some o → (∀ c k, opAt chs c k ≠ some j) → o.dst ≠ none := fun j o ho hc e => by
  have := (hb6 j o ho hc).2.1
  rw [e] at this
  cases this
 have huq : ∀ c k c' k' j, opAt chs c k = some j → opAt chs c' k' = some j → c = c' ∧ k = k' := fun c k c' k' j hk hk' => by
  have h1 := opAt_lt hk
  have h2 := opAt_lt hk'
  have := b8 c (List.mem_range.2 h1.1) k (List.mem_range.2 h1.2) c' (List.mem_range.2 h2.1) k' (List.mem_range.2 h2.2)
  rw [hk, hk'] at this
  simpa using this
 have htd : ∀ c k j, opAt chs c k = some j → ∃ o, l.toArray[j]? = some o := fun c k j hk => by
  have h1 := opAt_lt hk
  have := b9 c (List.mem_range.2 h1.1) k (List.mem_range.2 h1.2)
  rw [hk] at this
  exact ⟨_, Array.getElem?_eq_getElem (by simpa using this)⟩
 have htw : ∀ c k j i o, opAt chs c (k + 1) = some j → opAt chs c k = some i → l.toArray[j]? = some o → ∃ e ∈ o.after, Region.binds .any e = true ∧ e.on = i := fun c k j i o hk hk' ho => by
  have h1 := opAt_lt hk'
  have := b10 c (List.mem_range.2 h1.1) k (List.mem_range.2 h1.2)
  rw [hk, hk'] at this
  simp only [ho] at this
  exact waits_spec this
 have hqm : ∀ o', o' ∈ (qs.filterMap fun i => l[i]?) → o'.guard = none ∧ ∃ j : Nat, l.toArray[j]? = some o' := fun o' ho' => by
  obtain ⟨i, _, hi⟩ := List.mem_filterMap.1 ho'
  have hi' : l.toArray[i]? = some o' := by simpa using hi
  exact ⟨hgd i o' hi', i, hi'⟩
 have hq : ∀ (j : Nat) o d s G, l.toArray[j]? = some o → (∀ c k, opAt chs c k ≠ some j) → o.dst = some d → ∃ v, A.tmps[d]? = some v ∧ ∀ u, C s G u → o.quietAt P A (C s G) u v := fun j o d s G ho hc hd => by
  have hm' : o ∈ (qs.filterMap fun i => l[i]?) := List.mem_filterMap.2 ⟨j, (hb6 j o ho hc).1, by simpa using ho⟩
  by_cases hne : Nonempty {u // C s G u}
  case neg =>
   obtain ⟨v, d', hd', hv, _⟩ := quiet_at hsel _ _ hA0 (by rw [putF_size, hN]) hD hL hqm o hm'
   rw [hd] at hd'
   cases hd'
   exact ⟨v, hv, fun u hu => absurd ⟨⟨u, hu⟩⟩ hne⟩
  have hC : (fun w' => ∃ x : {u // C s G u}, w' = x.1) = C s G := by
   funext u
   exact propext ⟨fun ⟨x, e⟩ => e ▸ x.2, fun h => ⟨⟨u, h⟩, rfl⟩⟩
  have h := h1 s G {u // C s G u} hne Subtype.val (fun u => ⟨fun h => ⟨⟨u, h⟩, rfl⟩, fun ⟨x, e⟩ => e ▸ x.2⟩)
  rw [hC] at h
  obtain ⟨v, d', hd', hv, hqa⟩ := quiet_at hsel _ _ h (by rw [putF_size, hN]) hD hL hqm o hm'
  rw [hd] at hd'
  cases hd'
  exact ⟨v, hv, hqa⟩
 have hst : ∀ c k j o, opAt chs c k = some j → l.toArray[j]? = some o → StepAt P .any A C chs ls c k j o := fun c k j o hk ho => by
  have hlt := opAt_lt hk
  have h4 := StepsA.at_ chs 0 h2 c _ (List.getElem?_eq_getElem hlt.1)
  have e : chs.getD c [] = chs[c] := by rw [List.getD_eq_getElem?_getD, List.getElem?_eq_getElem hlt.1]; rfl
  unfold opAt at hk
  rw [e] at hk
  have h5 := StepsC.at_ _ 0 h4 k j o hk ho
  rwa [Nat.zero_add, Nat.zero_add] at h5
 have hp0 : pend l.toArray (Array.replicate l.toArray.size false) = l.toArray.size := by
  unfold pend
  rw [List.filter_eq_self.2 fun j hj => ?_, List.length_range]
  have hj' := List.mem_range.1 hj
  have : (Array.replicate l.toArray.size false).getD j true = false := getD_in (by simpa using hj') (getD_replicate_false _ _)
  rw [this]; rfl
 have g0 : ∀ j, j < l.toArray.size → (Array.replicate l.toArray.size false).getD j true = false := fun j hj => getD_in (by simpa using hj) (getD_replicate_false _ _)
 refine any_flow hsel hgd hlow hwr hone hls hql hqd huq htd htw hq hst h3 l.toArray.size (Array.replicate l.toArray.size false) a (fun _ => 0) (fun _ => undef) _ hC0 (by simp) hp0 (fun c k j hk => ⟨fun hg => ?_, fun h => by omega⟩) (fun c => Nat.zero_le _) ⟨hsz.2.symm, hsz.1.symm, fun t ht => ?_⟩
 ·obtain ⟨o, ho⟩ := htd c k j hk
  rw [g0 j (Array.getElem?_eq_some_iff.1 ho).1] at hg
  cases hg
 ·have none_ : ∀ (j : Nat) o, l.toArray[j]? = some o → o.dst = some t → False := fun j o ho hd => by
   have := ht j o ho hd
   rw [g0 j (Array.getElem?_eq_some_iff.1 ho).1] at this
   cases this
  rw [AG_else _ ls A t fun p hp e => ?_, last_slot _ _ hA0 (fun o ho hd => ?_), putF_else fx a t fun p hp e => ?_]
  ·have := b11 p.1 (List.mem_map_of_mem hp)
   rw [Array.any_eq_true] at this
   obtain ⟨i, hi, hh⟩ := this
   exact none_ i _ (Array.getElem?_eq_getElem hi) (by rw [← e]; simpa using hh)
  ·obtain ⟨i, _, hi⟩ := List.mem_filterMap.1 ho
   exact none_ i o (by simpa using hi) hd
  ·obtain ⟨o2, ho2, hd2, _⟩ := hls p hp
   exact none_ p.1 o2 ho2 (by rw [← e]; exact hd2)
end
end Go.Proofs.YtgdcphmmehedoaaGreat.Fx.RF